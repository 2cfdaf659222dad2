/- For every input, the law FnWindowsOne of the given statements returns true over the program at this commit, and its arguments read afterwards as before: its conditions: the package-level variables that the row lists hold what the program's own text lays into them, which the card ties. -/
import Derived.Test.YtanfalkpmmkklabDoorRows
import Derived.Test.YtanfalkpmmkklabDoorCards
import Derived.Test.YtanfalkpmmkklabDoorTie
import Derived.Test.YtanfalkpmmkklabDoorLawW
import Derived.Deep.DeepWitnessRowRef
import Derived.LaidMore
import Derived.MakeChecks
import Derived.SevenTiedAt
import Derived.WalkKit
import Derived.ProofKit
import Derived.OpenShut
import Derived.ShutString
import Derived.ChangeOld
import Derived.Below
namespace Go.Proofs.YtanfalkpmmkklabDoor.fnWindowsOne
open Go.ChangeShapes Go.WideShapes Go.ChangeAt Go.RowKit
open Go.ChangeMaps (open_string shut_string)
set_option linter.unusedVariables false

theorem own : ownKnob Tryd.prog.godebug = none := by kernel_rfl
theorem laidOut : laidOutB Tryd.prog = true := by kernel_rfl

/-- WHAT THE WALK IS TOLD OF A SLICE OF INTEGERS THAT CAME IN: it is nil; or it leads to a row of 'cap' cells, the numbers 'zs' (the first 'len' are its elements, the rest its spare room), each fitting its kind. -/
def IsRow (k : IntKind) (w : World) (a : Option Addr) (len cap : Nat) (zs : List Int) : Prop :=
  (a = none ∧ len = 0 ∧ cap = 0 ∧ zs = []) ∨
  ∃ x, a = some x ∧ len ≤ cap ∧ cap ≤ maxLen ∧ zs.length = cap ∧ (∀ i, i < zs.length → w.cell? (x.add i) = some (.int k (zs.getD i 0))) ∧ ∀ n ∈ zs, (Lit.int k n).wf = true

set_option maxRecDepth 100000 in
set_option maxHeartbeats 3200000 in
theorem walk (a0 : Option Addr) (len0 cap0 : Nat) (z0 : List Int) (a1 : Option Addr) (len1 cap1 : Nat) (z1 : List Int) (w : World) (w0 : IsRow .u8 w a0 len0 cap0 z0) (w1 : IsRow .u8 w a1 len1 cap1 z1) (hL : laidMet Tryd.prog Rows.fnWindowsOneRow.laid w) (hSh : w.ShapedOpen Tryd.prog) :
    Calls Tryd.prog 9 #[.slice a0 len0 cap0, .slice a1 len1 cap1] w fun e w' => e = .returned (.bool true) ∧ Below w.heap.size w w' := by
  have hB := bytes_of w0
  have hB1 := bytes_len (bytes_of w1)
  unfold maxLen at hB1
  by_cases hl : 1048576 < len0
  · have hdec : decide (1048576 < len0) = true := by simpa using hl
    go_enter Tryd.func9, Tryd.ntmps9
    go_wp2_with fail
    go_ret
    exact ⟨rfl, Below.refl _ _⟩
  have hdec : decide (1048576 < len0) = false := by simpa using hl
  by_cases hl1 : 1048576 < len1
  · go_enter Tryd.func9, Tryd.ntmps9
    go_wp2_with fail
    go_ret
    exact ⟨rfl, Below.refl _ _⟩
  have hm : len0 ≤ 1048576 := by omega
  have hm1 : len1 ≤ 1048576 := by omega
  clear hB1
  go_enter Tryd.func9, Tryd.ntmps9
  go_wp2_with fail
  refine (DrawWindowsValid_any hB).mono ?_
  rintro e wv1 ⟨v, u, l, s, rfl, r0, r1, l1, l6, s6, sm, b1⟩
  clear w0 w1 hB
  have BB := Lib.hid b1
  clear b1
  have R := Lib.hid r0
  clear r0
  have U := Lib.hid r1
  clear r1
  have SN := Lib.hid ((sent_of hL).grow BB.out)
  obtain ⟨aR, cR, rfl, kR, mR⟩ := tlen_n R.out.row
  obtain ⟨aU, cU, rfl, kU, mU⟩ := tlen_n U.out.row
  cases hb : isWin l s
  · have HB := Lib.hid hb
    clear hb
    go_wp2_with fail
    refine (valw_is (implWin_any R.out.row U.out.row) (congrArg Value.bool HB.out)).mono ?_
    rintro e wv2 ⟨rfl, b9⟩
    replace R := Lib.hid (R.out.grow b9)
    replace U := Lib.hid (U.out.grow b9)
    replace SN := Lib.hid (SN.out.grow b9)
    replace BB := Lib.hid (BB.out.trans (b9.mono BB.out.size))
    clear b9
    go_wp2_with fail
    refine (winS_is R.out.row U.out.row HB.out).mono ?_
    rintro e wv3 ⟨rfl, b9⟩
    replace R := Lib.hid (R.out.grow b9)
    replace U := Lib.hid (U.out.grow b9)
    replace SN := Lib.hid (SN.out.grow b9)
    replace BB := Lib.hid (BB.out.trans (b9.mono BB.out.size))
    clear b9
    go_wp2_with fail
    go_ret
    exact ⟨by first | rfl | (simp; done) | (simp; omega), BB.out⟩
  · have HB := Lib.hid hb; have WV := Lib.hid (isWin_iff.1 hb)
    have sl := WV.out.len
    clear hb
    go_wp2_with fail
    refine (valw_is (implWin_any R.out.row U.out.row) (congrArg Value.bool HB.out)).mono ?_
    rintro e wv2 ⟨rfl, b9⟩
    replace R := Lib.hid (R.out.grow b9)
    replace U := Lib.hid (U.out.grow b9)
    replace SN := Lib.hid (SN.out.grow b9)
    replace BB := Lib.hid (BB.out.trans (b9.mono BB.out.size))
    clear b9
    go_wp2_with fail
    refine (winS_is R.out.row U.out.row HB.out).mono ?_
    rintro e wv3 ⟨rfl, b9⟩
    replace R := Lib.hid (R.out.grow b9)
    replace U := Lib.hid (U.out.grow b9)
    replace SN := Lib.hid (SN.out.grow b9)
    replace BB := Lib.hid (BB.out.trans (b9.mono BB.out.size))
    clear b9
    obtain ⟨q, hq⟩ : ∃ j : Nat, len1 % l.length = j := ⟨_, rfl⟩
    have qn : q < l.length := by rw [← hq]; exact Nat.mod_lt _ (by omega)
    have qe : (len1 : Int) % (l.length : Int) = (q : Int) := by rw [← hq, Int.natCast_emod]
    have qt : IntKind.i64.wrap ((len1 : Int).tmod (l.length : Int)) = (q : Int) := by rw [Int.tmod_eq_emod_of_nonneg (by omega), qe]; exact IntWalk.i64_in _ (by omega)
    have qz : ((l.length : Int) == 0) = false := beq_eq_false_iff_ne.2 (by omega)
    have q3 : IntKind.i64.wrap (q : Int) = (q : Int) := IntWalk.i64_in _ (by omega)
    have q4 : (0 : Int) ≤ (q : Int) := by omega
    have q5 : (q : Int) < (l.length : Int) := by omega
    clear hq
    obtain ⟨a, ha⟩ : ∃ a, l[q] = a := ⟨_, rfl⟩
    have o := one_win WV.out qn
    rw [gW_get qn, ha] at o
    have HA := Lib.hid ha
    have O1 := Lib.hid o
    obtain ⟨d1, d2, -⟩ := tight_drop (tightOf_some o)
    have OY : Hid (youngOf [a] [] = some [a.1]) := Lib.hid d1; have OO : Hid (oldOf [a] [] = some [a.2]) := Lib.hid d2
    clear o ha d1 d2
    obtain ⟨gR, pR, eR, k5, k6, k7, k8, hp⟩ := R.out.at (by omega)
    simp only [Value.slice.injEq] at eR
    obtain ⟨rfl, hclR, rfl⟩ := eR
    have d1 := (hp q qn).top
    have d2 := (hp q qn).bot
    clear hp hclR k5 k6 k7 k8
    rw [HA.out] at d1 d2
    have D1 := Lib.hid d1; have D2 := Lib.hid d2
    go_wp2_with fail
    clear d1 d2
    have O := Lib.hid ((own_one 34 (Nat.le_refl wv3.heap.size) a).grow ((Below.refl _ _).alloc (Nat.le_refl _) (.cells #[] 34)))
    have E := Lib.hid (own_new 34 (Nat.le_refl (wv3.alloc (.cells #[.int .i64 a.1, .int .i64 a.2] 34)).heap.size))
    have b9 : Below wv3.heap.size wv3 ((wv3.alloc (.cells #[.int .i64 a.1, .int .i64 a.2] 34)).alloc (.cells #[] 34)) := ((Below.refl _ _).alloc (Nat.le_refl _) _).alloc (by simp) _
    rw [World.size_alloc] at E
    replace D1 := Lib.hid ((Below.cell b9 (cell_below D1.out)).trans D1.out)
    replace D2 := Lib.hid ((Below.cell b9 (cell_below D2.out)).trans D2.out)
    replace R := Lib.hid (R.out.grow b9)
    replace U := Lib.hid (U.out.grow b9)
    replace SN := Lib.hid (SN.out.grow b9)
    replace BB := Lib.hid (BB.out.trans (b9.mono BB.out.size))
    clear b9
    generalize hW : ((wv3.alloc (.cells #[.int .i64 a.1, .int .i64 a.2] 34)).alloc (.cells #[] 34)) = wv4 at R U SN O E D1 D2 BB ⊢
    clear hW
    go_wp2_with fail
    refine (lst_yes (implTightW_any SN.out O.out.row E.out.row) O1.out).mono ?_
    rintro e wv5 ⟨vX, rfl, o9, b9⟩
    replace D1 := Lib.hid ((Below.cell b9 (cell_below D1.out)).trans D1.out)
    replace D2 := Lib.hid ((Below.cell b9 (cell_below D2.out)).trans D2.out)
    replace R := Lib.hid (R.out.grow b9)
    replace U := Lib.hid (U.out.grow b9)
    replace SN := Lib.hid (SN.out.grow b9)
    replace O := Lib.hid (O.out.grow b9)
    replace E := Lib.hid (E.out.grow b9)
    replace BB := Lib.hid (BB.out.trans (b9.mono BB.out.size))
    clear b9
    have X := Lib.hid o9
    clear o9
    go_wp2_with fail
    refine (il_yes (implYoung_any SN.out O.out.row E.out.row) OY.out).mono ?_
    rintro e wv6 ⟨vY, rfl, o9, b9⟩
    replace D1 := Lib.hid ((Below.cell b9 (cell_below D1.out)).trans D1.out)
    replace D2 := Lib.hid ((Below.cell b9 (cell_below D2.out)).trans D2.out)
    replace R := Lib.hid (R.out.grow b9)
    replace U := Lib.hid (U.out.grow b9)
    replace SN := Lib.hid (SN.out.grow b9)
    replace O := Lib.hid (O.out.grow b9)
    replace E := Lib.hid (E.out.grow b9)
    replace X := Lib.hid (X.out.grow b9)
    replace BB := Lib.hid (BB.out.trans (b9.mono BB.out.size))
    clear b9
    have Y := Lib.hid o9
    clear o9
    go_wp2_with fail
    refine (il_yes (implOldW_any SN.out O.out.row E.out.row) OO.out).mono ?_
    rintro e wv7 ⟨vZ, rfl, o9, b9⟩
    replace D1 := Lib.hid ((Below.cell b9 (cell_below D1.out)).trans D1.out)
    replace D2 := Lib.hid ((Below.cell b9 (cell_below D2.out)).trans D2.out)
    replace R := Lib.hid (R.out.grow b9)
    replace U := Lib.hid (U.out.grow b9)
    replace SN := Lib.hid (SN.out.grow b9)
    replace O := Lib.hid (O.out.grow b9)
    replace E := Lib.hid (E.out.grow b9)
    replace X := Lib.hid (X.out.grow b9)
    replace Y := Lib.hid (Y.out.grow b9)
    replace BB := Lib.hid (BB.out.trans (b9.mono BB.out.size))
    clear b9
    have Z := Lib.hid o9
    clear o9
    go_wp2_with fail
    refine (sameWindows_yes X.out.row O.out.row rfl).mono ?_
    rintro e wv8 ⟨rfl, b9⟩
    replace D1 := Lib.hid ((Below.cell b9 (cell_below D1.out)).trans D1.out)
    replace D2 := Lib.hid ((Below.cell b9 (cell_below D2.out)).trans D2.out)
    replace R := Lib.hid (R.out.grow b9)
    replace U := Lib.hid (U.out.grow b9)
    replace SN := Lib.hid (SN.out.grow b9)
    replace O := Lib.hid (O.out.grow b9)
    replace E := Lib.hid (E.out.grow b9)
    replace X := Lib.hid (X.out.grow b9)
    replace Y := Lib.hid (Y.out.grow b9)
    replace Z := Lib.hid (Z.out.grow b9)
    replace BB := Lib.hid (BB.out.trans (b9.mono BB.out.size))
    clear b9
    have d9 := D1.out
    go_wp2_with fail
    clear d9
    have N0 := Lib.hid (iown_one (Nat.le_refl wv8.heap.size) a.1)
    have b9 : Below wv8.heap.size wv8 (wv8.alloc (.cells #[.int .i64 a.1] 3)) := (Below.refl _ _).alloc (Nat.le_refl _) _
    replace D1 := Lib.hid ((Below.cell b9 (cell_below D1.out)).trans D1.out)
    replace D2 := Lib.hid ((Below.cell b9 (cell_below D2.out)).trans D2.out)
    replace R := Lib.hid (R.out.grow b9)
    replace U := Lib.hid (U.out.grow b9)
    replace SN := Lib.hid (SN.out.grow b9)
    replace O := Lib.hid (O.out.grow b9)
    replace E := Lib.hid (E.out.grow b9)
    replace X := Lib.hid (X.out.grow b9)
    replace Y := Lib.hid (Y.out.grow b9)
    replace Z := Lib.hid (Z.out.grow b9)
    replace BB := Lib.hid (BB.out.trans (b9.mono BB.out.size))
    clear b9
    generalize hW : (wv8.alloc (.cells #[.int .i64 a.1] 3)) = wv9 at R U SN O E X Y Z N0 D1 D2 BB ⊢
    clear hW
    refine (isame_yes Y.out.row N0.out.row rfl).mono ?_
    rintro e wv10 ⟨rfl, b9⟩
    replace D1 := Lib.hid ((Below.cell b9 (cell_below D1.out)).trans D1.out)
    replace D2 := Lib.hid ((Below.cell b9 (cell_below D2.out)).trans D2.out)
    replace R := Lib.hid (R.out.grow b9)
    replace U := Lib.hid (U.out.grow b9)
    replace SN := Lib.hid (SN.out.grow b9)
    replace O := Lib.hid (O.out.grow b9)
    replace E := Lib.hid (E.out.grow b9)
    replace X := Lib.hid (X.out.grow b9)
    replace Y := Lib.hid (Y.out.grow b9)
    replace Z := Lib.hid (Z.out.grow b9)
    replace N0 := Lib.hid (N0.out.grow b9)
    replace BB := Lib.hid (BB.out.trans (b9.mono BB.out.size))
    clear b9
    have d9 := D2.out
    go_wp2_with fail
    clear d9
    have N1 := Lib.hid (iown_one (Nat.le_refl wv10.heap.size) a.2)
    have b9 : Below wv10.heap.size wv10 (wv10.alloc (.cells #[.int .i64 a.2] 3)) := (Below.refl _ _).alloc (Nat.le_refl _) _
    replace D1 := Lib.hid ((Below.cell b9 (cell_below D1.out)).trans D1.out)
    replace D2 := Lib.hid ((Below.cell b9 (cell_below D2.out)).trans D2.out)
    replace R := Lib.hid (R.out.grow b9)
    replace U := Lib.hid (U.out.grow b9)
    replace SN := Lib.hid (SN.out.grow b9)
    replace O := Lib.hid (O.out.grow b9)
    replace E := Lib.hid (E.out.grow b9)
    replace X := Lib.hid (X.out.grow b9)
    replace Y := Lib.hid (Y.out.grow b9)
    replace Z := Lib.hid (Z.out.grow b9)
    replace N0 := Lib.hid (N0.out.grow b9)
    replace BB := Lib.hid (BB.out.trans (b9.mono BB.out.size))
    clear b9
    generalize hW : (wv10.alloc (.cells #[.int .i64 a.2] 3)) = wv11 at R U SN O E X Y Z N0 N1 D1 D2 BB ⊢
    clear hW
    refine (isame_yes Z.out.row N1.out.row rfl).mono ?_
    rintro e wv12 ⟨rfl, b9⟩
    replace D1 := Lib.hid ((Below.cell b9 (cell_below D1.out)).trans D1.out)
    replace D2 := Lib.hid ((Below.cell b9 (cell_below D2.out)).trans D2.out)
    replace R := Lib.hid (R.out.grow b9)
    replace U := Lib.hid (U.out.grow b9)
    replace SN := Lib.hid (SN.out.grow b9)
    replace O := Lib.hid (O.out.grow b9)
    replace E := Lib.hid (E.out.grow b9)
    replace X := Lib.hid (X.out.grow b9)
    replace Y := Lib.hid (Y.out.grow b9)
    replace Z := Lib.hid (Z.out.grow b9)
    replace N0 := Lib.hid (N0.out.grow b9)
    replace N1 := Lib.hid (N1.out.grow b9)
    replace BB := Lib.hid (BB.out.trans (b9.mono BB.out.size))
    clear b9
    go_wp2_with fail
    go_ret
    exact ⟨by first | rfl | (simp; done) | (simp; omega), BB.out⟩

/-- A start that fits: the heap that the program's own start-up code for the listed variables leaves. -/
noncomputable def laidWorld (os : Os) : World := World.doorLaid Tryd.prog 600 os
theorem laid_met (os : Os) (args : Array Value) : laidMetH Tryd.prog Rows.fnWindowsOneRow.laid ((laidWorld os).forCall (fun _ _ => 0) ⟨#[], args, []⟩).memory := by
  rw [MakeChecks.laidMetH_plain _ _ _ (by kernel_rfl)]
  exact laidMet_of_run' 8 (by kernel_rfl) (by kernel_rfl)
theorem reads (os : Os) {H : Type} (enc : TypeId × Value → H) : ∃ x, DataW.whole enc Tryd.prog ((laidWorld os).forCall (fun _ _ => 0) ⟨#[], #[.slice none 0 0, .slice none 0 0], []⟩).memory Tryd.f9.params.toList Rows.fnWindowsOneSpec.vars false #[(Value.slice none 0 0), (Value.slice none 0 0)].toList 8 = some x :=
  Option.isSome_iff_exists.1 (by kernel_rfl)

set_option maxRecDepth 100000 in
theorem lifted (os : Os) (started : os.Started) (H : Type) (enc : TypeId × Value → H) (F : Stop.Interp) :
    ReturnsInHanded {} Tryd.checked os 9 .any ((OpenSpec.ofChange Rows.fnWindowsOneSpec).preRow enc Tryd.prog Tryd.f9 Rows.fnWindowsOneRow.domain false Rows.fnWindowsOneRow.laid) (((OpenSpec.ofChange Rows.fnWindowsOneSpec).at F).post enc Tryd.prog Tryd.f9 false true false false) := by
  obtain ⟨x, hx⟩ := reads os enc
  refine returnsInHanded_of_row (C := Tryd.checked) (s := OpenSpec.ofChange Rows.fnWindowsOneSpec) own started (by kernel_rfl) Tryd.func9
    (witness_row_atRef (enc := enc) (C := Tryd.checked) false (laidWorld os) #[.slice none 0 0, .slice none 0 0] rfl (by kernel_rfl) (by kernel_rfl) (by kernel_rfl)
      (OpenSpec.preRow_of_cond 8 hx (by kernel_rfl) (fun k hk => by cases hk) (by kernel_rfl) (laid_met os _))) ?_
  intro W base args ds gs before hval0 hW hcnd _ hsz hLH hSh _
  have hL : laidMet Tryd.prog Rows.fnWindowsOneRow.laid W := by rw [← MakeChecks.laidMetH_plain _ _ _ (by kernel_rfl)]; exact hLH
  have hval : ∀ (j : Nat) t v, Tryd.f9.params[j]? = some t → args[j]? = some v → Value.okWide Tryd.prog W .any base t v := hval0
  have hW' := hW
  obtain ⟨p, q, hA0, hV, rfl, hfz, hnd⟩ := hW
  have hA : DataW.TrodAll enc Tryd.prog W 0 (fun _ => true) true Tryd.f9.params.toList args.toList ds p := hA0
  rw [Tryd.params9] at hA hval
  obtain ⟨v0, vs0, d0, ds0, p0, q0, hargs, rfl, rfl, h0, r0⟩ := trodAll_cons hA
  obtain ⟨v1, vs1, d1, ds1, p1, q1, rfl, rfl, rfl, h1, r1⟩ := trodAll_cons r0
  obtain ⟨rfl, rfl, rfl⟩ := trodAll_nil r1
  obtain rfl : args = #[v0, v1] := by cases args; simp_all
  obtain ⟨g1, rfl, hback⟩ := sent_back0 hL hV
  obtain ⟨a0, len0, cap0, rfl⟩ := okWide_slice Tryd.underlying22 (hval 0 22 v0 rfl rfl)
  have k0 := h0
  have lt0 : ∀ x ∈ p0, x.block < W.heap.size := by obtain ⟨m, hm⟩ := k0; exact DataW.trod_lt m _ _ _ hm
  obtain ⟨z0, w0⟩ : ∃ zs, IsRow .u8 W a0 len0 cap0 zs := by
    obtain ⟨fuel, hf⟩ := h0
    rcases open_ints Tryd.underlying22 Tryd.underlying5 (by kernel_rfl) hf with ⟨hcs, _⟩ | ⟨x, l, c, zs, hcs, _, hl, hm, hz, _, hcell, hwz⟩
    · simp [Value.cells] at hcs
      obtain ⟨rfl, rfl, rfl⟩ := hcs
      exact ⟨[], .inl ⟨rfl, rfl, rfl, rfl⟩⟩
    · simp [Value.cells] at hcs
      obtain ⟨rfl, rfl, rfl⟩ := hcs
      exact ⟨zs, .inr ⟨_, rfl, hl, hm, by simpa using hz, hcell, hwz⟩⟩
  obtain ⟨a1, len1, cap1, rfl⟩ := okWide_slice Tryd.underlying22 (hval 1 22 v1 rfl rfl)
  have k1 := h1
  have lt1 : ∀ x ∈ p1, x.block < W.heap.size := by obtain ⟨m, hm⟩ := k1; exact DataW.trod_lt m _ _ _ hm
  obtain ⟨z1, w1⟩ : ∃ zs, IsRow .u8 W a1 len1 cap1 zs := by
    obtain ⟨fuel, hf⟩ := h1
    rcases open_ints Tryd.underlying22 Tryd.underlying5 (by kernel_rfl) hf with ⟨hcs, _⟩ | ⟨x, l, c, zs, hcs, _, hl, hm, hz, _, hcell, hwz⟩
    · simp [Value.cells] at hcs
      obtain ⟨rfl, rfl, rfl⟩ := hcs
      exact ⟨[], .inl ⟨rfl, rfl, rfl, rfl⟩⟩
    · simp [Value.cells] at hcs
      obtain ⟨rfl, rfl, rfl⟩ := hcs
      exact ⟨zs, .inr ⟨_, rfl, hl, hm, by simpa using hz, hcell, hwz⟩⟩
  clear hA0 hval0
  refine (walk a0 len0 cap0 z0 a1 len1 cap1 z1 W w0 w1 hL hSh).mono fun e W' ⟨he, bel⟩ => ?_
  subst he
  exact ⟨_, rfl, _, _, _, [], _, _, hW', trodAll_mk1 (shut_bool Tryd.underlying4 _), (trodAll_cons_mk (Below.trod laidOut (by kernel_rfl) (of_decide_eq_true (by kernel_rfl)) k0 bel lt0) (trodAll_cons_mk (Below.trod laidOut (by kernel_rfl) (of_decide_eq_true (by kernel_rfl)) k1 bel lt1) trodAll_mk0)), hback _ _ bel, bel.frame _, fun h => by cases h⟩

theorem said : Rows.fnWindowsOneRow.holds Tryd.pinned (OpenSpec.ofChange Rows.fnWindowsOneSpec) :=
  OpenClaim.holds_of_cond 9 Tryd.f9 rfl rfl rfl rfl rfl rfl rfl ⟨rfl, rfl, rfl, rfl, rfl⟩ rfl rfl rfl rfl rfl (by kernel_rfl) Tryd.func9 (by kernel_rfl)
    (of_decide_eq_true (by kernel_rfl)) (by unfold Func.isWrapper; first | (rw [if_pos (by decide +kernel)]; kernel_rfl) | (rw [if_neg (by decide +kernel)]; exact ⟨rfl, rfl⟩))
    (fun os started H enc _ F => by rw [OpenClaim.pre_eq_preRow]; exact lifted os started H enc F)

/-- No parameter wants a stand-in; the program's own looks are as the card says. -/
theorem plain (f : FuncId) (fn : Func) (hf : Tryd.pinned.checked.prog.funcNamed "loop.example/icecores/laws.FnWindowsOne" = some f) (hfn : Tryd.pinned.checked.prog.funcs[f]? = some fn) :
    true = Tryd.pinned.checked.prog.looks [] ∧ ∀ (j : Nat) t, fn.params[j]? = some t → Tryd.pinned.checked.prog.wantsStandIn t = false := by
  obtain rfl : f = 9 := Option.some.inj ((show Tryd.prog.funcNamed "loop.example/icecores/laws.FnWindowsOne" = some 9 by kernel_rfl).symm.trans hf) |>.symm
  obtain rfl : fn = Tryd.f9 := (Option.some.inj (Tryd.func9.symm.trans hfn)).symm
  refine ⟨by kernel_rfl, fun j t ht => ?_⟩
  have hall : (Tryd.f9.params.toList.all fun u => !Tryd.prog.wantsStandIn u) = true := by kernel_rfl
  exact (show Tryd.prog.wantsStandIn t = false by simpa using List.all_eq_true.1 hall t (by simpa using Array.mem_of_getElem? ht))

/-- The card: the row, and what its listed variables hold tied to the program's text. -/
theorem proved : Rows.FnWindowsOneCardSaid :=
  Claim7.holds_tied_plain_at .later [] _ _ _ _ said (fun _ h => by cases h) (by kernel_rfl) (fun _ h => by cases h) fnWindowsOne_row_tie rfl ⟨rfl, rfl⟩ (by kernel_rfl) rfl plain (by kernel_rfl)
#print axioms proved
end Go.Proofs.YtanfalkpmmkklabDoor.fnWindowsOne
