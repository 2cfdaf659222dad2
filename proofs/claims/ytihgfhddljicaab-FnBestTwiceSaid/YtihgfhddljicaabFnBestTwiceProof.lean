/- For every input, the law FnBestTwice of the given statements returns true over the program at this commit, and its arguments read afterwards as before: no condition. -/
import Derived.Test.YtihgfhddljicaabRows
import Derived.Test.YtihgfhddljicaabLawC
import Derived.WalkKit
import Derived.ProofKit
import Derived.OpenShut
import Derived.ShutString
import Derived.ChangeOld
import Derived.Below
namespace Go.Proofs.Ytihgfhddljicaab.fnBestTwice
open Go.ChangeShapes Go.WideShapes Go.ChangeAt Go.RowKit
open Go.ChangeMaps (open_string shut_string)
set_option linter.unusedVariables false

theorem own : ownKnob Try.prog.godebug = none := by kernel_rfl
theorem laidOut : laidOutB Try.prog = true := by kernel_rfl

/-- WHAT THE WALK IS TOLD OF A SLICE OF INTEGERS THAT CAME IN: it is nil; or it leads to a row of 'cap' cells, the numbers 'zs' (the first 'len' are its elements, the rest its spare room), each fitting its kind. -/
def IsRow (k : IntKind) (w : World) (a : Option Addr) (len cap : Nat) (zs : List Int) : Prop :=
  (a = none ∧ len = 0 ∧ cap = 0 ∧ zs = []) ∨
  ∃ x, a = some x ∧ len ≤ cap ∧ cap ≤ maxLen ∧ zs.length = cap ∧ (∀ i, i < zs.length → w.cell? (x.add i) = some (.int k (zs.getD i 0))) ∧ ∀ n ∈ zs, (Lit.int k n).wf = true

set_option maxRecDepth 100000 in
set_option maxHeartbeats 3200000 in
theorem walk (a0 : Option Addr) (len0 cap0 : Nat) (z0 : List Int) (w : World) (w0 : IsRow .u8 w a0 len0 cap0 z0) :
    Calls Try.prog 4 #[.slice a0 len0 cap0] w fun e w' => e = .returned (.bool true) ∧ Below w.heap.size w w' := by
  have hB := bytes_of w0
  by_cases hl : 1048576 < len0
  · have hdec : decide (1048576 < len0) = true := by simpa using hl
    go_enter Try.func4, Try.ntmps4
    go_wp2_with fail
    go_ret
    exact ⟨rfl, Below.refl _ _⟩
  have hdec : decide (1048576 < len0) = false := by simpa using hl
  have hm : len0 ≤ 1048576 := by omega
  go_enter Try.func4, Try.ntmps4
  go_wp2_with fail
  refine (DrawCutsBest_any hB).mono ?_
  rintro e wv1 ⟨v, c, lo, mo, rfl, r0, hc20, b1⟩
  clear w0 hB
  have BB := Lib.hid b1
  clear b1
  have R := Lib.hid r0
  clear r0
  obtain ⟨aR, cR, rfl, kR, mR⟩ := len_n R.out
  cases hb : bestB c lo mo with
  | none =>
    have HB := Lib.hid hb
    clear hb
    go_wp2_with fail
    refine (bestI_no R.out HB.out).mono ?_
    rintro e wv2 ⟨vX, rfl, o9, b9⟩
    replace R := Lib.hid (R.out.grow b9)
    replace BB := Lib.hid (BB.out.trans (b9.mono BB.out.size))
    clear b9
    have X := Lib.hid o9
    clear o9
    go_wp2_with fail
    refine (bestS_no R.out HB.out).mono ?_
    rintro e wv3 ⟨vY, rfl, o9, b9⟩
    replace R := Lib.hid (R.out.grow b9)
    replace X := Lib.hid (X.out.grow b9)
    replace BB := Lib.hid (BB.out.trans (b9.mono BB.out.size))
    clear b9
    have Y := Lib.hid o9
    clear o9
    go_wp2_with fail
    refine (isame_yes X.out.row Y.out.row rfl).mono ?_
    rintro e wv4 ⟨rfl, b9⟩
    replace R := Lib.hid (R.out.grow b9)
    replace X := Lib.hid (X.out.grow b9)
    replace Y := Lib.hid (Y.out.grow b9)
    replace BB := Lib.hid (BB.out.trans (b9.mono BB.out.size))
    clear b9
    go_wp2_with fail
    refine (isame_yes X.out.row Y.out.row rfl).mono ?_
    rintro e wv5 ⟨rfl, b9⟩
    replace R := Lib.hid (R.out.grow b9)
    replace X := Lib.hid (X.out.grow b9)
    replace Y := Lib.hid (Y.out.grow b9)
    replace BB := Lib.hid (BB.out.trans (b9.mono BB.out.size))
    clear b9
    go_wp2_with fail
    go_ret
    exact ⟨by first | rfl | (simp; done) | (simp; omega), BB.out⟩
  | some m =>
    have HB := Lib.hid hb
    obtain ⟨a, b, rfl, rfl, hib⟩ := bestB_some hb
    have IB' := Lib.hid hib
    obtain ⟨l1, ln⟩ := hib.toAllowed.size
    obtain ⟨n1, n16⟩ := hib.toAllowed.len
    clear hb hib
    go_wp2_with fail
    refine (bestI_yes R.out HB.out).mono ?_
    rintro e wv2 ⟨vP, rfl, o9, b9⟩
    replace R := Lib.hid (R.out.grow b9)
    replace BB := Lib.hid (BB.out.trans (b9.mono BB.out.size))
    clear b9
    have P := Lib.hid o9
    clear o9
    go_wp2_with fail
    refine (bestS_yes R.out HB.out).mono ?_
    rintro e wv3 ⟨vY, rfl, o9, b9⟩
    replace R := Lib.hid (R.out.grow b9)
    replace P := Lib.hid (P.out.grow b9)
    replace BB := Lib.hid (BB.out.trans (b9.mono BB.out.size))
    clear b9
    have Y := Lib.hid o9
    clear o9
    go_wp2_with fail
    refine (isame_yes P.out.row Y.out.row rfl).mono ?_
    rintro e wv4 ⟨rfl, b9⟩
    replace R := Lib.hid (R.out.grow b9)
    replace P := Lib.hid (P.out.grow b9)
    replace Y := Lib.hid (Y.out.grow b9)
    replace BB := Lib.hid (BB.out.trans (b9.mono BB.out.size))
    clear b9
    clear Y
    have O9 := Lib.hid (iown_new (w := wv4) (Nat.le_refl wv4.heap.size))
    have A9 := Lib.hid ((Below.refl wv4.heap.size wv4).alloc (Nat.le_refl _) (.cells #[] 3))
    go_wp2_with fail
    go_loopg [10, 11] c.length (fun k y x wr => ∃ j : Nat, x = .int .i64 j ∧ j + k = c.length ∧ IOwn wr wv4.heap.size y ((c.map (2 * ·)).take j) ∧ Below wv4.heap.size wv4 wr)
    case atStart => exact ⟨0, rfl, by omega, by rw [show (c.map (2 * ·)).take 0 = [] from rfl]; exact O9.out, A9.out⟩
    case round =>
      obtain ⟨wv5, rfl⟩ : ∃ x, x = wr := ⟨wr, rfl⟩
      obtain ⟨j, rfl, hk, ho, hb⟩ := hrel
      have K := Lib.hid hk; have O := Lib.hid ho; have B := Lib.hid hb
      have hjn : j ≤ c.length := by omega
      have hz7 := hb.size
      clear hk ho hb O9 A9
      replace R := Lib.hid (R.out.grow B.out)
      replace P := Lib.hid (P.out.grow B.out)
      replace BB := Lib.hid (BB.out.trans (B.out.mono BB.out.size))
      by_cases hlt : j < c.length
      · have i1 : (j : Int) < (c.length : Int) := by omega
        have i2 : (0 : Int) ≤ (j : Int) := by omega
        obtain ⟨gx, px, qx, ex, k1x, k2x⟩ := known_n R.out rfl (by omega)
        simp only [Value.slice.injEq, true_and] at ex
        obtain ⟨rfl, rfl⟩ := ex
        have d1 := R.out.cells j hlt
        have cb := (isSig_iff.1 IB'.out.sig).2.2 _ (List.getElem_mem hlt)
        have e1 : IntKind.i64.wrap (2 * c[j]) = 2 * c[j] := IntWalk.i64_in _ (by omega)
        have n1 := new_one wv5 (.int .i64 (2 * c[j])) 3
        have N1 := Lib.hid n1
        have BW := Lib.hid ((Below.refl wv5.heap.size wv5).alloc (Nat.le_refl _) (.cells #[.int .i64 (2 * c[j])] 3))
        have ST : Hid ((c.map (2 * ·)).take j ++ [2 * c[j]] = (c.map (2 * ·)).take (j + 1)) := Lib.hid ((List.take_succ_eq_append_getElem (l := c.map (2 * ·)) (i := j) (by rw [List.length_map]; exact hlt)).symm ▸ (by simp))
        clear n1
        go_wp2_with (at_builtin; refine iappend_one intT rfl _ _ rfl (B := wv4.heap.size) _ _ rfl (O.out.grow BW.out) ⟨wv5.heap.size, 0, none⟩ (2 * c[j]) rfl N1.out (by rw [show ((c.map (2 * ·)).take j).length = j by rw [List.length_take, List.length_map]; omega]; omega) (by simp; omega) ?_; intro v8 w8 hown8 hg8)
        rw [ST.out] at hown8
        have O8 := Lib.hid hown8
        have B8 := Lib.hid (B.out.trans ((BW.out.mono hz7).trans ((O.out.grow BW.out).below hg8 (by simp; omega))))
        clear hown8 hg8
        go_wp2_with fail
        go_roundg (gk - 1)
        case measure => have := K.out; omega
        case rel => exact ⟨j + 1, by go_num, by have := K.out; omega, O8.out, B8.out⟩
      · have hj : j = c.length := by omega
        have hd := O.out
        rw [hj] at hd
        clear hlt hz7
        have nlt : ¬ (j : Int) < (c.length : Int) := by omega
        have X := Lib.hid hd
        clear hd
        clear O
        have X2 : Hid (IOwn wv5 _ _ (c.map (2 * ·))) := Lib.hid (by have := X.out; rw [List.take_of_length_le (by rw [List.length_map]; exact Nat.le_refl _)] at this; exact this)
        clear X
        have ht := best_twice HB.out
        cases hs : isSig (c.map (2 * ·))
        · rw [hs, if_neg (by simp)] at ht
          have HT := Lib.hid ht
          clear ht hs
          go_wp2_with fail
          refine (bestI_no X2.out.row HT.out).mono ?_
          rintro e wv6 ⟨vZ, rfl, o9, b9⟩
          replace R := Lib.hid (R.out.grow b9)
          replace P := Lib.hid (P.out.grow b9)
          replace X2 := Lib.hid (X2.out.grow b9)
          replace BB := Lib.hid (BB.out.trans (b9.mono BB.out.size))
          clear b9
          have Z := Lib.hid o9
          clear o9
          obtain ⟨az, cz, rfl, k1z, k2z⟩ := len_n Z.out.row
          go_wp2_with fail
          go_ret
          exact ⟨by first | rfl | (simp; done) | (simp; omega), BB.out⟩
        · rw [hs, if_pos rfl] at ht
          have HT := Lib.hid ht
          clear ht hs
          go_wp2_with fail
          refine (bestI_yes X2.out.row HT.out).mono ?_
          rintro e wv6 ⟨vZ, rfl, o9, b9⟩
          replace R := Lib.hid (R.out.grow b9)
          replace P := Lib.hid (P.out.grow b9)
          replace X2 := Lib.hid (X2.out.grow b9)
          replace BB := Lib.hid (BB.out.trans (b9.mono BB.out.size))
          clear b9
          have Z := Lib.hid o9
          clear o9
          go_wp2_with fail
          refine (isame_yes Z.out.row P.out.row rfl).mono ?_
          rintro e wv7 ⟨rfl, b9⟩
          replace R := Lib.hid (R.out.grow b9)
          replace P := Lib.hid (P.out.grow b9)
          replace X2 := Lib.hid (X2.out.grow b9)
          replace Z := Lib.hid (Z.out.grow b9)
          replace BB := Lib.hid (BB.out.trans (b9.mono BB.out.size))
          clear b9
          go_wp2_with fail
          go_ret
          exact ⟨by first | rfl | (simp; done) | (simp; omega), BB.out⟩

set_option maxRecDepth 100000 in
theorem lifted (os : Os) (started : os.Started) (H : Type) (enc : TypeId × Value → H) :
    ReturnsInHanded {} Try.checked os 4 .any (Rows.fnBestTwiceSpec.pre6 enc Try.prog Try.f4 Rows.fnBestTwiceRow.domain false) (Rows.fnBestTwiceSpec.post enc Try.prog Try.f4 false true false false) := by
  refine returnsInHanded_of_change (C := Try.checked) own started (by kernel_rfl) Try.func4
    (ChangeSpec.witness6 (enc := enc) (C := Try.checked) false ⟨#[], #[.slice none 0 0], []⟩ 8 (by kernel_rfl) (by kernel_rfl) (by kernel_rfl) (by kernel_rfl)) ?_
  intro W base args ds gs before hval0 hW hcnd _
  have hval : ∀ (j : Nat) t v, Try.f4.params[j]? = some t → args[j]? = some v → Value.okWide Try.prog W .any base t v := hval0
  have hW' := hW
  obtain ⟨p, q, hA0, hV, rfl, hfz, hnd⟩ := hW
  have hA : DataW.TrodAll enc Try.prog W 0 (fun _ => true) true Try.f4.params.toList args.toList ds p := hA0
  rw [Try.params4] at hA hval
  obtain ⟨v0, vs0, d0, ds0, p0, q0, hargs, rfl, rfl, h0, r0⟩ := trodAll_cons hA
  obtain ⟨rfl, rfl, rfl⟩ := trodAll_nil r0
  obtain rfl : args = #[v0] := by cases args; simp_all
  obtain ⟨rfl, rfl⟩ := trodVars_none hV
  obtain ⟨a0, len0, cap0, rfl⟩ := okWide_slice Try.underlying22 (hval 0 22 v0 rfl rfl)
  have k0 := h0
  have lt0 : ∀ x ∈ p0, x.block < W.heap.size := by obtain ⟨m, hm⟩ := k0; exact DataW.trod_lt m _ _ _ hm
  obtain ⟨z0, w0⟩ : ∃ zs, IsRow .u8 W a0 len0 cap0 zs := by
    obtain ⟨fuel, hf⟩ := h0
    rcases open_ints Try.underlying22 Try.underlying5 (by kernel_rfl) hf with ⟨hcs, _⟩ | ⟨x, l, c, zs, hcs, _, hl, hm, hz, _, hcell, hwz⟩
    · simp [Value.cells] at hcs
      obtain ⟨rfl, rfl, rfl⟩ := hcs
      exact ⟨[], .inl ⟨rfl, rfl, rfl, rfl⟩⟩
    · simp [Value.cells] at hcs
      obtain ⟨rfl, rfl, rfl⟩ := hcs
      exact ⟨zs, .inr ⟨_, rfl, hl, hm, by simpa using hz, hcell, hwz⟩⟩
  clear hA0 hval0
  refine (walk a0 len0 cap0 z0 W w0).mono fun e W' ⟨he, bel⟩ => ?_
  subst he
  exact ⟨_, rfl, _, _, _, [], _, [], hW', trodAll_mk1 (shut_bool Try.underlying4 _), (trodAll_cons_mk (Below.trod laidOut (by kernel_rfl) (of_decide_eq_true (by kernel_rfl)) k0 bel lt0) trodAll_mk0), rfl, bel.frame _, fun h => by cases h⟩

theorem over : Rows.fnBestTwiceRow.holds Try.pinned (OpenSpec.ofChange Rows.fnBestTwiceSpec) :=
  OpenClaim.holds_of_wide 4 Try.f4 rfl rfl rfl rfl rfl rfl rfl ⟨rfl, rfl, rfl, rfl, rfl⟩ rfl rfl rfl rfl rfl (by kernel_rfl) Try.func4 (by kernel_rfl)
    (of_decide_eq_true (by kernel_rfl)) (by unfold Func.isWrapper; first | (rw [if_pos (by decide +kernel)]; kernel_rfl) | (rw [if_neg (by decide +kernel)]; exact ⟨rfl, rfl⟩))
    (fun os started H enc _ => lifted os started H enc)

/-- ████ THE STATEMENT ████ -/
theorem proved : Rows.FnBestTwiceSaid := over
#print axioms proved
end Go.Proofs.Ytihgfhddljicaab.fnBestTwice
