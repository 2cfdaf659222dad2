/- For every input, the law FnTiesOf of the given statements returns true over the program at this commit, and its arguments read afterwards as before: no condition. -/
import Derived.Test.YthhdpjkmjebjhaaRows
import Derived.Test.YthhdpjkmjebjhaaLawT
import Derived.Test.YthhdpjkmjebjhaaLawE
import Derived.Test.YthhdpjkmjebjhaaLawE2
import Derived.WalkKit
import Derived.ProofKit
import Derived.OpenShut
import Derived.ShutString
import Derived.ChangeOld
import Derived.Below
namespace Go.Proofs.Ythhdpjkmjebjhaa.fnTiesOf
open Go.ChangeShapes Go.WideShapes Go.ChangeAt Go.RowKit
open Go.ChangeMaps (open_string shut_string)
set_option linter.unusedVariables false

theorem own : ownKnob Try.prog.godebug = none := by kernel_rfl
theorem laidOut : laidOutB Try.prog = true := by kernel_rfl

/-- WHAT THE WALK IS TOLD OF A SLICE OF INTEGERS THAT CAME IN: it is nil; or it leads to a row of 'cap' cells, the numbers 'zs' (the first 'len' are its elements, the rest its spare room), each fitting its kind. -/
def IsRow (k : IntKind) (w : World) (a : Option Addr) (len cap : Nat) (zs : List Int) : Prop :=
  (a = none ∧ len = 0 ∧ cap = 0 ∧ zs = []) ∨
  ∃ x, a = some x ∧ len ≤ cap ∧ cap ≤ maxLen ∧ zs.length = cap ∧ (∀ i, i < zs.length → w.cell? (x.add i) = some (.int k (zs.getD i 0))) ∧ ∀ n ∈ zs, (Lit.int k n).wf = true

set_option maxRecDepth 100000 in
set_option maxHeartbeats 3200000 in
theorem walk (a0 : Option Addr) (len0 cap0 : Nat) (z0 : List Int) (w : World) (w0 : IsRow .u8 w a0 len0 cap0 z0) :
    Calls Try.prog 4 #[.slice a0 len0 cap0] w fun e w' => e = .returned (.bool true) ∧ Below w.heap.size w w' := by
  have hB := bytes_of w0
  by_cases hl : 1048576 < len0
  · have hdec : decide (1048576 < len0) = true := by simpa using hl
    go_enter Try.func4, Try.ntmps4
    go_wp2_with fail
    go_ret
    exact ⟨rfl, Below.refl _ _⟩
  have hdec : decide (1048576 < len0) = false := by simpa using hl
  have hm : len0 ≤ 1048576 := by omega
  go_enter Try.func4, Try.ntmps4
  go_wp2_with fail
  refine (DrawTiesOf_any hB).mono ?_
  rintro e wv1 ⟨v, u, x, a, b, t, m, rfl, r0, r1, r2, da, db, ht, dm, b1⟩
  clear w0 hB
  have BB := Lib.hid b1
  clear b1
  have R := Lib.hid r0
  clear r0
  have U := Lib.hid r1
  clear r1
  have X := Lib.hid r2
  clear r2
  have ha8 := da.1
  have hb8 := db.1
  obtain ⟨aR, cR, rfl, kR, mR⟩ := tlen_n R.out.row
  obtain ⟨aU, cU, rfl, kU, mU⟩ := tlen_n U.out.row
  obtain ⟨aX, cX, rfl, kX, mX⟩ := len_n X.out.row
  clear da db
  cases hb : okB a b t m
  · have HB := Lib.hid (ofT_no hb)
    clear hb
    go_wp2_with fail
    refine (lst_no (implOf_any t R.out.row U.out.row X.out.row) HB.out).mono ?_
    rintro e wv2 ⟨vV, rfl, o9, b9⟩
    replace R := Lib.hid (R.out.grow b9)
    replace U := Lib.hid (U.out.grow b9)
    replace X := Lib.hid (X.out.grow b9)
    replace BB := Lib.hid (BB.out.trans (b9.mono BB.out.size))
    clear b9
    have V := Lib.hid o9
    clear o9
    go_wp2_with fail
    refine (lst_no (specOf_any t R.out.row U.out.row X.out.row) HB.out).mono ?_
    rintro e wv3 ⟨vY, rfl, o9, b9⟩
    replace R := Lib.hid (R.out.grow b9)
    replace U := Lib.hid (U.out.grow b9)
    replace X := Lib.hid (X.out.grow b9)
    replace V := Lib.hid (V.out.grow b9)
    replace BB := Lib.hid (BB.out.trans (b9.mono BB.out.size))
    clear b9
    have Y := Lib.hid o9
    clear o9
    go_wp2_with fail
    refine (sameTies_yes V.out.row Y.out.row rfl).mono ?_
    rintro e wv4 ⟨rfl, b9⟩
    replace R := Lib.hid (R.out.grow b9)
    replace U := Lib.hid (U.out.grow b9)
    replace X := Lib.hid (X.out.grow b9)
    replace V := Lib.hid (V.out.grow b9)
    replace Y := Lib.hid (Y.out.grow b9)
    replace BB := Lib.hid (BB.out.trans (b9.mono BB.out.size))
    clear b9
    go_wp2_with fail
    refine (sameTies_yes V.out.row Y.out.row rfl).mono ?_
    rintro e wv5 ⟨rfl, b9⟩
    replace R := Lib.hid (R.out.grow b9)
    replace U := Lib.hid (U.out.grow b9)
    replace X := Lib.hid (X.out.grow b9)
    replace V := Lib.hid (V.out.grow b9)
    replace Y := Lib.hid (Y.out.grow b9)
    replace BB := Lib.hid (BB.out.trans (b9.mono BB.out.size))
    clear b9
    go_wp2_with fail
    go_ret
    exact ⟨by first | rfl | (simp; done) | (simp; omega), BB.out⟩
  · have HB := Lib.hid hb
    obtain ⟨o, ho⟩ : ∃ o, tof a b m = o := ⟨_, rfl⟩
    have HO := Lib.hid ho
    have OY := Lib.hid (ofT_yes hb)
    rw [ho] at OY
    have VO := Lib.hid (isTies_tof hb)
    rw [ho] at VO
    have hml := okB_len hb
    have a9 := isEv_len (argsOk_iff.1 (okB_iff.1 hb).1).1
    have b9 := isEv_len (argsOk_iff.1 (okB_iff.1 hb).1).2.1
    have m9 : m.length ≤ 8 := by omega
    clear hb ho hml
    go_wp2_with fail
    refine (lst_yes (implOf_any t R.out.row U.out.row X.out.row) OY.out).mono ?_
    rintro e wv2 ⟨vP, rfl, o9, b9⟩
    replace R := Lib.hid (R.out.grow b9)
    replace U := Lib.hid (U.out.grow b9)
    replace X := Lib.hid (X.out.grow b9)
    replace BB := Lib.hid (BB.out.trans (b9.mono BB.out.size))
    clear b9
    have P := Lib.hid o9
    clear o9
    go_wp2_with fail
    refine (lst_yes (specOf_any t R.out.row U.out.row X.out.row) OY.out).mono ?_
    rintro e wv3 ⟨vY, rfl, o9, b9⟩
    replace R := Lib.hid (R.out.grow b9)
    replace U := Lib.hid (U.out.grow b9)
    replace X := Lib.hid (X.out.grow b9)
    replace P := Lib.hid (P.out.grow b9)
    replace BB := Lib.hid (BB.out.trans (b9.mono BB.out.size))
    clear b9
    have Y := Lib.hid o9
    clear o9
    go_wp2_with fail
    refine (sameTies_yes P.out.row Y.out.row rfl).mono ?_
    rintro e wv4 ⟨rfl, b9⟩
    replace R := Lib.hid (R.out.grow b9)
    replace U := Lib.hid (U.out.grow b9)
    replace X := Lib.hid (X.out.grow b9)
    replace P := Lib.hid (P.out.grow b9)
    replace Y := Lib.hid (Y.out.grow b9)
    replace BB := Lib.hid (BB.out.trans (b9.mono BB.out.size))
    clear b9
    clear Y
    obtain ⟨aP, cP, rfl, kP, mP⟩ := tlen_n P.out.row
    obtain ⟨q1, -⟩ := okB_turn HB.out
    have Q1 := Lib.hid (ofT_yes q1)
    rw [tof_turn HB.out, HO.out] at Q1
    clear q1
    have TO := Lib.hid (turnT_yes VO.out)
    have HZ : Hid (manyM a b t m = (o.length : Int)) := Lib.hid (by rw [manyM_yes HB.out, ← HO.out, (tof_len HB.out).1])
    go_wp2_with fail
    refine (none_any b.length (by omega) _).mono ?_
    rintro e wv5 ⟨vN, rfl, o9, b9⟩
    have BN := Lib.hid b9
    obtain ⟨aN, cN, rfl, kN, mN⟩ := len_n o9.row
    have RL : Hid ((List.replicate b.length (-1 : Int)).length = b.length) := Lib.hid (by simp)
    rw [RL.out] at o9 kN ⊢
    have N0 : Hid (IOwn wv5 wv4.heap.size (.slice aN b.length cN) (turned b.length m 0)) := Lib.hid o9
    clear o9 b9
    go_wp2_with fail
    go_loopg [12] m.length (fun k x wr => ∃ j : Nat, x = .int .i64 j ∧ j + k = m.length ∧ IOwn wr wv4.heap.size (.slice aN b.length cN) (turned b.length m j) ∧ Below wv4.heap.size wv4 wr)
    case atStart => exact ⟨0, rfl, by omega, N0.out, BN.out⟩
    case round =>
      obtain ⟨wv6, rfl⟩ : ∃ x, x = wr := ⟨wr, rfl⟩
      obtain ⟨j, rfl, hk, ho, hb⟩ := hrel
      have K := Lib.hid hk; have O := Lib.hid ho; have B := Lib.hid hb
      have hjn : j ≤ m.length := by omega
      clear hk ho hb N0 BN
      replace R := Lib.hid (R.out.grow B.out)
      replace U := Lib.hid (U.out.grow B.out)
      replace X := Lib.hid (X.out.grow B.out)
      replace P := Lib.hid (P.out.grow B.out)
      replace BB := Lib.hid (BB.out.trans (B.out.mono BB.out.size))
      by_cases hlt : j < m.length
      · have i1 : (j : Int) < (m.length : Int) := by omega
        have i2 : (0 : Int) ≤ (j : Int) := by omega
        obtain ⟨gX, oX, pX, eX, k5, k6⟩ := X.out.row.known (by omega)
        simp only [Value.slice.injEq, true_and] at eX
        obtain ⟨rfl, rfl⟩ := eX
        have c0 := X.out.row.cells j hlt
        have tn := turned_next (n := b.length) hlt
        clear k5 k6
        rcases ok_at HB.out hlt with hn | ⟨hn1, hn2⟩
        · rw [hn] at c0 tn
          have TN : Hid (turned b.length m (j + 1) = turned b.length m j) := Lib.hid (by rw [tn]; rfl)
          clear tn hn
          go_wp2_with fail
          go_roundg (gk - 1)
          case measure => have := K.out; omega
          case rel => exact ⟨j + 1, by go_num, by have := K.out; omega, by rw [TN.out]; exact O.out, B.out⟩
        · obtain ⟨q, hq⟩ : ∃ q : Nat, m[j] = (q : Int) := ⟨m[j].toNat, by omega⟩
          rw [if_pos hn1, hq, Int.toNat_natCast] at tn
          rw [hq] at c0 hn2
          have hql : q < (turned b.length m j).length := by rw [turned_length]; omega
          obtain ⟨gN, pN, eN, k5, k6, k7, k8, hp⟩ := O.out.at (by omega)
          simp only [Value.slice.injEq] at eN
          obtain ⟨rfl, hcl, rfl⟩ := eN
          have i3 : (0 : Int) ≤ (q : Int) := by omega
          have d0 := (hp q hql).cell
          have f0 := (hp q hql).froz
          have st := (hp q hql).set (j : Int)
          rw [← tn] at st
          have ST := Lib.hid st
          have BS := Lib.hid (B.out.setCell (p := ⟨gN, q, none⟩) k7 (.int .i64 (j : Int)))
          clear hp st tn hcl k5 k6 k7 k8 hq hn1
          go_wp2_with fail
          go_roundg (gk - 1)
          case measure => have := K.out; omega
          case rel => exact ⟨j + 1, by go_num, by have := K.out; omega, ST.out, BS.out⟩
      · have hj : j = m.length := by omega
        have NR := Lib.hid O.out.row
        rw [hj] at NR
        rw [hj]
        have i1 : ¬ (m.length : Int) < (m.length : Int) := by omega
        clear hj hlt B O
        go_wp2_with fail
        refine (lst_yes (implOf_any t U.out.row R.out.row NR.out) Q1.out).mono ?_
        rintro e wv7 ⟨vY, rfl, o9, b9⟩
        replace R := Lib.hid (R.out.grow b9)
        replace U := Lib.hid (U.out.grow b9)
        replace X := Lib.hid (X.out.grow b9)
        replace P := Lib.hid (P.out.grow b9)
        replace NR := Lib.hid (NR.out.grow b9)
        replace BB := Lib.hid (BB.out.trans (b9.mono BB.out.size))
        clear b9
        have Y := Lib.hid o9
        clear o9
        go_wp2_with fail
        refine (lst_yes (implTurn_any P.out.row) TO.out).mono ?_
        rintro e wv8 ⟨vZ, rfl, o9, b9⟩
        replace R := Lib.hid (R.out.grow b9)
        replace U := Lib.hid (U.out.grow b9)
        replace X := Lib.hid (X.out.grow b9)
        replace P := Lib.hid (P.out.grow b9)
        replace NR := Lib.hid (NR.out.grow b9)
        replace Y := Lib.hid (Y.out.grow b9)
        replace BB := Lib.hid (BB.out.trans (b9.mono BB.out.size))
        clear b9
        have Z := Lib.hid o9
        clear o9
        go_wp2_with fail
        refine (sameTies_yes Y.out.row Z.out.row rfl).mono ?_
        rintro e wv9 ⟨rfl, b9⟩
        replace R := Lib.hid (R.out.grow b9)
        replace U := Lib.hid (U.out.grow b9)
        replace X := Lib.hid (X.out.grow b9)
        replace P := Lib.hid (P.out.grow b9)
        replace NR := Lib.hid (NR.out.grow b9)
        replace Y := Lib.hid (Y.out.grow b9)
        replace Z := Lib.hid (Z.out.grow b9)
        replace BB := Lib.hid (BB.out.trans (b9.mono BB.out.size))
        clear b9
        go_wp2_with fail
        refine (tiesI_is P.out.row VO.out).mono ?_
        rintro e wv10 ⟨rfl, b9⟩
        replace R := Lib.hid (R.out.grow b9)
        replace U := Lib.hid (U.out.grow b9)
        replace X := Lib.hid (X.out.grow b9)
        replace P := Lib.hid (P.out.grow b9)
        replace NR := Lib.hid (NR.out.grow b9)
        replace Y := Lib.hid (Y.out.grow b9)
        replace Z := Lib.hid (Z.out.grow b9)
        replace BB := Lib.hid (BB.out.trans (b9.mono BB.out.size))
        clear b9
        go_wp2_with fail
        refine (manyI_is R.out.row U.out.row X.out.row HZ.out).mono ?_
        rintro e wv11 ⟨rfl, b9⟩
        replace R := Lib.hid (R.out.grow b9)
        replace U := Lib.hid (U.out.grow b9)
        replace X := Lib.hid (X.out.grow b9)
        replace P := Lib.hid (P.out.grow b9)
        replace NR := Lib.hid (NR.out.grow b9)
        replace Y := Lib.hid (Y.out.grow b9)
        replace Z := Lib.hid (Z.out.grow b9)
        replace BB := Lib.hid (BB.out.trans (b9.mono BB.out.size))
        clear b9
        go_wp2_with fail
        go_ret
        exact ⟨by first | rfl | (simp; done) | (simp; omega), BB.out⟩

set_option maxRecDepth 100000 in
theorem lifted (os : Os) (started : os.Started) (H : Type) (enc : TypeId × Value → H) :
    ReturnsInHanded {} Try.checked os 4 .any (Rows.fnTiesOfSpec.pre6 enc Try.prog Try.f4 Rows.fnTiesOfRow.domain false) (Rows.fnTiesOfSpec.post enc Try.prog Try.f4 false true false false) := by
  refine returnsInHanded_of_change (C := Try.checked) own started (by kernel_rfl) Try.func4
    (ChangeSpec.witness6 (enc := enc) (C := Try.checked) false ⟨#[], #[.slice none 0 0], []⟩ 8 (by kernel_rfl) (by kernel_rfl) (by kernel_rfl) (by kernel_rfl)) ?_
  intro W base args ds gs before hval0 hW hcnd _
  have hval : ∀ (j : Nat) t v, Try.f4.params[j]? = some t → args[j]? = some v → Value.okWide Try.prog W .any base t v := hval0
  have hW' := hW
  obtain ⟨p, q, hA0, hV, rfl, hfz, hnd⟩ := hW
  have hA : DataW.TrodAll enc Try.prog W 0 (fun _ => true) true Try.f4.params.toList args.toList ds p := hA0
  rw [Try.params4] at hA hval
  obtain ⟨v0, vs0, d0, ds0, p0, q0, hargs, rfl, rfl, h0, r0⟩ := trodAll_cons hA
  obtain ⟨rfl, rfl, rfl⟩ := trodAll_nil r0
  obtain rfl : args = #[v0] := by cases args; simp_all
  obtain ⟨rfl, rfl⟩ := trodVars_none hV
  obtain ⟨a0, len0, cap0, rfl⟩ := okWide_slice Try.underlying22 (hval 0 22 v0 rfl rfl)
  have k0 := h0
  have lt0 : ∀ x ∈ p0, x.block < W.heap.size := by obtain ⟨m, hm⟩ := k0; exact DataW.trod_lt m _ _ _ hm
  obtain ⟨z0, w0⟩ : ∃ zs, IsRow .u8 W a0 len0 cap0 zs := by
    obtain ⟨fuel, hf⟩ := h0
    rcases open_ints Try.underlying22 Try.underlying5 (by kernel_rfl) hf with ⟨hcs, _⟩ | ⟨x, l, c, zs, hcs, _, hl, hm, hz, _, hcell, hwz⟩
    · simp [Value.cells] at hcs
      obtain ⟨rfl, rfl, rfl⟩ := hcs
      exact ⟨[], .inl ⟨rfl, rfl, rfl, rfl⟩⟩
    · simp [Value.cells] at hcs
      obtain ⟨rfl, rfl, rfl⟩ := hcs
      exact ⟨zs, .inr ⟨_, rfl, hl, hm, by simpa using hz, hcell, hwz⟩⟩
  clear hA0 hval0
  refine (walk a0 len0 cap0 z0 W w0).mono fun e W' ⟨he, bel⟩ => ?_
  subst he
  exact ⟨_, rfl, _, _, _, [], _, [], hW', trodAll_mk1 (shut_bool Try.underlying4 _), (trodAll_cons_mk (Below.trod laidOut (by kernel_rfl) (of_decide_eq_true (by kernel_rfl)) k0 bel lt0) trodAll_mk0), rfl, bel.frame _, fun h => by cases h⟩

theorem over : Rows.fnTiesOfRow.holds Try.pinned (OpenSpec.ofChange Rows.fnTiesOfSpec) :=
  OpenClaim.holds_of_wide 4 Try.f4 rfl rfl rfl rfl rfl rfl rfl ⟨rfl, rfl, rfl, rfl, rfl⟩ rfl rfl rfl rfl rfl (by kernel_rfl) Try.func4 (by kernel_rfl)
    (of_decide_eq_true (by kernel_rfl)) (by unfold Func.isWrapper; first | (rw [if_pos (by decide +kernel)]; kernel_rfl) | (rw [if_neg (by decide +kernel)]; exact ⟨rfl, rfl⟩))
    (fun os started H enc _ => lifted os started H enc)

/-- ████ THE STATEMENT ████ -/
theorem proved : Rows.FnTiesOfSaid := over
#print axioms proved
end Go.Proofs.Ythhdpjkmjebjhaa.fnTiesOf
