/- For every input, the law FnLeanSlopes of the given statements returns true over the program at this commit, and its arguments read afterwards as before: no condition. -/
import Derived.Test.YthpfehjjaamkkabRows
import Derived.Test.YthpfehjjaamkkabLawK
import Derived.Test.YthpfehjjaamkkabCurveLean
import Derived.Test.YthpfehjjaamkkabSpecLean
import Derived.WalkKit
import Derived.ProofKit
import Derived.OpenShut
import Derived.ShutString
import Derived.ChangeOld
import Derived.Below
namespace Go.Proofs.Ythpfehjjaamkkab.fnLeanSlopes
open Go.ChangeShapes Go.WideShapes Go.ChangeAt Go.RowKit
open Go.ChangeMaps (open_string shut_string)
set_option linter.unusedVariables false

theorem own : ownKnob Try.prog.godebug = none := by kernel_rfl
theorem laidOut : laidOutB Try.prog = true := by kernel_rfl

/-- WHAT THE WALK IS TOLD OF A SLICE OF INTEGERS THAT CAME IN: it is nil; or it leads to a row of 'cap' cells, the numbers 'zs' (the first 'len' are its elements, the rest its spare room), each fitting its kind. -/
def IsRow (k : IntKind) (w : World) (a : Option Addr) (len cap : Nat) (zs : List Int) : Prop :=
  (a = none ∧ len = 0 ∧ cap = 0 ∧ zs = []) ∨
  ∃ x, a = some x ∧ len ≤ cap ∧ cap ≤ maxLen ∧ zs.length = cap ∧ (∀ i, i < zs.length → w.cell? (x.add i) = some (.int k (zs.getD i 0))) ∧ ∀ n ∈ zs, (Lit.int k n).wf = true

set_option maxRecDepth 100000 in
set_option maxHeartbeats 3200000 in
theorem walk (a0 : Option Addr) (len0 cap0 : Nat) (z0 : List Int) (w : World) (w0 : IsRow .u8 w a0 len0 cap0 z0) :
    Calls Try.prog 6 #[.slice a0 len0 cap0] w fun e w' => e = .returned (.bool true) ∧ Below w.heap.size w w' := by
  have hB := bytes_of w0
  by_cases hl : 1048576 < len0
  · have hdec : decide (1048576 < len0) = true := by simpa using hl
    go_enter Try.func6, Try.ntmps6
    go_wp2_with fail
    go_ret
    exact ⟨rfl, Below.refl _ _⟩
  have hdec : decide (1048576 < len0) = false := by simpa using hl
  have hm : len0 ≤ 1048576 := by omega
  go_enter Try.func6, Try.ntmps6
  go_wp2_with fail
  refine (DrawCurveLean_any hB).mono ?_
  rintro e wv1 ⟨v, l, rfl, hr, hbd, hl, b1⟩
  clear w0 hB
  have S := St.start b1
  clear b1
  have R := Lib.hid hr
  clear hr
  have BD := Lib.hid hbd
  clear hbd
  cases hc : leanOf l with
  | none =>
    have HC := Lib.hid hc
    clear hc
    go_wp2_with fail
    refine (lstb_no (implCurveLean_any R.out) HC.out).mono ?_
    rintro e wv2 ⟨v1, rfl, r1, b2⟩
    replace R := Lib.hid ((R.out.grow b2))
    replace S := (S.next b2)
    have R1 := Lib.hid r1
    clear r1
    clear b2
    go_wp2_with fail
    refine (lstb_no (specCurveLean_any R.out) HC.out).mono ?_
    rintro e wv3 ⟨v2, rfl, r2, b3⟩
    replace R := Lib.hid ((R.out.grow b3))
    replace R1 := Lib.hid ((R1.out.grow b3))
    replace S := (S.next b3)
    have R2 := Lib.hid r2
    clear r2
    clear b3
    go_wp2_with fail
    refine (same_yes R1.out R2.out rfl).mono ?_
    rintro e wv4 ⟨rfl, b4⟩
    replace R := Lib.hid ((R.out.grow b4))
    replace R1 := Lib.hid ((R1.out.grow b4))
    replace R2 := Lib.hid ((R2.out.grow b4))
    replace S := (S.next b4)
    clear b4
    go_wp2_with fail
    refine (same_yes R1.out R2.out rfl).mono ?_
    rintro e wv5 ⟨rfl, b5⟩
    replace R := Lib.hid ((R.out.grow b5))
    replace R1 := Lib.hid ((R1.out.grow b5))
    replace R2 := Lib.hid ((R2.out.grow b5))
    replace S := (S.next b5)
    clear b5
    go_wp2_with fail
    go_ret
    exact ⟨rfl, S.below⟩
  | some lm =>
    have HC := Lib.hid hc
    clear hc
    go_wp2_with fail
    refine (lstb_yes (implCurveLean_any R.out) HC.out).mono ?_
    rintro e wv2 ⟨v1, rfl, r1, b2⟩
    replace R := Lib.hid ((R.out.grow b2))
    replace S := (S.next b2)
    have R1 := Lib.hid r1
    clear r1
    clear b2
    go_wp2_with fail
    refine (lstb_yes (specCurveLean_any R.out) HC.out).mono ?_
    rintro e wv3 ⟨v2, rfl, r2, b3⟩
    replace R := Lib.hid ((R.out.grow b3))
    replace R1 := Lib.hid ((R1.out.grow b3))
    replace S := (S.next b3)
    have R2 := Lib.hid r2
    clear r2
    clear b3
    go_wp2_with fail
    refine (same_yes R1.out R2.out rfl).mono ?_
    rintro e wv4 ⟨rfl, b4⟩
    replace R := Lib.hid ((R.out.grow b4))
    replace R1 := Lib.hid ((R1.out.grow b4))
    replace R2 := Lib.hid ((R2.out.grow b4))
    replace S := (S.next b4)
    clear b4
    obtain ⟨CL, hlm⟩ := leanOf_some HC.out
    replace HC := Lib.hid CL
    have CM : Hid (isCurve lm = true) := Lib.hid (by rw [hlm]; exact leanL_curve CL)
    have SD : Hid (∀ i (hi : i + 2 < lm.length), sl (lm[i]'(by omega)) (lm[i + 1]'(by omega)) ≠ sl (lm[i + 1]'(by omega)) lm[i + 2]) := Lib.hid (by subst hlm; exact fun i hi => leanL_slopes CL i hi)
    have LL : Hid (lm.length ≤ l.length) := Lib.hid (by rw [hlm]; exact leanL_length l)
    clear CL hlm
    have hlm2 := isCurve_len CM.out
    obtain ⟨ad, cp0, rfl, hcap0, hcapm0⟩ := R.out.len
    obtain ⟨g, o, cp, rfl, hcap, hcapm⟩ := R1.out.known (by omega)
    unfold maxLen at hcapm
    obtain ⟨m, hm⟩ : ∃ m, lm.length = m + 1 := ⟨lm.length - 1, by omega⟩
    rw [hm] at hcap
    rw [hm] at R1
    rw [hm]
    have HM := Lib.hid hm
    have em : lm.length - 1 = m := by omega
    have hml : m < lm.length := by omega
    have h0l : 0 < lm.length := by omega
    have q0 : (0 : Int) < (m : Int) + 1 := by omega
    have q1 : 0 < m + 1 := by omega
    have q2 : IntKind.i64.wrap ((m : Int) + 1 - 1) = (m : Int) := by rw [show (m : Int) + 1 - 1 = m by omega]; exact IntWalk.i64_in _ (by omega)
    have q2' : IntKind.i64.wrap (m : Int) = (m : Int) := IntWalk.i64_in _ (by omega)
    have q3 : (0 : Int) ≤ (m : Int) := by omega
    have q4 : (m : Int) < (m : Int) + 1 := by omega
    have q5 : m < m + 1 := by omega
    have f1 : (2 : Int) ≤ (m : Int) + 1 := by omega
    have f2 : (m : Int) + 1 ≤ (l.length : Int) := by have := LL.out; omega
    go_upto_region 8 with fail
    go_wp2_with fail
    go_loopg [8] m (fun rr z wr => ∃ j : Nat, z = .int .i64 j ∧ j + rr = m ∧ Below wv4.heap.size wv4 wr)
    case atStart => exact ⟨0, rfl, by omega, Below.refl _ _⟩
    case round =>
      obtain ⟨j, rfl, hk, hb⟩ := hrel
      have K := Lib.hid hk
      have hjl : j ≤ m := by omega
      clear hk
      have Q := St.start hb
      replace R := Lib.hid (R.out.grow hb)
      replace R1 := Lib.hid (R1.out.grow hb)
      replace R2 := Lib.hid (R2.out.grow hb)
      replace S := S.next hb
      clear hb
      have a1 : IntKind.i64.wrap ((j : Int) + 2) = (j : Int) + 2 := IntWalk.i64_in _ (by omega)
      have a2 : IntKind.i64.wrap ((j : Int) + 1) = (j : Int) + 1 := IntWalk.i64_in _ (by omega)
      by_cases hlt : j + 2 < m + 1
      · have h2i : (j : Int) + 2 < (m : Int) + 1 := by omega
        have hj2 : j + 2 < lm.length := by omega
        have hj1 : j + 1 < lm.length := by omega
        obtain ⟨ux, uy⟩ := isCurve_up CM.out j hj1
        obtain ⟨vx, vy⟩ := isCurve_up CM.out (j + 1) hj2
        have D0 := isCurve_dp CM.out j (by omega); have D1 := isCurve_dp CM.out (j + 1) hj1; have D2 := isCurve_dp CM.out (j + 2) hj2
        have SF := Lib.hid (sl_fits D0 D1 ux uy); have SG := Lib.hid (sl_fits D1 D2 vx vy)
        have SR := Lib.hid (slopeR_is hj1); have SQ := Lib.hid (slopeR_is hj2)
        have SV : Hid (slopeV lm j = true) := Lib.hid (slopeV_is CM.out hj1)
        have SW : Hid (slopeV lm ((j + 1 : Nat) : Int) = true) := Lib.hid (slopeV_is CM.out hj2)
        have DF := Lib.hid (SD.out j hj2)
        have e1 : ((j + 1 : Nat) : Int) = (j : Int) + 1 := by omega
        rw [e1] at SW SQ
        clear D0 D1 D2 e1
        go_wp2_with fail
        refine (got_yes (implCurveSlope_any j (wf_small (by omega) (by omega)) R1.out) SV.out (by rw [SR.out]; exact SF.out)).mono ?_
        rintro e wv5 ⟨n, d, rfl, hf, hq, b5⟩
        replace R := Lib.hid ((R.out.grow b5).alloc n d 32)
        replace R1 := Lib.hid ((R1.out.grow b5).alloc n d 32)
        replace R2 := Lib.hid ((R2.out.grow b5).alloc n d 32)
        replace S := (S.next b5).alloc n d
        replace Q := (Q.next b5).alloc n d
        clear b5
        have r := S.holds
        simp only [Holds, and_true] at r
        try simp only [World.size_alloc] at r
        have HF := Lib.hid hf; have HQ := Lib.hid (hq.trans SR.out)
        clear hf hq
        go_wp2_with fail
        refine (got_yes (implCurveSlope_any ((j : Int) + 1) (wf_small (by omega) (by omega)) R1.out) SW.out (by rw [SQ.out]; exact SG.out)).mono ?_
        rintro e wv6 ⟨n2, d2, rfl, hf, hq, b6⟩
        replace R := Lib.hid ((R.out.grow b6).alloc n2 d2 32)
        replace R1 := Lib.hid ((R1.out.grow b6).alloc n2 d2 32)
        replace R2 := Lib.hid ((R2.out.grow b6).alloc n2 d2 32)
        replace S := (S.next b6).alloc n2 d2
        replace Q := (Q.next b6).alloc n2 d2
        clear b6
        clear r
        have r := S.holds
        simp only [Holds, and_true] at r
        try simp only [World.size_alloc] at r
        have HF2 := Lib.hid hf; have HQ2 := Lib.hid (hq.trans SQ.out)
        clear hf hq
        by_cases c : n = n2
        · subst c
          have ed : (d == d2) = false := by rw [beq_eq_false_iff_ne]; intro e; subst e; exact DF.out (HQ.out.symm.trans HQ2.out)
          go_wp2_with fail
          go_roundg (gk - 1)
          case measure => have := K.out; omega
          case rel => exact ⟨j + 1, by go_num, by have := K.out; omega, Q.below⟩
        · have en : (n == n2) = false := by simpa using c
          go_wp2_with fail
          go_roundg (gk - 1)
          case measure => have := K.out; omega
          case rel => exact ⟨j + 1, by go_num, by have := K.out; omega, Q.below⟩
      · have h2i : ¬ (j : Int) + 2 < (m : Int) + 1 := by omega
        clear Q
        go_wp2_with fail
        go_ret
        exact ⟨by first | rfl | (simp; done) | (simp; omega), S.below⟩

set_option maxRecDepth 100000 in
theorem lifted (os : Os) (started : os.Started) (H : Type) (enc : TypeId × Value → H) :
    ReturnsInHanded {} Try.checked os 6 .any (Rows.fnLeanSlopesSpec.pre6 enc Try.prog Try.f6 Rows.fnLeanSlopesRow.domain false) (Rows.fnLeanSlopesSpec.post enc Try.prog Try.f6 false true false false) := by
  refine returnsInHanded_of_change (C := Try.checked) own started (by kernel_rfl) Try.func6
    (ChangeSpec.witness6 (enc := enc) (C := Try.checked) false ⟨#[], #[.slice none 0 0], []⟩ 8 (by kernel_rfl) (by kernel_rfl) (by kernel_rfl) (by kernel_rfl)) ?_
  intro W base args ds gs before hval0 hW hcnd _
  have hval : ∀ (j : Nat) t v, Try.f6.params[j]? = some t → args[j]? = some v → Value.okWide Try.prog W .any base t v := hval0
  have hW' := hW
  obtain ⟨p, q, hA0, hV, rfl, hfz, hnd⟩ := hW
  have hA : DataW.TrodAll enc Try.prog W 0 (fun _ => true) true Try.f6.params.toList args.toList ds p := hA0
  rw [Try.params6] at hA hval
  obtain ⟨v0, vs0, d0, ds0, p0, q0, hargs, rfl, rfl, h0, r0⟩ := trodAll_cons hA
  obtain ⟨rfl, rfl, rfl⟩ := trodAll_nil r0
  obtain rfl : args = #[v0] := by cases args; simp_all
  obtain ⟨rfl, rfl⟩ := trodVars_none hV
  obtain ⟨a0, len0, cap0, rfl⟩ := okWide_slice Try.underlying22 (hval 0 22 v0 rfl rfl)
  have k0 := h0
  have lt0 : ∀ x ∈ p0, x.block < W.heap.size := by obtain ⟨m, hm⟩ := k0; exact DataW.trod_lt m _ _ _ hm
  obtain ⟨z0, w0⟩ : ∃ zs, IsRow .u8 W a0 len0 cap0 zs := by
    obtain ⟨fuel, hf⟩ := h0
    rcases open_ints Try.underlying22 Try.underlying5 (by kernel_rfl) hf with ⟨hcs, _⟩ | ⟨x, l, c, zs, hcs, _, hl, hm, hz, _, hcell, hwz⟩
    · simp [Value.cells] at hcs
      obtain ⟨rfl, rfl, rfl⟩ := hcs
      exact ⟨[], .inl ⟨rfl, rfl, rfl, rfl⟩⟩
    · simp [Value.cells] at hcs
      obtain ⟨rfl, rfl, rfl⟩ := hcs
      exact ⟨zs, .inr ⟨_, rfl, hl, hm, by simpa using hz, hcell, hwz⟩⟩
  clear hA0 hval0
  refine (walk a0 len0 cap0 z0 W w0).mono fun e W' ⟨he, bel⟩ => ?_
  subst he
  exact ⟨_, rfl, _, _, _, [], _, [], hW', trodAll_mk1 (shut_bool Try.underlying4 _), (trodAll_cons_mk (Below.trod laidOut (by kernel_rfl) (of_decide_eq_true (by kernel_rfl)) k0 bel lt0) trodAll_mk0), rfl, bel.frame _, fun h => by cases h⟩

theorem over : Rows.fnLeanSlopesRow.holds Try.pinned (OpenSpec.ofChange Rows.fnLeanSlopesSpec) :=
  OpenClaim.holds_of_wide 6 Try.f6 rfl rfl rfl rfl rfl rfl rfl ⟨rfl, rfl, rfl, rfl, rfl⟩ rfl rfl rfl rfl rfl (by kernel_rfl) Try.func6 (by kernel_rfl)
    (of_decide_eq_true (by kernel_rfl)) (by unfold Func.isWrapper; first | (rw [if_pos (by decide +kernel)]; kernel_rfl) | (rw [if_neg (by decide +kernel)]; exact ⟨rfl, rfl⟩))
    (fun os started H enc _ => lifted os started H enc)

/-- ████ THE STATEMENT ████ -/
theorem proved : Rows.FnLeanSlopesSaid := over
#print axioms proved
end Go.Proofs.Ythpfehjjaamkkab.fnLeanSlopes
