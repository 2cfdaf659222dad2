/- For every input, the law FnLeanAdd of the given statements returns true over the program at this commit, and its arguments read afterwards as before: no condition. -/
import Derived.Test.YthpfehjjaamkkacRows
import Derived.Test.YthpfehjjaamkkacLawK
import Derived.Test.YthpfehjjaamkkacCurveLean
import Derived.Test.YthpfehjjaamkkacSpecLean
import Derived.Test.YthpfehjjaamkkacCurveAdd
import Derived.Test.YthpfehjjaamkkacSpecAdd
import Derived.WalkKit
import Derived.ProofKit
import Derived.OpenShut
import Derived.ShutString
import Derived.ChangeOld
import Derived.Below
namespace Go.Proofs.Ythpfehjjaamkkac.fnLeanAdd
open Go.ChangeShapes Go.WideShapes Go.ChangeAt Go.RowKit
open Go.ChangeMaps (open_string shut_string)
set_option linter.unusedVariables false

theorem own : ownKnob Try.prog.godebug = none := by kernel_rfl
theorem laidOut : laidOutB Try.prog = true := by kernel_rfl

/-- WHAT THE WALK IS TOLD OF A SLICE OF INTEGERS THAT CAME IN: it is nil; or it leads to a row of 'cap' cells, the numbers 'zs' (the first 'len' are its elements, the rest its spare room), each fitting its kind. -/
def IsRow (k : IntKind) (w : World) (a : Option Addr) (len cap : Nat) (zs : List Int) : Prop :=
  (a = none ∧ len = 0 ∧ cap = 0 ∧ zs = []) ∨
  ∃ x, a = some x ∧ len ≤ cap ∧ cap ≤ maxLen ∧ zs.length = cap ∧ (∀ i, i < zs.length → w.cell? (x.add i) = some (.int k (zs.getD i 0))) ∧ ∀ n ∈ zs, (Lit.int k n).wf = true

set_option maxRecDepth 100000 in
set_option maxHeartbeats 3200000 in
theorem walk (a0 : Option Addr) (len0 cap0 : Nat) (z0 : List Int) (w : World) (w0 : IsRow .u8 w a0 len0 cap0 z0) :
    Calls Try.prog 3 #[.slice a0 len0 cap0] w fun e w' => e = .returned (.bool true) ∧ Below w.heap.size w w' := by
  have hB := bytes_of w0
  by_cases hl : 1048576 < len0
  · have hdec : decide (1048576 < len0) = true := by simpa using hl
    go_enter Try.func3, Try.ntmps3
    go_wp2_with fail
    go_ret
    exact ⟨rfl, Below.refl _ _⟩
  have hdec : decide (1048576 < len0) = false := by simpa using hl
  have hm : len0 ≤ 1048576 := by omega
  go_enter Try.func3, Try.ntmps3
  go_wp2_with fail
  refine (DrawCurveLean_any hB).mono ?_
  rintro e wv1 ⟨v, l, rfl, hr, hbd, hl, b1⟩
  clear w0 hB
  have S := St.start b1
  clear b1
  have R := Lib.hid hr
  clear hr
  have BD := Lib.hid hbd
  clear hbd
  cases hc : leanOf l with
  | none =>
    have HC := Lib.hid hc
    clear hc
    go_wp2_with fail
    refine (lstb_no (implCurveLean_any R.out) HC.out).mono ?_
    rintro e wv2 ⟨v1, rfl, r1, b2⟩
    replace R := Lib.hid ((R.out.grow b2))
    replace S := (S.next b2)
    have R1 := Lib.hid r1
    clear r1
    clear b2
    go_wp2_with fail
    refine (lstb_no (specCurveLean_any R.out) HC.out).mono ?_
    rintro e wv3 ⟨v2, rfl, r2, b3⟩
    replace R := Lib.hid ((R.out.grow b3))
    replace R1 := Lib.hid ((R1.out.grow b3))
    replace S := (S.next b3)
    have R2 := Lib.hid r2
    clear r2
    clear b3
    go_wp2_with fail
    refine (same_yes R1.out R2.out rfl).mono ?_
    rintro e wv4 ⟨rfl, b4⟩
    replace R := Lib.hid ((R.out.grow b4))
    replace R1 := Lib.hid ((R1.out.grow b4))
    replace R2 := Lib.hid ((R2.out.grow b4))
    replace S := (S.next b4)
    clear b4
    go_wp2_with fail
    refine (same_yes R1.out R2.out rfl).mono ?_
    rintro e wv5 ⟨rfl, b5⟩
    replace R := Lib.hid ((R.out.grow b5))
    replace R1 := Lib.hid ((R1.out.grow b5))
    replace R2 := Lib.hid ((R2.out.grow b5))
    replace S := (S.next b5)
    clear b5
    go_wp2_with fail
    go_ret
    exact ⟨rfl, S.below⟩
  | some lm =>
    have HC := Lib.hid hc
    clear hc
    go_wp2_with fail
    refine (lstb_yes (implCurveLean_any R.out) HC.out).mono ?_
    rintro e wv2 ⟨v1, rfl, r1, b2⟩
    replace R := Lib.hid ((R.out.grow b2))
    replace S := (S.next b2)
    have R1 := Lib.hid r1
    clear r1
    clear b2
    go_wp2_with fail
    refine (lstb_yes (specCurveLean_any R.out) HC.out).mono ?_
    rintro e wv3 ⟨v2, rfl, r2, b3⟩
    replace R := Lib.hid ((R.out.grow b3))
    replace R1 := Lib.hid ((R1.out.grow b3))
    replace S := (S.next b3)
    have R2 := Lib.hid r2
    clear r2
    clear b3
    go_wp2_with fail
    refine (same_yes R1.out R2.out rfl).mono ?_
    rintro e wv4 ⟨rfl, b4⟩
    replace R := Lib.hid ((R.out.grow b4))
    replace R1 := Lib.hid ((R1.out.grow b4))
    replace R2 := Lib.hid ((R2.out.grow b4))
    replace S := (S.next b4)
    clear b4
    obtain ⟨CL, hlm⟩ := leanOf_some HC.out
    replace HC := Lib.hid CL
    have h1l : 1 < l.length := by have := isCurve_len CL; omega
    have h0l : 0 < l.length := by omega
    have hll := isCurve_len CL
    have HLM := Lib.hid hlm
    obtain ⟨g, o, cp, rfl, hcap, hcapm⟩ := R.out.known h0l
    unfold maxLen at hcapm
    have d0 := isCurve_dp CL 0 h0l; have d1 := isCurve_dp CL 1 h1l
    clear CL hlm
    obtain ⟨c0, c1⟩ := R.out.cells 0 h0l
    simp only [Nat.zero_mul, Nat.add_zero] at c0 c1
    obtain ⟨c2, c3⟩ := R.out.cells 1 h1l
    simp only [Nat.one_mul] at c2 c3
    have hgw : g < wv4.heap.size := cell_below c0
    have i1 : (1 : Int) < (l.length : Int) := by omega
    have i0 : (0 : Int) < (l.length : Int) := by omega
    obtain ⟨xa, hxa⟩ : ∃ z, l[0].1 = z := ⟨_, rfl⟩
    obtain ⟨ya, hya⟩ : ∃ z, l[0].2 = z := ⟨_, rfl⟩
    obtain ⟨xb, hxb⟩ : ∃ z, l[1].1 = z := ⟨_, rfl⟩
    obtain ⟨yb, hyb⟩ : ∃ z, l[1].2 = z := ⟨_, rfl⟩
    rw [hxa] at c0; rw [hya] at c1; rw [hxb] at c2; rw [hyb] at c3
    rw [hxa, hya] at d0; rw [hxb, hyb] at d1
    have HXA := Lib.hid hxa; have HYA := Lib.hid hya; have HXB := Lib.hid hxb; have HYB := Lib.hid hyb
    clear hxa hya hxb hyb
    obtain ⟨X, hX⟩ : ∃ X : Int, (xa + xb).tdiv 2 = X := ⟨_, rfl⟩
    obtain ⟨Y, hY⟩ : ∃ Y : Int, (ya + yb).tdiv 2 = Y := ⟨_, rfl⟩
    have eX : (xa + xb) / 2 = X := by rw [← hX, Int.tdiv_eq_ediv_of_nonneg (by omega)]
    have eY : (ya + yb) / 2 = Y := by rw [← hY, Int.tdiv_eq_ediv_of_nonneg (by omega)]
    obtain ⟨P, hP⟩ : ∃ P : Int, (xa + xb).tmod 2 = P := ⟨_, rfl⟩
    obtain ⟨Q', hQ⟩ : ∃ Q : Int, (ya + yb).tmod 2 = Q := ⟨_, rfl⟩
    have eP : (xa + xb) % 2 = P := by rw [← hP, Int.tmod_eq_emod_of_nonneg (by omega)]
    have eQ : (ya + yb) % 2 = Q' := by rw [← hQ, Int.tmod_eq_emod_of_nonneg (by omega)]
    have j1 : IntKind.i64.wrap (xa + xb) = xa + xb := IntWalk.i64_in _ (by omega)
    have j2 : IntKind.i64.wrap (ya + yb) = ya + yb := IntWalk.i64_in _ (by omega)
    have j3 : IntKind.i64.wrap X = X := IntWalk.i64_in _ (by omega)
    have j4 : IntKind.i64.wrap Y = Y := IntWalk.i64_in _ (by omega)
    have j5 : IntKind.i64.wrap P = P := IntWalk.i64_in _ (by omega)
    have j6 : IntKind.i64.wrap Q' = Q' := IntWalk.i64_in _ (by omega)
    have WH : Hid (P = 0 → Q' = 0 → leanL (ins (X, Y) l) = leanL l) := Lib.hid (fun h1 h2 => lean_added HC.out h1l (by rw [HXA.out, HXB.out]; omega) (by rw [HYA.out, HYB.out]; omega))
    go_upto_region 8 with fail
    go_region_held3 (fun w' => w'.cell? ⟨g, o, none⟩ = some (.int .i64 xa) ∧ w'.cell? ⟨g, o + 1, none⟩ = some (.int .i64 ya) ∧ w'.cell? ⟨g, o + 2, none⟩ = some (.int .i64 xb) ∧ w'.cell? ⟨g, o + 2 + 1, none⟩ = some (.int .i64 yb))
      (first | go_keep) (fail)
    clear c0 c1 c2 c3
    replace R := Lib.hid ((R.out.alloc X Y 29).grow (Below.refl _ _).drew)
    replace R1 := Lib.hid ((R1.out.alloc X Y 29).grow (Below.refl _ _).drew)
    replace R2 := Lib.hid ((R2.out.alloc X Y 29).grow (Below.refl _ _).drew)
    replace S := (S.alloc' X Y 29).drew
    generalize (wv4.alloc (.cells #[.int .i64 X, .int .i64 Y] 29)).drew = W5 at S R R1 R2 ⊢
    have r := S.holds
    simp only [Holds, and_true] at r
    try simp only [World.size_alloc] at r
    obtain ⟨c0, c1⟩ := R.out.cells 0 h0l
    simp only [Nat.zero_mul, Nat.add_zero] at c0 c1
    obtain ⟨c2, c3⟩ := R.out.cells 1 h1l
    simp only [Nat.one_mul] at c2 c3
    rw [HXA.out] at c0; rw [HYA.out] at c1; rw [HXB.out] at c2; rw [HYB.out] at c3
    by_cases p0 : P = 0
    rotate_left
    · have p1 : (P == 0) = false := by simpa using p0
      clear p0
      go_upto_region 9 with fail
      go_quiet (fail)
      have BQ := below_drews (Below.refl W5.heap.size W5) nq
      replace R := Lib.hid (R.out.grow BQ)
      replace R1 := Lib.hid (R1.out.grow BQ)
      replace R2 := Lib.hid (R2.out.grow BQ)
      replace S := S.next BQ
      clear BQ
      clear r
      have r := S.holds
      simp only [Holds, and_true] at r
      try simp only [World.size_alloc] at r
      clear c0 c1 c2 c3
      cases ha : addOf (X, Y) l with
      | none =>
        have HA := Lib.hid ha
        clear ha
        go_wp2_with fail
        refine (lstb_no (implCurveAdd_any (X, Y) R.out) HA.out).mono ?_
        rintro e wv5 ⟨v3, rfl, r3, b5⟩
        replace R := Lib.hid ((R.out.grow b5))
        replace R1 := Lib.hid ((R1.out.grow b5))
        replace R2 := Lib.hid ((R2.out.grow b5))
        replace S := (S.next b5)
        have R3 := Lib.hid r3
        clear r3
        clear b5
        clear r
        have r := S.holds
        simp only [Holds, and_true] at r
        try simp only [World.size_alloc] at r
        go_wp2_with fail
        refine (lstb_no (implCurveLean_any R3.out) (leanOf_no (by decide))).mono ?_
        rintro e wv6 ⟨v4, rfl, r4, b6⟩
        replace R := Lib.hid ((R.out.grow b6))
        replace R1 := Lib.hid ((R1.out.grow b6))
        replace R2 := Lib.hid ((R2.out.grow b6))
        replace R3 := Lib.hid ((R3.out.grow b6))
        replace S := (S.next b6)
        have R4 := Lib.hid r4
        clear r4
        clear b6
        clear r
        have r := S.holds
        simp only [Holds, and_true] at r
        try simp only [World.size_alloc] at r
        go_wp2_with fail
        go_ret
        exact ⟨by first | rfl | (simp; done) | (simp; omega), S.below⟩
      | some mm =>
        have HA := Lib.hid ha
        clear ha
        obtain ⟨_, cm, hmm⟩ := addOf_some HA.out
        have CM := Lib.hid cm; have HMM := Lib.hid hmm
        clear cm hmm
        go_wp2_with fail
        refine (lstb_yes (implCurveAdd_any (X, Y) R.out) HA.out).mono ?_
        rintro e wv5 ⟨v3, rfl, r3, b5⟩
        replace R := Lib.hid ((R.out.grow b5))
        replace R1 := Lib.hid ((R1.out.grow b5))
        replace R2 := Lib.hid ((R2.out.grow b5))
        replace S := (S.next b5)
        have R3 := Lib.hid r3
        clear r3
        clear b5
        clear r
        have r := S.holds
        simp only [Holds, and_true] at r
        try simp only [World.size_alloc] at r
        go_wp2_with fail
        refine (lstb_yes (implCurveLean_any R3.out) (leanOf_is CM.out)).mono ?_
        rintro e wv6 ⟨v4, rfl, r4, b6⟩
        replace R := Lib.hid ((R.out.grow b6))
        replace R1 := Lib.hid ((R1.out.grow b6))
        replace R2 := Lib.hid ((R2.out.grow b6))
        replace R3 := Lib.hid ((R3.out.grow b6))
        replace S := (S.next b6)
        have R4 := Lib.hid r4
        clear r4
        clear b6
        clear r
        have r := S.holds
        simp only [Holds, and_true] at r
        try simp only [World.size_alloc] at r
        go_wp2_with fail
        go_ret
        exact ⟨by first | rfl | (simp; done) | (simp; omega), S.below⟩
    · subst p0
      by_cases q0 : Q' = 0
      rotate_left
      · have q1 : (Q' == 0) = false := by simpa using q0
        clear q0
        go_upto_region 9 with fail
        go_quiet (fail)
        have BQ := below_drews (Below.refl W5.heap.size W5) nq
        replace R := Lib.hid (R.out.grow BQ)
        replace R1 := Lib.hid (R1.out.grow BQ)
        replace R2 := Lib.hid (R2.out.grow BQ)
        replace S := S.next BQ
        clear BQ
        clear r
        have r := S.holds
        simp only [Holds, and_true] at r
        try simp only [World.size_alloc] at r
        clear c0 c1 c2 c3
        cases ha : addOf (X, Y) l with
        | none =>
          have HA := Lib.hid ha
          clear ha
          go_wp2_with fail
          refine (lstb_no (implCurveAdd_any (X, Y) R.out) HA.out).mono ?_
          rintro e wv5 ⟨v3, rfl, r3, b5⟩
          replace R := Lib.hid ((R.out.grow b5))
          replace R1 := Lib.hid ((R1.out.grow b5))
          replace R2 := Lib.hid ((R2.out.grow b5))
          replace S := (S.next b5)
          have R3 := Lib.hid r3
          clear r3
          clear b5
          clear r
          have r := S.holds
          simp only [Holds, and_true] at r
          try simp only [World.size_alloc] at r
          go_wp2_with fail
          refine (lstb_no (implCurveLean_any R3.out) (leanOf_no (by decide))).mono ?_
          rintro e wv6 ⟨v4, rfl, r4, b6⟩
          replace R := Lib.hid ((R.out.grow b6))
          replace R1 := Lib.hid ((R1.out.grow b6))
          replace R2 := Lib.hid ((R2.out.grow b6))
          replace R3 := Lib.hid ((R3.out.grow b6))
          replace S := (S.next b6)
          have R4 := Lib.hid r4
          clear r4
          clear b6
          clear r
          have r := S.holds
          simp only [Holds, and_true] at r
          try simp only [World.size_alloc] at r
          go_wp2_with fail
          go_ret
          exact ⟨by first | rfl | (simp; done) | (simp; omega), S.below⟩
        | some mm =>
          have HA := Lib.hid ha
          clear ha
          obtain ⟨_, cm, hmm⟩ := addOf_some HA.out
          have CM := Lib.hid cm; have HMM := Lib.hid hmm
          clear cm hmm
          go_wp2_with fail
          refine (lstb_yes (implCurveAdd_any (X, Y) R.out) HA.out).mono ?_
          rintro e wv5 ⟨v3, rfl, r3, b5⟩
          replace R := Lib.hid ((R.out.grow b5))
          replace R1 := Lib.hid ((R1.out.grow b5))
          replace R2 := Lib.hid ((R2.out.grow b5))
          replace S := (S.next b5)
          have R3 := Lib.hid r3
          clear r3
          clear b5
          clear r
          have r := S.holds
          simp only [Holds, and_true] at r
          try simp only [World.size_alloc] at r
          go_wp2_with fail
          refine (lstb_yes (implCurveLean_any R3.out) (leanOf_is CM.out)).mono ?_
          rintro e wv6 ⟨v4, rfl, r4, b6⟩
          replace R := Lib.hid ((R.out.grow b6))
          replace R1 := Lib.hid ((R1.out.grow b6))
          replace R2 := Lib.hid ((R2.out.grow b6))
          replace R3 := Lib.hid ((R3.out.grow b6))
          replace S := (S.next b6)
          have R4 := Lib.hid r4
          clear r4
          clear b6
          clear r
          have r := S.holds
          simp only [Holds, and_true] at r
          try simp only [World.size_alloc] at r
          go_wp2_with fail
          go_ret
          exact ⟨by first | rfl | (simp; done) | (simp; omega), S.below⟩
      · subst q0
        have WE := Lib.hid (WH.out rfl rfl)
        go_upto_region 9 with fail
        go_quiet (fail)
        have BQ := below_drews (Below.refl W5.heap.size W5) nq
        replace R := Lib.hid (R.out.grow BQ)
        replace R1 := Lib.hid (R1.out.grow BQ)
        replace R2 := Lib.hid (R2.out.grow BQ)
        replace S := S.next BQ
        clear BQ
        clear r
        have r := S.holds
        simp only [Holds, and_true] at r
        try simp only [World.size_alloc] at r
        clear c0 c1 c2 c3
        cases ha : addOf (X, Y) l with
        | none =>
          have HA := Lib.hid ha
          clear ha
          go_wp2_with fail
          refine (lstb_no (implCurveAdd_any (X, Y) R.out) HA.out).mono ?_
          rintro e wv5 ⟨v3, rfl, r3, b5⟩
          replace R := Lib.hid ((R.out.grow b5))
          replace R1 := Lib.hid ((R1.out.grow b5))
          replace R2 := Lib.hid ((R2.out.grow b5))
          replace S := (S.next b5)
          have R3 := Lib.hid r3
          clear r3
          clear b5
          clear r
          have r := S.holds
          simp only [Holds, and_true] at r
          try simp only [World.size_alloc] at r
          go_wp2_with fail
          refine (lstb_no (implCurveLean_any R3.out) (leanOf_no (by decide))).mono ?_
          rintro e wv6 ⟨v4, rfl, r4, b6⟩
          replace R := Lib.hid ((R.out.grow b6))
          replace R1 := Lib.hid ((R1.out.grow b6))
          replace R2 := Lib.hid ((R2.out.grow b6))
          replace R3 := Lib.hid ((R3.out.grow b6))
          replace S := (S.next b6)
          have R4 := Lib.hid r4
          clear r4
          clear b6
          clear r
          have r := S.holds
          simp only [Holds, and_true] at r
          try simp only [World.size_alloc] at r
          go_wp2_with fail
          go_ret
          exact ⟨by first | rfl | (simp; done) | (simp; omega), S.below⟩
        | some mm =>
          have HA := Lib.hid ha
          clear ha
          obtain ⟨_, cm, hmm⟩ := addOf_some HA.out
          have CM := Lib.hid cm; have HMM := Lib.hid hmm
          clear cm hmm
          go_wp2_with fail
          refine (lstb_yes (implCurveAdd_any (X, Y) R.out) HA.out).mono ?_
          rintro e wv5 ⟨v3, rfl, r3, b5⟩
          replace R := Lib.hid ((R.out.grow b5))
          replace R1 := Lib.hid ((R1.out.grow b5))
          replace R2 := Lib.hid ((R2.out.grow b5))
          replace S := (S.next b5)
          have R3 := Lib.hid r3
          clear r3
          clear b5
          clear r
          have r := S.holds
          simp only [Holds, and_true] at r
          try simp only [World.size_alloc] at r
          go_wp2_with fail
          refine (lstb_yes (implCurveLean_any R3.out) (leanOf_is CM.out)).mono ?_
          rintro e wv6 ⟨v4, rfl, r4, b6⟩
          replace R := Lib.hid ((R.out.grow b6))
          replace R1 := Lib.hid ((R1.out.grow b6))
          replace R2 := Lib.hid ((R2.out.grow b6))
          replace R3 := Lib.hid ((R3.out.grow b6))
          replace S := (S.next b6)
          have R4 := Lib.hid r4
          clear r4
          clear b6
          clear r
          have r := S.holds
          simp only [Holds, and_true] at r
          try simp only [World.size_alloc] at r
          go_wp2_with fail
          refine (same_yes R4.out R1.out (by rw [HMM.out, HLM.out]; exact WE.out)).mono ?_
          rintro e wv7 ⟨rfl, b7⟩
          replace R := Lib.hid ((R.out.grow b7))
          replace R1 := Lib.hid ((R1.out.grow b7))
          replace R2 := Lib.hid ((R2.out.grow b7))
          replace R3 := Lib.hid ((R3.out.grow b7))
          replace R4 := Lib.hid ((R4.out.grow b7))
          replace S := (S.next b7)
          clear b7
          clear r
          have r := S.holds
          simp only [Holds, and_true] at r
          try simp only [World.size_alloc] at r
          go_wp2_with fail
          go_ret
          exact ⟨by first | rfl | (simp; done) | (simp; omega), S.below⟩

set_option maxRecDepth 100000 in
theorem lifted (os : Os) (started : os.Started) (H : Type) (enc : TypeId × Value → H) :
    ReturnsInHanded {} Try.checked os 3 .any (Rows.fnLeanAddSpec.pre6 enc Try.prog Try.f3 Rows.fnLeanAddRow.domain false) (Rows.fnLeanAddSpec.post enc Try.prog Try.f3 false true false false) := by
  refine returnsInHanded_of_change (C := Try.checked) own started (by kernel_rfl) Try.func3
    (ChangeSpec.witness6 (enc := enc) (C := Try.checked) false ⟨#[], #[.slice none 0 0], []⟩ 8 (by kernel_rfl) (by kernel_rfl) (by kernel_rfl) (by kernel_rfl)) ?_
  intro W base args ds gs before hval0 hW hcnd _
  have hval : ∀ (j : Nat) t v, Try.f3.params[j]? = some t → args[j]? = some v → Value.okWide Try.prog W .any base t v := hval0
  have hW' := hW
  obtain ⟨p, q, hA0, hV, rfl, hfz, hnd⟩ := hW
  have hA : DataW.TrodAll enc Try.prog W 0 (fun _ => true) true Try.f3.params.toList args.toList ds p := hA0
  rw [Try.params3] at hA hval
  obtain ⟨v0, vs0, d0, ds0, p0, q0, hargs, rfl, rfl, h0, r0⟩ := trodAll_cons hA
  obtain ⟨rfl, rfl, rfl⟩ := trodAll_nil r0
  obtain rfl : args = #[v0] := by cases args; simp_all
  obtain ⟨rfl, rfl⟩ := trodVars_none hV
  obtain ⟨a0, len0, cap0, rfl⟩ := okWide_slice Try.underlying22 (hval 0 22 v0 rfl rfl)
  have k0 := h0
  have lt0 : ∀ x ∈ p0, x.block < W.heap.size := by obtain ⟨m, hm⟩ := k0; exact DataW.trod_lt m _ _ _ hm
  obtain ⟨z0, w0⟩ : ∃ zs, IsRow .u8 W a0 len0 cap0 zs := by
    obtain ⟨fuel, hf⟩ := h0
    rcases open_ints Try.underlying22 Try.underlying5 (by kernel_rfl) hf with ⟨hcs, _⟩ | ⟨x, l, c, zs, hcs, _, hl, hm, hz, _, hcell, hwz⟩
    · simp [Value.cells] at hcs
      obtain ⟨rfl, rfl, rfl⟩ := hcs
      exact ⟨[], .inl ⟨rfl, rfl, rfl, rfl⟩⟩
    · simp [Value.cells] at hcs
      obtain ⟨rfl, rfl, rfl⟩ := hcs
      exact ⟨zs, .inr ⟨_, rfl, hl, hm, by simpa using hz, hcell, hwz⟩⟩
  clear hA0 hval0
  refine (walk a0 len0 cap0 z0 W w0).mono fun e W' ⟨he, bel⟩ => ?_
  subst he
  exact ⟨_, rfl, _, _, _, [], _, [], hW', trodAll_mk1 (shut_bool Try.underlying4 _), (trodAll_cons_mk (Below.trod laidOut (by kernel_rfl) (of_decide_eq_true (by kernel_rfl)) k0 bel lt0) trodAll_mk0), rfl, bel.frame _, fun h => by cases h⟩

theorem over : Rows.fnLeanAddRow.holds Try.pinned (OpenSpec.ofChange Rows.fnLeanAddSpec) :=
  OpenClaim.holds_of_wide 3 Try.f3 rfl rfl rfl rfl rfl rfl rfl ⟨rfl, rfl, rfl, rfl, rfl⟩ rfl rfl rfl rfl rfl (by kernel_rfl) Try.func3 (by kernel_rfl)
    (of_decide_eq_true (by kernel_rfl)) (by unfold Func.isWrapper; first | (rw [if_pos (by decide +kernel)]; kernel_rfl) | (rw [if_neg (by decide +kernel)]; exact ⟨rfl, rfl⟩))
    (fun os started H enc _ => lifted os started H enc)

/-- ████ THE STATEMENT ████ -/
theorem proved : Rows.FnLeanAddSaid := over
#print axioms proved
end Go.Proofs.Ythpfehjjaamkkac.fnLeanAdd
