/- For every input, the law FnLean of the given statements returns true over the program at this commit, and its arguments read afterwards as before: no condition. -/
import Derived.Test.YthpfehjjaamkkabRows
import Derived.Test.YthpfehjjaamkkabLawK
import Derived.Test.YthpfehjjaamkkabCurveLean
import Derived.Test.YthpfehjjaamkkabSpecLean
import Derived.WalkKit
import Derived.ProofKit
import Derived.OpenShut
import Derived.ShutString
import Derived.ChangeOld
import Derived.Below
namespace Go.Proofs.Ythpfehjjaamkkab.fnLean
open Go.ChangeShapes Go.WideShapes Go.ChangeAt Go.RowKit
open Go.ChangeMaps (open_string shut_string)
set_option linter.unusedVariables false

theorem own : ownKnob Try.prog.godebug = none := by kernel_rfl
theorem laidOut : laidOutB Try.prog = true := by kernel_rfl

/-- WHAT THE WALK IS TOLD OF A SLICE OF INTEGERS THAT CAME IN: it is nil; or it leads to a row of 'cap' cells, the numbers 'zs' (the first 'len' are its elements, the rest its spare room), each fitting its kind. -/
def IsRow (k : IntKind) (w : World) (a : Option Addr) (len cap : Nat) (zs : List Int) : Prop :=
  (a = none ∧ len = 0 ∧ cap = 0 ∧ zs = []) ∨
  ∃ x, a = some x ∧ len ≤ cap ∧ cap ≤ maxLen ∧ zs.length = cap ∧ (∀ i, i < zs.length → w.cell? (x.add i) = some (.int k (zs.getD i 0))) ∧ ∀ n ∈ zs, (Lit.int k n).wf = true

set_option maxRecDepth 100000 in
set_option maxHeartbeats 3200000 in
theorem walk (a0 : Option Addr) (len0 cap0 : Nat) (z0 : List Int) (a1 : Option Addr) (len1 cap1 : Nat) (z1 : List Int) (w : World) (w0 : IsRow .u8 w a0 len0 cap0 z0) (w1 : IsRow .u8 w a1 len1 cap1 z1) :
    Calls Try.prog 5 #[.slice a0 len0 cap0, .slice a1 len1 cap1] w fun e w' => e = .returned (.bool true) ∧ Below w.heap.size w w' := by
  have hB := bytes_of w0
  have hB1 := bytes_len (bytes_of w1)
  unfold maxLen at hB1
  by_cases hl : 1048576 < len0
  · have hdec : decide (1048576 < len0) = true := by simpa using hl
    go_enter Try.func5, Try.ntmps5
    go_wp2_with fail
    go_ret
    exact ⟨rfl, Below.refl _ _⟩
  have hdec : decide (1048576 < len0) = false := by simpa using hl
  by_cases hl1 : 1048576 < len1
  · go_enter Try.func5, Try.ntmps5
    go_wp2_with fail
    go_ret
    exact ⟨rfl, Below.refl _ _⟩
  have hm : len0 ≤ 1048576 := by omega
  have hm1 : len1 ≤ 1048576 := by omega
  clear hB1
  go_enter Try.func5, Try.ntmps5
  go_wp2_with fail
  refine (DrawCurveLean_any hB).mono ?_
  rintro e u1 ⟨v, l, rfl, hr, hbd, hl, b1⟩
  clear w0 w1 hB
  have S := St.start b1
  clear b1
  have R := Lib.hid hr
  clear hr
  have BD := Lib.hid hbd
  clear hbd
  cases hc : leanOf l with
  | none =>
    have HC := Lib.hid hc
    clear hc
    go_wp2_with fail
    refine (lstb_no (implCurveLean_any R.out) HC.out).mono ?_
    rintro e u2 ⟨v1, rfl, r1, b2⟩
    replace R := Lib.hid ((R.out.grow b2))
    replace S := (S.next b2)
    have R1 := Lib.hid r1
    clear r1
    clear b2
    go_wp2_with fail
    refine (lstb_no (specCurveLean_any R.out) HC.out).mono ?_
    rintro e u3 ⟨v2, rfl, r2, b3⟩
    replace R := Lib.hid ((R.out.grow b3))
    replace R1 := Lib.hid ((R1.out.grow b3))
    replace S := (S.next b3)
    have R2 := Lib.hid r2
    clear r2
    clear b3
    go_wp2_with fail
    refine (same_yes R1.out R2.out rfl).mono ?_
    rintro e u4 ⟨rfl, b4⟩
    replace R := Lib.hid ((R.out.grow b4))
    replace R1 := Lib.hid ((R1.out.grow b4))
    replace R2 := Lib.hid ((R2.out.grow b4))
    replace S := (S.next b4)
    clear b4
    go_wp2_with fail
    refine (same_yes R1.out R2.out rfl).mono ?_
    rintro e u5 ⟨rfl, b5⟩
    replace R := Lib.hid ((R.out.grow b5))
    replace R1 := Lib.hid ((R1.out.grow b5))
    replace R2 := Lib.hid ((R2.out.grow b5))
    replace S := (S.next b5)
    clear b5
    go_wp2_with fail
    go_ret
    exact ⟨rfl, S.below⟩
  | some lm =>
    have HC := Lib.hid hc
    clear hc
    go_wp2_with fail
    refine (lstb_yes (implCurveLean_any R.out) HC.out).mono ?_
    rintro e u2 ⟨v1, rfl, r1, b2⟩
    replace R := Lib.hid ((R.out.grow b2))
    replace S := (S.next b2)
    have R1 := Lib.hid r1
    clear r1
    clear b2
    go_wp2_with fail
    refine (lstb_yes (specCurveLean_any R.out) HC.out).mono ?_
    rintro e u3 ⟨v2, rfl, r2, b3⟩
    replace R := Lib.hid ((R.out.grow b3))
    replace R1 := Lib.hid ((R1.out.grow b3))
    replace S := (S.next b3)
    have R2 := Lib.hid r2
    clear r2
    clear b3
    go_wp2_with fail
    refine (same_yes R1.out R2.out rfl).mono ?_
    rintro e u4 ⟨rfl, b4⟩
    replace R := Lib.hid ((R.out.grow b4))
    replace R1 := Lib.hid ((R1.out.grow b4))
    replace R2 := Lib.hid ((R2.out.grow b4))
    replace S := (S.next b4)
    clear b4
    obtain ⟨CL, hlm⟩ := leanOf_some HC.out
    replace HC := Lib.hid CL
    have CM : Hid (isCurve lm = true) := Lib.hid (by rw [hlm]; exact leanL_curve CL)
    have LAT : Hid (∀ z, cAt lm z = cAt l z) := Lib.hid (fun z => by rw [hlm]; exact leanL_at CL z)
    have LON : Hid (∀ z, onC l z = true → onC lm z = true) := Lib.hid (fun z hz => by rw [hlm]; exact leanL_on hz)
    have RE : Hid (leanOf lm = some lm) := Lib.hid (by rw [leanOf_is CM.out, hlm, leanL_again CL])
    have HLM := Lib.hid hlm
    clear CL hlm
    obtain ⟨g, o, cp, rfl, hcap, hcapm⟩ := R.out.known hl
    unfold maxLen at hcapm
    obtain ⟨m, hm⟩ : ∃ m, l.length = m + 1 := ⟨l.length - 1, by omega⟩
    rw [hm] at hcap
    rw [hm] at R
    rw [hm]
    have HM := Lib.hid hm
    have em : l.length - 1 = m := by omega
    have hml : m < l.length := by omega
    have h0l : 0 < l.length := by omega
    have q0 : (0 : Int) < (m : Int) + 1 := by omega
    have q1 : 0 < m + 1 := by omega
    have q2 : IntKind.i64.wrap ((m : Int) + 1 - 1) = (m : Int) := by rw [show (m : Int) + 1 - 1 = m by omega]; exact IntWalk.i64_in _ (by omega)
    have q2' : IntKind.i64.wrap (m : Int) = (m : Int) := IntWalk.i64_in _ (by omega)
    have q3 : (0 : Int) ≤ (m : Int) := by omega
    have q4 : (m : Int) < (m : Int) + 1 := by omega
    have q5 : m < m + 1 := by omega
    have up := (step_le HC.out (show 0 ≤ m by omega) hml).1
    have d0 := isCurve_dp HC.out 0 h0l; have d1 := isCurve_dp HC.out m hml
    have z0 : IntKind.i64.wrap (l[m].1 - l[0].1) = l[m].1 - l[0].1 := IntWalk.i64_in _ (by omega)
    have z1 : IntKind.i64.wrap (l[m].1 - l[0].1 + 1) = l[m].1 - l[0].1 + 1 := IntWalk.i64_in _ (by omega)
    have z2 : ¬ (l[m].1 - l[0].1 + 1 = 0) := by omega
    obtain ⟨y, hy⟩ : ∃ y : Int, (len1 : Int).tmod (l[m].1 - l[0].1 + 1) = y := ⟨_, rfl⟩
    have hy0 : 0 ≤ y := by rw [← hy]; exact Int.tmod_nonneg _ (by omega)
    have hy1 : y < l[m].1 - l[0].1 + 1 := by rw [← hy]; exact Int.tmod_lt_of_pos _ (by omega)
    have hye : (len1 : Int) % (l[m].1 - l[0].1 + 1) = y := by rw [← hy, Int.tmod_eq_emod_of_nonneg (by omega)]
    have z3 : IntKind.i64.wrap y = y := IntWalk.i64_in _ (by omega)
    have z4 : IntKind.i64.wrap (l[0].1 + y) = l[0].1 + y := IntWalk.i64_in _ (by omega)
    have OX := Lib.hid ((onC_is (x := l[0].1 + y) HC.out h0l).2 (by simp only [em]; omega))
    obtain ⟨f0, f1⟩ := R.out.cells 0 h0l
    simp only [Nat.zero_mul, Nat.add_zero] at f0 f1
    obtain ⟨t0, t1⟩ := R.out.cells m hml
    go_upto_region 8 with fail
    go_quiet (fail)
    have BQ := below_drews (Below.refl u4.heap.size u4) nq
    replace R := Lib.hid (R.out.grow BQ)
    replace R1 := Lib.hid (R1.out.grow BQ)
    replace R2 := Lib.hid (R2.out.grow BQ)
    replace S := S.next BQ
    clear BQ
    clear f0 f1 t0 t1
    obtain ⟨g1, o1, cp1, rfl, hcap1, hcapm1⟩ := R1.out.known (by have := isCurve_len CM.out; omega)
    unfold maxLen at hcapm1
    obtain ⟨m1, hm1'⟩ : ∃ m1, lm.length = m1 + 1 := ⟨lm.length - 1, by have := isCurve_len CM.out; omega⟩
    have h1l : 0 < lm.length := by omega
    have hm1l : m1 < lm.length := by omega
    rw [hm1'] at R1 hcap1
    rw [hm1']
    have p0 : (0 : Int) < (m1 : Int) + 1 := by omega
    have p1 : 0 < m1 + 1 := by omega
    have p2 : IntKind.i64.wrap ((m1 : Int) + 1 - 1) = (m1 : Int) := by rw [show (m1 : Int) + 1 - 1 = m1 by omega]; exact IntWalk.i64_in _ (by omega)
    have p2' : IntKind.i64.wrap (m1 : Int) = (m1 : Int) := IntWalk.i64_in _ (by omega)
    have p3 : (0 : Int) ≤ (m1 : Int) := by omega
    have p4 : (m1 : Int) < (m1 : Int) + 1 := by omega
    have p5 : m1 < m1 + 1 := by omega
    have HM1 := Lib.hid hm1'
    clear hm1'
    have E0 : Hid (lm[0] = l[0]) := Lib.hid (by have h := HLM.out; subst h; exact (leanL_first h0l).2)
    have E1 : Hid (lm[m1] = l[m]) := Lib.hid (by have h := HLM.out; subst h; exact leanL_ends HC.out HM.out HM1.out)
    have OM := Lib.hid (LON.out _ OX.out)
    go_wp2_with fail
    refine (at_yes R.out OX.out).mono ?_
    rintro e u5 ⟨n, d, rfl, hf, hq, b5⟩
    replace R := Lib.hid ((R.out.grow b5).alloc n d 32)
    replace R1 := Lib.hid ((R1.out.grow b5).alloc n d 32)
    replace R2 := Lib.hid ((R2.out.grow b5).alloc n d 32)
    replace S := (S.next b5).alloc n d
    clear b5
    have r := S.holds
    simp only [Holds, and_true] at r
    try simp only [World.size_alloc] at r
    have HF := Lib.hid hf; have HQ := Lib.hid hq
    clear hf hq
    have AM : Hid (fq n d = cAt lm ((l[0].1 + y : Int) : Rat)) := Lib.hid (by rw [HQ.out, LAT.out])
    go_wp2_with fail
    refine (got_same (at_yes (x := l[0].1 + y) R1.out OM.out) HF.out AM.out).mono ?_
    rintro e u6 ⟨rfl, b6⟩
    replace R := Lib.hid ((R.out.grow b6).alloc n d 32)
    replace R1 := Lib.hid ((R1.out.grow b6).alloc n d 32)
    replace R2 := Lib.hid ((R2.out.grow b6).alloc n d 32)
    replace S := (S.next b6).alloc n d
    clear b6
    clear r
    have r := S.holds
    simp only [Holds, and_true] at r
    try simp only [World.size_alloc] at r
    go_wp2_with fail
    refine (lstb_yes (implCurveLean_any R1.out) RE.out).mono ?_
    rintro e u7 ⟨v4, rfl, r4, b7⟩
    replace R := Lib.hid ((R.out.grow b7))
    replace R1 := Lib.hid ((R1.out.grow b7))
    replace R2 := Lib.hid ((R2.out.grow b7))
    replace S := (S.next b7)
    have R4 := Lib.hid r4
    clear r4
    clear b7
    clear r
    have r := S.holds
    simp only [Holds, and_true] at r
    try simp only [World.size_alloc] at r
    obtain ⟨f0, f1⟩ := R.out.cells 0 h0l
    simp only [Nat.zero_mul, Nat.add_zero] at f0 f1
    obtain ⟨t0, t1⟩ := R.out.cells m hml
    obtain ⟨g0, g2⟩ := R1.out.cells 0 h1l
    simp only [Nat.zero_mul, Nat.add_zero] at g0 g2
    obtain ⟨s0, s1⟩ := R1.out.cells m1 hm1l
    rw [E0.out] at g0 g2
    rw [E1.out] at s0 s1
    have Bc0 := r.1.1
    have Bc1 := r.1.2.1
    have Ac0 := r.2.1
    have Ac1 := r.2.2.1
    go_upto_region 12 with fail
    have mkS : ∀ w' : World, Below u7.heap.size u7 w' → (Below u7.heap.size u7 w' ∧ w'.cell? ⟨u6.heap.size, 0, none⟩ = some (.int .i64 n) ∧ w'.cell? ⟨u6.heap.size, 1, none⟩ = some (.int .i64 d) ∧ w'.cell? ⟨u5.heap.size, 0, none⟩ = some (.int .i64 n) ∧ w'.cell? ⟨u5.heap.size, 1, none⟩ = some (.int .i64 d) ∧ w'.cell? ⟨g, o, none⟩ = some (.int .i64 l[0].1) ∧ w'.cell? ⟨g, o + 1, none⟩ = some (.int .i64 l[0].2) ∧ w'.cell? ⟨g, o + m * 2, none⟩ = some (.int .i64 l[m].1) ∧ w'.cell? ⟨g, o + m * 2 + 1, none⟩ = some (.int .i64 l[m].2) ∧ w'.cell? ⟨g1, o1, none⟩ = some (.int .i64 l[0].1) ∧ w'.cell? ⟨g1, o1 + 1, none⟩ = some (.int .i64 l[0].2) ∧ w'.cell? ⟨g1, o1 + m1 * 2, none⟩ = some (.int .i64 l[m].1) ∧ w'.cell? ⟨g1, o1 + m1 * 2 + 1, none⟩ = some (.int .i64 l[m].2)) := fun w' b => ⟨b, (b.cell (cell_below Bc0)).trans Bc0, (b.cell (cell_below Bc1)).trans Bc1, (b.cell (cell_below Ac0)).trans Ac0, (b.cell (cell_below Ac1)).trans Ac1, (b.cell (cell_below f0)).trans f0, (b.cell (cell_below f1)).trans f1, (b.cell (cell_below t0)).trans t0, (b.cell (cell_below t1)).trans t1, (b.cell (cell_below g0)).trans g0, (b.cell (cell_below g2)).trans g2, (b.cell (cell_below s0)).trans s0, (b.cell (cell_below s1)).trans s1⟩
    have held : ∀ W w' : World, Below W.heap.size W w' → (Below u7.heap.size u7 W ∧ W.cell? ⟨u6.heap.size, 0, none⟩ = some (.int .i64 n) ∧ W.cell? ⟨u6.heap.size, 1, none⟩ = some (.int .i64 d) ∧ W.cell? ⟨u5.heap.size, 0, none⟩ = some (.int .i64 n) ∧ W.cell? ⟨u5.heap.size, 1, none⟩ = some (.int .i64 d) ∧ W.cell? ⟨g, o, none⟩ = some (.int .i64 l[0].1) ∧ W.cell? ⟨g, o + 1, none⟩ = some (.int .i64 l[0].2) ∧ W.cell? ⟨g, o + m * 2, none⟩ = some (.int .i64 l[m].1) ∧ W.cell? ⟨g, o + m * 2 + 1, none⟩ = some (.int .i64 l[m].2) ∧ W.cell? ⟨g1, o1, none⟩ = some (.int .i64 l[0].1) ∧ W.cell? ⟨g1, o1 + 1, none⟩ = some (.int .i64 l[0].2) ∧ W.cell? ⟨g1, o1 + m1 * 2, none⟩ = some (.int .i64 l[m].1) ∧ W.cell? ⟨g1, o1 + m1 * 2 + 1, none⟩ = some (.int .i64 l[m].2)) → (Below u7.heap.size u7 w' ∧ w'.cell? ⟨u6.heap.size, 0, none⟩ = some (.int .i64 n) ∧ w'.cell? ⟨u6.heap.size, 1, none⟩ = some (.int .i64 d) ∧ w'.cell? ⟨u5.heap.size, 0, none⟩ = some (.int .i64 n) ∧ w'.cell? ⟨u5.heap.size, 1, none⟩ = some (.int .i64 d) ∧ w'.cell? ⟨g, o, none⟩ = some (.int .i64 l[0].1) ∧ w'.cell? ⟨g, o + 1, none⟩ = some (.int .i64 l[0].2) ∧ w'.cell? ⟨g, o + m * 2, none⟩ = some (.int .i64 l[m].1) ∧ w'.cell? ⟨g, o + m * 2 + 1, none⟩ = some (.int .i64 l[m].2) ∧ w'.cell? ⟨g1, o1, none⟩ = some (.int .i64 l[0].1) ∧ w'.cell? ⟨g1, o1 + 1, none⟩ = some (.int .i64 l[0].2) ∧ w'.cell? ⟨g1, o1 + m1 * 2, none⟩ = some (.int .i64 l[m].1) ∧ w'.cell? ⟨g1, o1 + m1 * 2 + 1, none⟩ = some (.int .i64 l[m].2)) := fun W w' b h => mkS w' (h.1.trans (b.mono h.1.size))
    have keep0 := mkS _ (Below.refl u7.heap.size u7).drew
    have atR := fun (W : World) (h : (Below u7.heap.size u7 W ∧ W.cell? ⟨u6.heap.size, 0, none⟩ = some (.int .i64 n) ∧ W.cell? ⟨u6.heap.size, 1, none⟩ = some (.int .i64 d) ∧ W.cell? ⟨u5.heap.size, 0, none⟩ = some (.int .i64 n) ∧ W.cell? ⟨u5.heap.size, 1, none⟩ = some (.int .i64 d) ∧ W.cell? ⟨g, o, none⟩ = some (.int .i64 l[0].1) ∧ W.cell? ⟨g, o + 1, none⟩ = some (.int .i64 l[0].2) ∧ W.cell? ⟨g, o + m * 2, none⟩ = some (.int .i64 l[m].1) ∧ W.cell? ⟨g, o + m * 2 + 1, none⟩ = some (.int .i64 l[m].2) ∧ W.cell? ⟨g1, o1, none⟩ = some (.int .i64 l[0].1) ∧ W.cell? ⟨g1, o1 + 1, none⟩ = some (.int .i64 l[0].2) ∧ W.cell? ⟨g1, o1 + m1 * 2, none⟩ = some (.int .i64 l[m].1) ∧ W.cell? ⟨g1, o1 + m1 * 2 + 1, none⟩ = some (.int .i64 l[m].2))) => R.out.grow h.1
    have atR1 := fun (W : World) (h : (Below u7.heap.size u7 W ∧ W.cell? ⟨u6.heap.size, 0, none⟩ = some (.int .i64 n) ∧ W.cell? ⟨u6.heap.size, 1, none⟩ = some (.int .i64 d) ∧ W.cell? ⟨u5.heap.size, 0, none⟩ = some (.int .i64 n) ∧ W.cell? ⟨u5.heap.size, 1, none⟩ = some (.int .i64 d) ∧ W.cell? ⟨g, o, none⟩ = some (.int .i64 l[0].1) ∧ W.cell? ⟨g, o + 1, none⟩ = some (.int .i64 l[0].2) ∧ W.cell? ⟨g, o + m * 2, none⟩ = some (.int .i64 l[m].1) ∧ W.cell? ⟨g, o + m * 2 + 1, none⟩ = some (.int .i64 l[m].2) ∧ W.cell? ⟨g1, o1, none⟩ = some (.int .i64 l[0].1) ∧ W.cell? ⟨g1, o1 + 1, none⟩ = some (.int .i64 l[0].2) ∧ W.cell? ⟨g1, o1 + m1 * 2, none⟩ = some (.int .i64 l[m].1) ∧ W.cell? ⟨g1, o1 + m1 * 2 + 1, none⟩ = some (.int .i64 l[m].2))) => R1.out.grow h.1
    have atR2 := fun (W : World) (h : (Below u7.heap.size u7 W ∧ W.cell? ⟨u6.heap.size, 0, none⟩ = some (.int .i64 n) ∧ W.cell? ⟨u6.heap.size, 1, none⟩ = some (.int .i64 d) ∧ W.cell? ⟨u5.heap.size, 0, none⟩ = some (.int .i64 n) ∧ W.cell? ⟨u5.heap.size, 1, none⟩ = some (.int .i64 d) ∧ W.cell? ⟨g, o, none⟩ = some (.int .i64 l[0].1) ∧ W.cell? ⟨g, o + 1, none⟩ = some (.int .i64 l[0].2) ∧ W.cell? ⟨g, o + m * 2, none⟩ = some (.int .i64 l[m].1) ∧ W.cell? ⟨g, o + m * 2 + 1, none⟩ = some (.int .i64 l[m].2) ∧ W.cell? ⟨g1, o1, none⟩ = some (.int .i64 l[0].1) ∧ W.cell? ⟨g1, o1 + 1, none⟩ = some (.int .i64 l[0].2) ∧ W.cell? ⟨g1, o1 + m1 * 2, none⟩ = some (.int .i64 l[m].1) ∧ W.cell? ⟨g1, o1 + m1 * 2 + 1, none⟩ = some (.int .i64 l[m].2))) => R2.out.grow h.1
    have atR4 := fun (W : World) (h : (Below u7.heap.size u7 W ∧ W.cell? ⟨u6.heap.size, 0, none⟩ = some (.int .i64 n) ∧ W.cell? ⟨u6.heap.size, 1, none⟩ = some (.int .i64 d) ∧ W.cell? ⟨u5.heap.size, 0, none⟩ = some (.int .i64 n) ∧ W.cell? ⟨u5.heap.size, 1, none⟩ = some (.int .i64 d) ∧ W.cell? ⟨g, o, none⟩ = some (.int .i64 l[0].1) ∧ W.cell? ⟨g, o + 1, none⟩ = some (.int .i64 l[0].2) ∧ W.cell? ⟨g, o + m * 2, none⟩ = some (.int .i64 l[m].1) ∧ W.cell? ⟨g, o + m * 2 + 1, none⟩ = some (.int .i64 l[m].2) ∧ W.cell? ⟨g1, o1, none⟩ = some (.int .i64 l[0].1) ∧ W.cell? ⟨g1, o1 + 1, none⟩ = some (.int .i64 l[0].2) ∧ W.cell? ⟨g1, o1 + m1 * 2, none⟩ = some (.int .i64 l[m].1) ∧ W.cell? ⟨g1, o1 + m1 * 2 + 1, none⟩ = some (.int .i64 l[m].2))) => R4.out.grow h.1
    have tok0 : True := trivial
    go_region_held3 (fun w' => (Below u7.heap.size u7 w' ∧ w'.cell? ⟨u6.heap.size, 0, none⟩ = some (.int .i64 n) ∧ w'.cell? ⟨u6.heap.size, 1, none⟩ = some (.int .i64 d) ∧ w'.cell? ⟨u5.heap.size, 0, none⟩ = some (.int .i64 n) ∧ w'.cell? ⟨u5.heap.size, 1, none⟩ = some (.int .i64 d) ∧ w'.cell? ⟨g, o, none⟩ = some (.int .i64 l[0].1) ∧ w'.cell? ⟨g, o + 1, none⟩ = some (.int .i64 l[0].2) ∧ w'.cell? ⟨g, o + m * 2, none⟩ = some (.int .i64 l[m].1) ∧ w'.cell? ⟨g, o + m * 2 + 1, none⟩ = some (.int .i64 l[m].2) ∧ w'.cell? ⟨g1, o1, none⟩ = some (.int .i64 l[0].1) ∧ w'.cell? ⟨g1, o1 + 1, none⟩ = some (.int .i64 l[0].2) ∧ w'.cell? ⟨g1, o1 + m1 * 2, none⟩ = some (.int .i64 l[m].1) ∧ w'.cell? ⟨g1, o1 + m1 * 2 + 1, none⟩ = some (.int .i64 l[m].2))) (first | exact keep0 | exact hs0) (first | (have _t := tok0; clear tok0 _t; go_at_call 15; refine (same_yes (atR4 _ (by assumption)) (atR1 _ (by assumption)) rfl).mono ?_; rintro e x0 ⟨rfl, b0⟩; have hs0 := held _ _ b0 (by assumption)))
    have B9 := hs0.1
    replace R := Lib.hid (R.out.grow B9)
    replace R1 := Lib.hid (R1.out.grow B9)
    replace R2 := Lib.hid (R2.out.grow B9)
    replace R4 := Lib.hid (R4.out.grow B9)
    replace S := S.next B9
    clear mkS held keep0 B9 atR atR1 atR2 atR4 hs0 b0
    clear r
    have r := S.holds
    simp only [Holds, and_true] at r
    try simp only [World.size_alloc] at r
    go_wp2_with fail
    go_ret
    exact ⟨by first | rfl | (simp; done) | (simp; omega), S.below⟩

set_option maxRecDepth 100000 in
theorem lifted (os : Os) (started : os.Started) (H : Type) (enc : TypeId × Value → H) :
    ReturnsInHanded {} Try.checked os 5 .any (Rows.fnLeanSpec.pre6 enc Try.prog Try.f5 Rows.fnLeanRow.domain false) (Rows.fnLeanSpec.post enc Try.prog Try.f5 false true false false) := by
  refine returnsInHanded_of_change (C := Try.checked) own started (by kernel_rfl) Try.func5
    (ChangeSpec.witness6 (enc := enc) (C := Try.checked) false ⟨#[], #[.slice none 0 0, .slice none 0 0], []⟩ 8 (by kernel_rfl) (by kernel_rfl) (by kernel_rfl) (by kernel_rfl)) ?_
  intro W base args ds gs before hval0 hW hcnd _
  have hval : ∀ (j : Nat) t v, Try.f5.params[j]? = some t → args[j]? = some v → Value.okWide Try.prog W .any base t v := hval0
  have hW' := hW
  obtain ⟨p, q, hA0, hV, rfl, hfz, hnd⟩ := hW
  have hA : DataW.TrodAll enc Try.prog W 0 (fun _ => true) true Try.f5.params.toList args.toList ds p := hA0
  rw [Try.params5] at hA hval
  obtain ⟨v0, vs0, d0, ds0, p0, q0, hargs, rfl, rfl, h0, r0⟩ := trodAll_cons hA
  obtain ⟨v1, vs1, d1, ds1, p1, q1, rfl, rfl, rfl, h1, r1⟩ := trodAll_cons r0
  obtain ⟨rfl, rfl, rfl⟩ := trodAll_nil r1
  obtain rfl : args = #[v0, v1] := by cases args; simp_all
  obtain ⟨rfl, rfl⟩ := trodVars_none hV
  obtain ⟨a0, len0, cap0, rfl⟩ := okWide_slice Try.underlying22 (hval 0 22 v0 rfl rfl)
  have k0 := h0
  have lt0 : ∀ x ∈ p0, x.block < W.heap.size := by obtain ⟨m, hm⟩ := k0; exact DataW.trod_lt m _ _ _ hm
  obtain ⟨z0, w0⟩ : ∃ zs, IsRow .u8 W a0 len0 cap0 zs := by
    obtain ⟨fuel, hf⟩ := h0
    rcases open_ints Try.underlying22 Try.underlying5 (by kernel_rfl) hf with ⟨hcs, _⟩ | ⟨x, l, c, zs, hcs, _, hl, hm, hz, _, hcell, hwz⟩
    · simp [Value.cells] at hcs
      obtain ⟨rfl, rfl, rfl⟩ := hcs
      exact ⟨[], .inl ⟨rfl, rfl, rfl, rfl⟩⟩
    · simp [Value.cells] at hcs
      obtain ⟨rfl, rfl, rfl⟩ := hcs
      exact ⟨zs, .inr ⟨_, rfl, hl, hm, by simpa using hz, hcell, hwz⟩⟩
  obtain ⟨a1, len1, cap1, rfl⟩ := okWide_slice Try.underlying22 (hval 1 22 v1 rfl rfl)
  have k1 := h1
  have lt1 : ∀ x ∈ p1, x.block < W.heap.size := by obtain ⟨m, hm⟩ := k1; exact DataW.trod_lt m _ _ _ hm
  obtain ⟨z1, w1⟩ : ∃ zs, IsRow .u8 W a1 len1 cap1 zs := by
    obtain ⟨fuel, hf⟩ := h1
    rcases open_ints Try.underlying22 Try.underlying5 (by kernel_rfl) hf with ⟨hcs, _⟩ | ⟨x, l, c, zs, hcs, _, hl, hm, hz, _, hcell, hwz⟩
    · simp [Value.cells] at hcs
      obtain ⟨rfl, rfl, rfl⟩ := hcs
      exact ⟨[], .inl ⟨rfl, rfl, rfl, rfl⟩⟩
    · simp [Value.cells] at hcs
      obtain ⟨rfl, rfl, rfl⟩ := hcs
      exact ⟨zs, .inr ⟨_, rfl, hl, hm, by simpa using hz, hcell, hwz⟩⟩
  clear hA0 hval0
  refine (walk a0 len0 cap0 z0 a1 len1 cap1 z1 W w0 w1).mono fun e W' ⟨he, bel⟩ => ?_
  subst he
  exact ⟨_, rfl, _, _, _, [], _, [], hW', trodAll_mk1 (shut_bool Try.underlying4 _), (trodAll_cons_mk (Below.trod laidOut (by kernel_rfl) (of_decide_eq_true (by kernel_rfl)) k0 bel lt0) (trodAll_cons_mk (Below.trod laidOut (by kernel_rfl) (of_decide_eq_true (by kernel_rfl)) k1 bel lt1) trodAll_mk0)), rfl, bel.frame _, fun h => by cases h⟩

theorem over : Rows.fnLeanRow.holds Try.pinned (OpenSpec.ofChange Rows.fnLeanSpec) :=
  OpenClaim.holds_of_wide 5 Try.f5 rfl rfl rfl rfl rfl rfl rfl ⟨rfl, rfl, rfl, rfl, rfl⟩ rfl rfl rfl rfl rfl (by kernel_rfl) Try.func5 (by kernel_rfl)
    (of_decide_eq_true (by kernel_rfl)) (by unfold Func.isWrapper; first | (rw [if_pos (by decide +kernel)]; kernel_rfl) | (rw [if_neg (by decide +kernel)]; exact ⟨rfl, rfl⟩))
    (fun os started H enc _ => lifted os started H enc)

/-- ████ THE STATEMENT ████ -/
theorem proved : Rows.FnLeanSaid := over
#print axioms proved
end Go.Proofs.Ythpfehjjaamkkab.fnLean
