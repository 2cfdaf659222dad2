/- For every input, the law FnCurveAdd of the given statements returns true over the program at this commit, and its arguments read afterwards as before: no condition. -/
import Derived.Test.YthpfehjjaamkkabRows
import Derived.Test.YthpfehjjaamkkabLawK
import Derived.Test.YthpfehjjaamkkabCurveAdd
import Derived.Test.YthpfehjjaamkkabSpecAdd
import Derived.WalkKit
import Derived.ProofKit
import Derived.OpenShut
import Derived.ShutString
import Derived.ChangeOld
import Derived.Below
namespace Go.Proofs.Ythpfehjjaamkkab.fnCurveAdd
open Go.ChangeShapes Go.WideShapes Go.ChangeAt Go.RowKit
open Go.ChangeMaps (open_string shut_string)
set_option linter.unusedVariables false

theorem own : ownKnob Try.prog.godebug = none := by kernel_rfl
theorem laidOut : laidOutB Try.prog = true := by kernel_rfl

/-- WHAT THE WALK IS TOLD OF A SLICE OF INTEGERS THAT CAME IN: it is nil; or it leads to a row of 'cap' cells, the numbers 'zs' (the first 'len' are its elements, the rest its spare room), each fitting its kind. -/
def IsRow (k : IntKind) (w : World) (a : Option Addr) (len cap : Nat) (zs : List Int) : Prop :=
  (a = none ∧ len = 0 ∧ cap = 0 ∧ zs = []) ∨
  ∃ x, a = some x ∧ len ≤ cap ∧ cap ≤ maxLen ∧ zs.length = cap ∧ (∀ i, i < zs.length → w.cell? (x.add i) = some (.int k (zs.getD i 0))) ∧ ∀ n ∈ zs, (Lit.int k n).wf = true

set_option maxRecDepth 100000 in
set_option maxHeartbeats 3200000 in
theorem walk (a0 : Option Addr) (len0 cap0 : Nat) (z0 : List Int) (a1 : Option Addr) (len1 cap1 : Nat) (z1 : List Int) (w : World) (w0 : IsRow .u8 w a0 len0 cap0 z0) (w1 : IsRow .u8 w a1 len1 cap1 z1) :
    Calls Try.prog 3 #[.slice a0 len0 cap0, .slice a1 len1 cap1] w fun e w' => e = .returned (.bool true) ∧ Below w.heap.size w w' := by
  have hB := bytes_of w0
  have hB1 := bytes_len (bytes_of w1)
  unfold maxLen at hB1
  by_cases hl : 1048576 < len0
  · have hdec : decide (1048576 < len0) = true := by simpa using hl
    go_enter Try.func3, Try.ntmps3
    go_wp2_with fail
    go_ret
    exact ⟨rfl, Below.refl _ _⟩
  have hdec : decide (1048576 < len0) = false := by simpa using hl
  by_cases hl1 : 1048576 < len1
  · go_enter Try.func3, Try.ntmps3
    go_wp2_with fail
    go_ret
    exact ⟨rfl, Below.refl _ _⟩
  have hm : len0 ≤ 1048576 := by omega
  have hm1 : len1 ≤ 1048576 := by omega
  clear hB1
  go_enter Try.func3, Try.ntmps3
  go_wp2_with fail
  refine (DrawCurveAdd_any hB).mono ?_
  rintro e u1 ⟨v, l, kx, ky, rfl, hr, hbd, hl, hkx, hky, b1⟩
  clear w0 w1 hB
  have S := St.start b1
  clear b1
  have R := Lib.hid hr
  clear hr
  have BD := Lib.hid hbd
  clear hbd
  replace R := Lib.hid (R.out.alloc kx ky 25)
  replace S := S.alloc' kx ky 25
  have r := S.holds
  simp only [Holds, and_true] at r
  try simp only [World.size_alloc] at r
  cases hc : addOf (kx, ky) l with
  | none =>
    have HC := Lib.hid hc
    clear hc
    go_wp2_with fail
    refine (lstb_no (implCurveAdd_any (kx, ky) R.out) HC.out).mono ?_
    rintro e u2 ⟨v1, rfl, r1, b2⟩
    replace R := Lib.hid ((R.out.grow b2))
    replace S := (S.next b2)
    have R1 := Lib.hid r1
    clear r1
    clear b2
    clear r
    have r := S.holds
    simp only [Holds, and_true] at r
    try simp only [World.size_alloc] at r
    go_wp2_with fail
    refine (lstb_no (specCurveAdd_any (kx, ky) R.out) HC.out).mono ?_
    rintro e u3 ⟨v2, rfl, r2, b3⟩
    replace R := Lib.hid ((R.out.grow b3))
    replace R1 := Lib.hid ((R1.out.grow b3))
    replace S := (S.next b3)
    have R2 := Lib.hid r2
    clear r2
    clear b3
    clear r
    have r := S.holds
    simp only [Holds, and_true] at r
    try simp only [World.size_alloc] at r
    go_wp2_with fail
    refine (same_yes R1.out R2.out rfl).mono ?_
    rintro e u4 ⟨rfl, b4⟩
    replace R := Lib.hid ((R.out.grow b4))
    replace R1 := Lib.hid ((R1.out.grow b4))
    replace R2 := Lib.hid ((R2.out.grow b4))
    replace S := (S.next b4)
    clear b4
    clear r
    have r := S.holds
    simp only [Holds, and_true] at r
    try simp only [World.size_alloc] at r
    go_wp2_with fail
    refine (same_yes R1.out R2.out rfl).mono ?_
    rintro e u5 ⟨rfl, b5⟩
    replace R := Lib.hid ((R.out.grow b5))
    replace R1 := Lib.hid ((R1.out.grow b5))
    replace R2 := Lib.hid ((R2.out.grow b5))
    replace S := (S.next b5)
    clear b5
    clear r
    have r := S.holds
    simp only [Holds, and_true] at r
    try simp only [World.size_alloc] at r
    go_wp2_with fail
    go_ret
    exact ⟨rfl, S.below⟩
  | some lm =>
    have HC := Lib.hid hc
    clear hc
    go_wp2_with fail
    refine (lstb_yes (implCurveAdd_any (kx, ky) R.out) HC.out).mono ?_
    rintro e u2 ⟨v1, rfl, r1, b2⟩
    replace R := Lib.hid ((R.out.grow b2))
    replace S := (S.next b2)
    have R1 := Lib.hid r1
    clear r1
    clear b2
    clear r
    have r := S.holds
    simp only [Holds, and_true] at r
    try simp only [World.size_alloc] at r
    go_wp2_with fail
    refine (lstb_yes (specCurveAdd_any (kx, ky) R.out) HC.out).mono ?_
    rintro e u3 ⟨v2, rfl, r2, b3⟩
    replace R := Lib.hid ((R.out.grow b3))
    replace R1 := Lib.hid ((R1.out.grow b3))
    replace S := (S.next b3)
    have R2 := Lib.hid r2
    clear r2
    clear b3
    clear r
    have r := S.holds
    simp only [Holds, and_true] at r
    try simp only [World.size_alloc] at r
    go_wp2_with fail
    refine (same_yes R1.out R2.out rfl).mono ?_
    rintro e u4 ⟨rfl, b4⟩
    replace R := Lib.hid ((R.out.grow b4))
    replace R1 := Lib.hid ((R1.out.grow b4))
    replace R2 := Lib.hid ((R2.out.grow b4))
    replace S := (S.next b4)
    clear b4
    clear r
    have r := S.holds
    simp only [Holds, and_true] at r
    try simp only [World.size_alloc] at r
    obtain ⟨CL, cm, hlm⟩ := addOf_some HC.out
    have LEN := Lib.hid (addOf_len HC.out)
    replace HC := Lib.hid CL
    have CM := Lib.hid cm
    have KD := curve_mem cm (by rw [hlm]; exact ins_mem (kx, ky) l)
    simp only at KD
    have IK : Hid (onC lm ((kx : Int) : Rat) = true ∧ cAt lm ((kx : Int) : Rat) = ((ky : Int) : Rat)) := Lib.hid (by rw [hlm] at cm ⊢; exact ins_knot cm)
    have LON : Hid (∀ z, onC l z = true → onC lm z = true) := Lib.hid (fun z hz => by rw [hlm] at cm ⊢; exact ins_on cm hz)
    have SAME : Hid (onC l ((kx : Int) : Rat) = true → cAt l ((kx : Int) : Rat) = ((ky : Int) : Rat) → ∀ z, cAt lm z = cAt l z) := Lib.hid (fun h1 h2 z => by rw [hlm] at cm ⊢; exact ins_same cm h1 h2 z)
    clear CL cm hlm
    obtain ⟨ad1, cp1, rfl, hcap1, hcapm1⟩ := R1.out.len
    obtain ⟨g, o, cp, rfl, hcap, hcapm⟩ := R.out.known hl
    unfold maxLen at hcapm
    obtain ⟨m, hm⟩ : ∃ m, l.length = m + 1 := ⟨l.length - 1, by omega⟩
    rw [hm] at hcap
    rw [hm] at R
    rw [hm]
    have HM := Lib.hid hm
    have em : l.length - 1 = m := by omega
    have hml : m < l.length := by omega
    have h0l : 0 < l.length := by omega
    have q0 : (0 : Int) < (m : Int) + 1 := by omega
    have q1 : 0 < m + 1 := by omega
    have q2 : IntKind.i64.wrap ((m : Int) + 1 - 1) = (m : Int) := by rw [show (m : Int) + 1 - 1 = m by omega]; exact IntWalk.i64_in _ (by omega)
    have q2' : IntKind.i64.wrap (m : Int) = (m : Int) := IntWalk.i64_in _ (by omega)
    have q3 : (0 : Int) ≤ (m : Int) := by omega
    have q4 : (m : Int) < (m : Int) + 1 := by omega
    have q5 : m < m + 1 := by omega
    have up := (step_le HC.out (show 0 ≤ m by omega) hml).1
    have d0 := isCurve_dp HC.out 0 h0l; have d1 := isCurve_dp HC.out m hml
    have z0 : IntKind.i64.wrap (l[m].1 - l[0].1) = l[m].1 - l[0].1 := IntWalk.i64_in _ (by omega)
    have z1 : IntKind.i64.wrap (l[m].1 - l[0].1 + 1) = l[m].1 - l[0].1 + 1 := IntWalk.i64_in _ (by omega)
    have z2 : ¬ (l[m].1 - l[0].1 + 1 = 0) := by omega
    obtain ⟨y, hy⟩ : ∃ y : Int, (len1 : Int).tmod (l[m].1 - l[0].1 + 1) = y := ⟨_, rfl⟩
    have hy0 : 0 ≤ y := by rw [← hy]; exact Int.tmod_nonneg _ (by omega)
    have hy1 : y < l[m].1 - l[0].1 + 1 := by rw [← hy]; exact Int.tmod_lt_of_pos _ (by omega)
    have hye : (len1 : Int) % (l[m].1 - l[0].1 + 1) = y := by rw [← hy, Int.tmod_eq_emod_of_nonneg (by omega)]
    have z3 : IntKind.i64.wrap y = y := IntWalk.i64_in _ (by omega)
    have z4 : IntKind.i64.wrap (l[0].1 + y) = l[0].1 + y := IntWalk.i64_in _ (by omega)
    have OX := Lib.hid ((onC_is (x := l[0].1 + y) HC.out h0l).2 (by simp only [em]; omega))
    have hll := isCurve_len HC.out
    have w1 : IntKind.i64.wrap ((m : Int) + 1 + 1) = (m : Int) + 1 + 1 := IntWalk.i64_in _ (by omega)
    have hlen : ((lm.length : Int) == (m : Int) + 1 + 1) = true := by rw [beq_iff_eq]; have := LEN.out; omega
    have LX := Lib.hid (LON.out _ OX.out)
    have FK := Lib.hid (dp_fv KD.2.2.1 KD.2.2.2)
    go_wp2_with fail
    refine (got_whole (at_yes (x := kx) R1.out IK.out.1) IK.out.2 KD.2.2.1 KD.2.2.2).mono ?_
    rintro e u5 ⟨rfl, b5⟩
    replace R := Lib.hid ((R.out.grow b5).alloc ky 1 32)
    replace R1 := Lib.hid ((R1.out.grow b5).alloc ky 1 32)
    replace R2 := Lib.hid ((R2.out.grow b5).alloc ky 1 32)
    replace S := (S.next b5).alloc ky 1
    clear b5
    clear r
    have r := S.holds
    simp only [Holds, and_true] at r
    try simp only [World.size_alloc] at r
    cases ho : onC l ((kx : Int) : Rat)
    · have HO := Lib.hid ho
      clear ho
      go_wp2_with fail
      refine (at_no (x := kx) R.out HO.out).mono ?_
      rintro e u6 ⟨rfl, b6⟩
      replace R := Lib.hid ((R.out.grow b6).alloc 0 0 32)
      replace R1 := Lib.hid ((R1.out.grow b6).alloc 0 0 32)
      replace R2 := Lib.hid ((R2.out.grow b6).alloc 0 0 32)
      replace S := (S.next b6).alloc 0 0
      clear b6
      clear r
      have r := S.holds
      simp only [Holds, and_true] at r
      try simp only [World.size_alloc] at r
      obtain ⟨f0, f1⟩ := R.out.cells 0 h0l
      simp only [Nat.zero_mul, Nat.add_zero] at f0 f1
      obtain ⟨t0, t1⟩ := R.out.cells m hml
      go_upto_region 10 with fail
      go_quiet (fail)
      have BQ := below_drews (Below.refl (u6.alloc (.cells #[.int .i64 0, .int .i64 0] 32)).heap.size (u6.alloc (.cells #[.int .i64 0, .int .i64 0] 32))) nq
      replace R := Lib.hid (R.out.grow BQ)
      replace R1 := Lib.hid (R1.out.grow BQ)
      replace R2 := Lib.hid (R2.out.grow BQ)
      replace S := S.next BQ
      clear BQ
      clear r
      have r := S.holds
      simp only [Holds, and_true] at r
      try simp only [World.size_alloc] at r
      clear f0 f1 t0 t1
      go_wp2_with fail
      refine (at_yes (x := l[0].1 + y) R.out OX.out).mono ?_
      rintro e u7 ⟨n3, d3, rfl, hf3, hq3, b7⟩
      replace R := Lib.hid ((R.out.grow b7).alloc n3 d3 32)
      replace R1 := Lib.hid ((R1.out.grow b7).alloc n3 d3 32)
      replace R2 := Lib.hid ((R2.out.grow b7).alloc n3 d3 32)
      replace S := (S.next b7).alloc n3 d3
      clear b7
      clear r
      have r := S.holds
      simp only [Holds, and_true] at r
      try simp only [World.size_alloc] at r
      have HF3 := Lib.hid hf3; have HQ3 := Lib.hid hq3
      clear hf3 hq3
      go_wp2_with fail
      refine (at_yes (x := l[0].1 + y) R1.out LX.out).mono ?_
      rintro e u8 ⟨n4, d4, rfl, hf4, hq4, b8⟩
      replace R := Lib.hid ((R.out.grow b8).alloc n4 d4 32)
      replace R1 := Lib.hid ((R1.out.grow b8).alloc n4 d4 32)
      replace R2 := Lib.hid ((R2.out.grow b8).alloc n4 d4 32)
      replace S := (S.next b8).alloc n4 d4
      clear b8
      clear r
      have r := S.holds
      simp only [Holds, and_true] at r
      try simp only [World.size_alloc] at r
      clear hf4 hq4
      go_upto_region 13 with fail
      go_quiet (fail)
      have BQ := below_drews (Below.refl (u8.alloc (.cells #[.int .i64 n4, .int .i64 d4] 32)).heap.size (u8.alloc (.cells #[.int .i64 n4, .int .i64 d4] 32))) nq
      replace R := Lib.hid (R.out.grow BQ)
      replace R1 := Lib.hid (R1.out.grow BQ)
      replace R2 := Lib.hid (R2.out.grow BQ)
      replace S := S.next BQ
      clear BQ
      clear r
      have r := S.holds
      simp only [Holds, and_true] at r
      try simp only [World.size_alloc] at r
      have Yc0 := r.2.2.2.1.1
      have Yc1 := r.2.2.2.1.2.1
      have Kd0 := r.2.2.2.2.1
      have Kd1 := r.2.2.2.2.2.1
      have Ac0 := r.2.1.1
      have Ac1 := r.2.1.2.1
      have Bc0 := r.1.1
      have Bc1 := r.1.2.1
      go_upto_region 14 with fail
      generalize ((u8.alloc (.cells #[.int .i64 n4, .int .i64 d4] 32)).drewN nq) = W8 at S R R1 R2 Yc0 Yc1 Kd0 Kd1 Ac0 Ac1 Bc0 Bc1 r ⊢
      have mkS : ∀ w' : World, Below W8.heap.size W8 w' → (Below W8.heap.size W8 w' ∧ w'.cell? ⟨u5.heap.size, 0, none⟩ = some (.int .i64 ky) ∧ w'.cell? ⟨u5.heap.size, 1, none⟩ = some (.int .i64 1) ∧ w'.cell? ⟨u1.heap.size, 0, none⟩ = some (.int .i64 kx) ∧ w'.cell? ⟨u1.heap.size, 1, none⟩ = some (.int .i64 ky) ∧ w'.cell? ⟨u7.heap.size, 0, none⟩ = some (.int .i64 n3) ∧ w'.cell? ⟨u7.heap.size, 1, none⟩ = some (.int .i64 d3) ∧ w'.cell? ⟨u8.heap.size, 0, none⟩ = some (.int .i64 n4) ∧ w'.cell? ⟨u8.heap.size, 1, none⟩ = some (.int .i64 d4)) := fun w' b => ⟨b, (b.cell (cell_below Yc0)).trans Yc0, (b.cell (cell_below Yc1)).trans Yc1, (b.cell (cell_below Kd0)).trans Kd0, (b.cell (cell_below Kd1)).trans Kd1, (b.cell (cell_below Ac0)).trans Ac0, (b.cell (cell_below Ac1)).trans Ac1, (b.cell (cell_below Bc0)).trans Bc0, (b.cell (cell_below Bc1)).trans Bc1⟩
      have held : ∀ W w' : World, Below W.heap.size W w' → (Below W8.heap.size W8 W ∧ W.cell? ⟨u5.heap.size, 0, none⟩ = some (.int .i64 ky) ∧ W.cell? ⟨u5.heap.size, 1, none⟩ = some (.int .i64 1) ∧ W.cell? ⟨u1.heap.size, 0, none⟩ = some (.int .i64 kx) ∧ W.cell? ⟨u1.heap.size, 1, none⟩ = some (.int .i64 ky) ∧ W.cell? ⟨u7.heap.size, 0, none⟩ = some (.int .i64 n3) ∧ W.cell? ⟨u7.heap.size, 1, none⟩ = some (.int .i64 d3) ∧ W.cell? ⟨u8.heap.size, 0, none⟩ = some (.int .i64 n4) ∧ W.cell? ⟨u8.heap.size, 1, none⟩ = some (.int .i64 d4)) → (Below W8.heap.size W8 w' ∧ w'.cell? ⟨u5.heap.size, 0, none⟩ = some (.int .i64 ky) ∧ w'.cell? ⟨u5.heap.size, 1, none⟩ = some (.int .i64 1) ∧ w'.cell? ⟨u1.heap.size, 0, none⟩ = some (.int .i64 kx) ∧ w'.cell? ⟨u1.heap.size, 1, none⟩ = some (.int .i64 ky) ∧ w'.cell? ⟨u7.heap.size, 0, none⟩ = some (.int .i64 n3) ∧ w'.cell? ⟨u7.heap.size, 1, none⟩ = some (.int .i64 d3) ∧ w'.cell? ⟨u8.heap.size, 0, none⟩ = some (.int .i64 n4) ∧ w'.cell? ⟨u8.heap.size, 1, none⟩ = some (.int .i64 d4)) := fun W w' b h => mkS w' (h.1.trans (b.mono h.1.size))
      have keep0 := mkS _ (Below.refl W8.heap.size W8).drew
      have atR := fun (W : World) (h : (Below W8.heap.size W8 W ∧ W.cell? ⟨u5.heap.size, 0, none⟩ = some (.int .i64 ky) ∧ W.cell? ⟨u5.heap.size, 1, none⟩ = some (.int .i64 1) ∧ W.cell? ⟨u1.heap.size, 0, none⟩ = some (.int .i64 kx) ∧ W.cell? ⟨u1.heap.size, 1, none⟩ = some (.int .i64 ky) ∧ W.cell? ⟨u7.heap.size, 0, none⟩ = some (.int .i64 n3) ∧ W.cell? ⟨u7.heap.size, 1, none⟩ = some (.int .i64 d3) ∧ W.cell? ⟨u8.heap.size, 0, none⟩ = some (.int .i64 n4) ∧ W.cell? ⟨u8.heap.size, 1, none⟩ = some (.int .i64 d4))) => R.out.grow h.1
      have atR1 := fun (W : World) (h : (Below W8.heap.size W8 W ∧ W.cell? ⟨u5.heap.size, 0, none⟩ = some (.int .i64 ky) ∧ W.cell? ⟨u5.heap.size, 1, none⟩ = some (.int .i64 1) ∧ W.cell? ⟨u1.heap.size, 0, none⟩ = some (.int .i64 kx) ∧ W.cell? ⟨u1.heap.size, 1, none⟩ = some (.int .i64 ky) ∧ W.cell? ⟨u7.heap.size, 0, none⟩ = some (.int .i64 n3) ∧ W.cell? ⟨u7.heap.size, 1, none⟩ = some (.int .i64 d3) ∧ W.cell? ⟨u8.heap.size, 0, none⟩ = some (.int .i64 n4) ∧ W.cell? ⟨u8.heap.size, 1, none⟩ = some (.int .i64 d4))) => R1.out.grow h.1
      have atR2 := fun (W : World) (h : (Below W8.heap.size W8 W ∧ W.cell? ⟨u5.heap.size, 0, none⟩ = some (.int .i64 ky) ∧ W.cell? ⟨u5.heap.size, 1, none⟩ = some (.int .i64 1) ∧ W.cell? ⟨u1.heap.size, 0, none⟩ = some (.int .i64 kx) ∧ W.cell? ⟨u1.heap.size, 1, none⟩ = some (.int .i64 ky) ∧ W.cell? ⟨u7.heap.size, 0, none⟩ = some (.int .i64 n3) ∧ W.cell? ⟨u7.heap.size, 1, none⟩ = some (.int .i64 d3) ∧ W.cell? ⟨u8.heap.size, 0, none⟩ = some (.int .i64 n4) ∧ W.cell? ⟨u8.heap.size, 1, none⟩ = some (.int .i64 d4))) => R2.out.grow h.1
      refine wp_region_held_drew (S := (fun w' => (Below W8.heap.size W8 w' ∧ w'.cell? ⟨u5.heap.size, 0, none⟩ = some (.int .i64 ky) ∧ w'.cell? ⟨u5.heap.size, 1, none⟩ = some (.int .i64 1) ∧ w'.cell? ⟨u1.heap.size, 0, none⟩ = some (.int .i64 kx) ∧ w'.cell? ⟨u1.heap.size, 1, none⟩ = some (.int .i64 ky) ∧ w'.cell? ⟨u7.heap.size, 0, none⟩ = some (.int .i64 n3) ∧ w'.cell? ⟨u7.heap.size, 1, none⟩ = some (.int .i64 d3) ∧ w'.cell? ⟨u8.heap.size, 0, none⟩ = some (.int .i64 n4) ∧ w'.cell? ⟨u8.heap.size, 1, none⟩ = some (.int .i64 d4)))) (by kernel_rfl) (by exact keep0) (fun hHeld => ?_)
      refine take_h 0 122 rfl rfl (by kernel_rfl) (by kernel_rfl) (by kernel_rfl) (fun _ _ _ h => h) (by kernel_rfl) (by intro w hSw; (try dsimp only at hSw); go_simp; try with_reducible rfl) (by assumption) ?_
      refine take_h 1 123 rfl rfl (by kernel_rfl) (by kernel_rfl) (by kernel_rfl) (fun _ _ _ h => h) (by kernel_rfl) (by intro w hSw; (try dsimp only at hSw); go_simp; try with_reducible rfl) (by assumption) ?_
      refine take_h 2 124 rfl rfl (by kernel_rfl) (by kernel_rfl) (by kernel_rfl) (fun _ _ _ h => h) (by kernel_rfl) (by intro w hSw; (try dsimp only at hSw); go_simp; try with_reducible rfl) (by assumption) ?_
      refine take_h 3 125 rfl rfl (by kernel_rfl) (by kernel_rfl) (by kernel_rfl) (fun _ _ _ h => h) (by kernel_rfl) (by intro w hSw; (try dsimp only at hSw); go_simp; try with_reducible rfl) (by assumption) ?_
      refine take_h 4 126 rfl rfl (by kernel_rfl) (by kernel_rfl) (by kernel_rfl) (fun _ _ _ h => h) (by kernel_rfl) (by intro w hSw; (try dsimp only at hSw); go_simp; try with_reducible rfl) (by assumption) ?_
      refine take_h 5 127 rfl rfl (by kernel_rfl) (by kernel_rfl) (by kernel_rfl) (fun _ _ _ h => h) (by kernel_rfl) (by intro w hSw; (try dsimp only at hSw); go_simp; try with_reducible rfl) (by assumption) ?_
      refine take_h 6 128 rfl rfl (by kernel_rfl) (by kernel_rfl) (by kernel_rfl) (fun _ _ _ h => h) (by kernel_rfl) (by intro w hSw; (try dsimp only at hSw); go_simp; try with_reducible rfl) (by assumption) ?_
      refine take_h 7 129 rfl rfl (by kernel_rfl) (by kernel_rfl) (by kernel_rfl) (fun _ _ _ h => h) (by kernel_rfl) (by intro w hSw; (try dsimp only at hSw); go_simp; try with_reducible rfl) (by assumption) ?_
      refine take_h 8 130 rfl rfl (by kernel_rfl) (by kernel_rfl) (by kernel_rfl) (fun _ _ _ h => h) (by kernel_rfl) (by intro w hSw; (try dsimp only at hSw); go_simp; try with_reducible rfl) (by assumption) ?_
      refine take_h 9 131 rfl rfl (by kernel_rfl) (by kernel_rfl) (by kernel_rfl) (fun _ _ _ h => h) (by kernel_rfl) (by intro w hSw; (try dsimp only at hSw); go_simp; try with_reducible rfl) (by assumption) ?_
      refine take_h 10 132 rfl rfl (by kernel_rfl) (by kernel_rfl) (by kernel_rfl) (fun _ _ _ h => h) (by kernel_rfl) (by intro w hSw; (try dsimp only at hSw); go_simp; try with_reducible rfl) (by assumption) ?_
      refine wpAnyH_ready (rs := [11]) (by kernel_rfl) (by simp) (AllReadyH.cons rfl (fun K hK => ?_) AllReadyH.nil)
      go_simp
      go_wp2_with ((go_at_call 17; refine (frac_any _ _).mono ?_; rintro e u9 ⟨rfl, b0⟩; have hs0 := held _ _ b0 (by assumption)))
      refine hK.out _ _ (by (try dsimp only); exact hs0) (fun hHeld => ?_)
      clear hK K
      refine take_h 12 134 rfl rfl (by kernel_rfl) (by kernel_rfl) (by kernel_rfl) (fun _ _ _ h => h) (by kernel_rfl) (by intro w hSw; (try dsimp only at hSw); go_simp; try with_reducible rfl) (by assumption) ?_
      refine take_h 13 135 rfl rfl (by kernel_rfl) (by kernel_rfl) (by kernel_rfl) (fun _ _ _ h => h) (by kernel_rfl) (by intro w hSw; (try dsimp only at hSw); go_simp; try with_reducible rfl) (by assumption) ?_
      refine take_h 14 136 rfl rfl (by kernel_rfl) (by kernel_rfl) (by kernel_rfl) (fun _ _ _ h => h) (by kernel_rfl) (by intro w hSw; (try dsimp only at hSw); go_simp; try with_reducible rfl) (by assumption) ?_
      refine take_h 15 137 rfl rfl (by kernel_rfl) (by kernel_rfl) (by kernel_rfl) (fun _ _ _ h => h) (by kernel_rfl) (by intro w hSw; (try dsimp only at hSw); go_simp; try with_reducible rfl) (by assumption) ?_
      refine take_h 16 138 rfl rfl (by kernel_rfl) (by kernel_rfl) (by kernel_rfl) (fun _ _ _ h => h) (by kernel_rfl) (by intro w hSw; (try dsimp only at hSw); go_simp; try with_reducible rfl) (by assumption) ?_
      refine take_h 17 139 rfl rfl (by kernel_rfl) (by kernel_rfl) (by kernel_rfl) (fun _ _ _ h => h) (by kernel_rfl) (by intro w hSw; (try dsimp only at hSw); go_simp; try with_reducible rfl) (by assumption) ?_
      refine skip_h 18 140 rfl rfl (by kernel_rfl) (by kernel_rfl) (by kernel_rfl) (fun _ _ _ h => h) (by kernel_rfl) (by assumption) ?_
      refine skip_h 19 141 rfl rfl (by kernel_rfl) (by kernel_rfl) (by kernel_rfl) (fun _ _ _ h => h) (by kernel_rfl) (by assumption) ?_
      refine skip_h 20 142 rfl rfl (by kernel_rfl) (by kernel_rfl) (by kernel_rfl) (fun _ _ _ h => h) (by kernel_rfl) (by assumption) ?_
      refine take_h 21 143 rfl rfl (by kernel_rfl) (by kernel_rfl) (by kernel_rfl) (fun _ _ _ h => h) (by kernel_rfl) (by intro w hSw; (try dsimp only at hSw); go_simp; try with_reducible rfl) (by assumption) ?_
      refine take_h 22 144 rfl rfl (by kernel_rfl) (by kernel_rfl) (by kernel_rfl) (fun _ _ _ h => h) (by kernel_rfl) (by intro w hSw; (try dsimp only at hSw); go_simp; try with_reducible rfl) (by assumption) ?_
      refine take_h 23 145 rfl rfl (by kernel_rfl) (by kernel_rfl) (by kernel_rfl) (fun _ _ _ h => h) (by kernel_rfl) (by intro w hSw; (try dsimp only at hSw); go_simp; try with_reducible rfl) (by assumption) ?_
      refine take_h 24 146 rfl rfl (by kernel_rfl) (by kernel_rfl) (by kernel_rfl) (fun _ _ _ h => h) (by kernel_rfl) (by intro w hSw; (try dsimp only at hSw); go_simp; try with_reducible rfl) (by assumption) ?_
      refine take_h 25 147 rfl rfl (by kernel_rfl) (by kernel_rfl) (by kernel_rfl) (fun _ _ _ h => h) (by kernel_rfl) (by intro w hSw; (try dsimp only at hSw); go_simp; try with_reducible rfl) (by assumption) ?_
      refine take_h 26 148 rfl rfl (by kernel_rfl) (by kernel_rfl) (by kernel_rfl) (fun _ _ _ h => h) (by kernel_rfl) (by intro w hSw; (try dsimp only at hSw); go_simp; try with_reducible rfl) (by assumption) ?_
      refine take_h 27 149 rfl rfl (by kernel_rfl) (by kernel_rfl) (by kernel_rfl) (fun _ _ _ h => h) (by kernel_rfl) (by intro w hSw; (try dsimp only at hSw); go_simp; try with_reducible rfl) (by assumption) ?_
      refine take_h 28 150 rfl rfl (by kernel_rfl) (by kernel_rfl) (by kernel_rfl) (fun _ _ _ h => h) (by kernel_rfl) (by intro w hSw; (try dsimp only at hSw); go_simp; try with_reducible rfl) (by assumption) ?_
      refine take_h 29 151 rfl rfl (by kernel_rfl) (by kernel_rfl) (by kernel_rfl) (fun _ _ _ h => h) (by kernel_rfl) (by intro w hSw; (try dsimp only at hSw); go_simp; try with_reducible rfl) (by assumption) ?_
      refine take_h 30 152 rfl rfl (by kernel_rfl) (by kernel_rfl) (by kernel_rfl) (fun _ _ _ h => h) (by kernel_rfl) (by intro w hSw; (try dsimp only at hSw); go_simp; try with_reducible rfl) (by assumption) ?_
      refine take_h 31 4 rfl rfl (by kernel_rfl) (by kernel_rfl) (by kernel_rfl) (fun _ _ _ h => h) (by kernel_rfl) (by intro w hSw; (try dsimp only at hSw); go_simp; try with_reducible rfl) (by assumption) ?_
      refine wpAnyH_done (by kernel_rfl) ?_ _
      simp only [Exit.then]
      simp only [Act.put, List.setIfInBounds_toArray, List.set_cons_succ, List.set_cons_zero]
      have B9 := hs0.1
      replace R := Lib.hid (R.out.grow B9)
      replace R1 := Lib.hid (R1.out.grow B9)
      replace R2 := Lib.hid (R2.out.grow B9)
      replace S := S.next B9
      clear mkS held keep0 B9 atR atR1 atR2 hs0 b0
      clear r
      have r := S.holds
      simp only [Holds, and_true] at r
      try simp only [World.size_alloc] at r
      go_wp2_with fail
      go_ret
      exact ⟨by first | rfl | (simp; done) | (simp; omega), S.below⟩
    · have HO := Lib.hid ho
      clear ho
      go_wp2_with fail
      refine (at_yes (x := kx) R.out HO.out).mono ?_
      rintro e u6 ⟨n2, d2, rfl, hf2, hq2, b6⟩
      replace R := Lib.hid ((R.out.grow b6).alloc n2 d2 32)
      replace R1 := Lib.hid ((R1.out.grow b6).alloc n2 d2 32)
      replace R2 := Lib.hid ((R2.out.grow b6).alloc n2 d2 32)
      replace S := (S.next b6).alloc n2 d2
      clear b6
      clear r
      have r := S.holds
      simp only [Holds, and_true] at r
      try simp only [World.size_alloc] at r
      by_cases hs : n2 = ky ∧ d2 = 1
      · obtain ⟨rfl, rfl⟩ := hs
        have EQ := Lib.hid (SAME.out HO.out (by rw [← hq2, fq_whole]) ((l[0].1 + y : Int) : Rat))
        clear hf2 hq2
        obtain ⟨f0, f1⟩ := R.out.cells 0 h0l
        simp only [Nat.zero_mul, Nat.add_zero] at f0 f1
        obtain ⟨t0, t1⟩ := R.out.cells m hml
        go_upto_region 10 with fail
        go_quiet (fail)
        have BQ := below_drews (Below.refl (u6.alloc (.cells #[.int .i64 n2, .int .i64 1] 32)).heap.size (u6.alloc (.cells #[.int .i64 n2, .int .i64 1] 32))) nq
        replace R := Lib.hid (R.out.grow BQ)
        replace R1 := Lib.hid (R1.out.grow BQ)
        replace R2 := Lib.hid (R2.out.grow BQ)
        replace S := S.next BQ
        clear BQ
        clear r
        have r := S.holds
        simp only [Holds, and_true] at r
        try simp only [World.size_alloc] at r
        clear f0 f1 t0 t1
        go_wp2_with fail
        refine (at_yes (x := l[0].1 + y) R.out OX.out).mono ?_
        rintro e u7 ⟨n3, d3, rfl, hf3, hq3, b7⟩
        replace R := Lib.hid ((R.out.grow b7).alloc n3 d3 32)
        replace R1 := Lib.hid ((R1.out.grow b7).alloc n3 d3 32)
        replace R2 := Lib.hid ((R2.out.grow b7).alloc n3 d3 32)
        replace S := (S.next b7).alloc n3 d3
        clear b7
        clear r
        have r := S.holds
        simp only [Holds, and_true] at r
        try simp only [World.size_alloc] at r
        have HF3 := Lib.hid hf3; have HQ3 := Lib.hid hq3
        clear hf3 hq3
        go_wp2_with fail
        refine (got_same (at_yes (x := l[0].1 + y) R1.out LX.out) HF3.out (by rw [HQ3.out, EQ.out])).mono ?_
        rintro e u8 ⟨rfl, b8⟩
        replace R := Lib.hid ((R.out.grow b8).alloc n3 d3 32)
        replace R1 := Lib.hid ((R1.out.grow b8).alloc n3 d3 32)
        replace R2 := Lib.hid ((R2.out.grow b8).alloc n3 d3 32)
        replace S := (S.next b8).alloc n3 d3
        clear b8
        clear r
        have r := S.holds
        simp only [Holds, and_true] at r
        try simp only [World.size_alloc] at r
        have Tc0 := r.2.2.1.1
        have Tc1 := r.2.2.1.2.1
        have Kc0 := r.2.2.2.2.1
        have Kc1 := r.2.2.2.2.2.1
        go_upto_region 13 with fail
        generalize (u8.alloc (.cells #[.int .i64 n3, .int .i64 d3] 32)) = W8 at S R R1 R2 Tc0 Tc1 Kc0 Kc1 r ⊢
        have mkS : ∀ w' : World, Below W8.heap.size W8 w' → (Below W8.heap.size W8 w' ∧ w'.cell? ⟨u6.heap.size, 0, none⟩ = some (.int .i64 n2) ∧ w'.cell? ⟨u6.heap.size, 1, none⟩ = some (.int .i64 1) ∧ w'.cell? ⟨u1.heap.size, 0, none⟩ = some (.int .i64 kx) ∧ w'.cell? ⟨u1.heap.size, 1, none⟩ = some (.int .i64 n2)) := fun w' b => ⟨b, (b.cell (cell_below Tc0)).trans Tc0, (b.cell (cell_below Tc1)).trans Tc1, (b.cell (cell_below Kc0)).trans Kc0, (b.cell (cell_below Kc1)).trans Kc1⟩
        have held : ∀ W w' : World, Below W.heap.size W w' → (Below W8.heap.size W8 W ∧ W.cell? ⟨u6.heap.size, 0, none⟩ = some (.int .i64 n2) ∧ W.cell? ⟨u6.heap.size, 1, none⟩ = some (.int .i64 1) ∧ W.cell? ⟨u1.heap.size, 0, none⟩ = some (.int .i64 kx) ∧ W.cell? ⟨u1.heap.size, 1, none⟩ = some (.int .i64 n2)) → (Below W8.heap.size W8 w' ∧ w'.cell? ⟨u6.heap.size, 0, none⟩ = some (.int .i64 n2) ∧ w'.cell? ⟨u6.heap.size, 1, none⟩ = some (.int .i64 1) ∧ w'.cell? ⟨u1.heap.size, 0, none⟩ = some (.int .i64 kx) ∧ w'.cell? ⟨u1.heap.size, 1, none⟩ = some (.int .i64 n2)) := fun W w' b h => mkS w' (h.1.trans (b.mono h.1.size))
        have keep0 := mkS _ (Below.refl W8.heap.size W8).drew
        have atR := fun (W : World) (h : (Below W8.heap.size W8 W ∧ W.cell? ⟨u6.heap.size, 0, none⟩ = some (.int .i64 n2) ∧ W.cell? ⟨u6.heap.size, 1, none⟩ = some (.int .i64 1) ∧ W.cell? ⟨u1.heap.size, 0, none⟩ = some (.int .i64 kx) ∧ W.cell? ⟨u1.heap.size, 1, none⟩ = some (.int .i64 n2))) => R.out.grow h.1
        have atR1 := fun (W : World) (h : (Below W8.heap.size W8 W ∧ W.cell? ⟨u6.heap.size, 0, none⟩ = some (.int .i64 n2) ∧ W.cell? ⟨u6.heap.size, 1, none⟩ = some (.int .i64 1) ∧ W.cell? ⟨u1.heap.size, 0, none⟩ = some (.int .i64 kx) ∧ W.cell? ⟨u1.heap.size, 1, none⟩ = some (.int .i64 n2))) => R1.out.grow h.1
        have atR2 := fun (W : World) (h : (Below W8.heap.size W8 W ∧ W.cell? ⟨u6.heap.size, 0, none⟩ = some (.int .i64 n2) ∧ W.cell? ⟨u6.heap.size, 1, none⟩ = some (.int .i64 1) ∧ W.cell? ⟨u1.heap.size, 0, none⟩ = some (.int .i64 kx) ∧ W.cell? ⟨u1.heap.size, 1, none⟩ = some (.int .i64 n2))) => R2.out.grow h.1
        have tok0 : True := trivial
        go_region_held3 (fun w' => (Below W8.heap.size W8 w' ∧ w'.cell? ⟨u6.heap.size, 0, none⟩ = some (.int .i64 n2) ∧ w'.cell? ⟨u6.heap.size, 1, none⟩ = some (.int .i64 1) ∧ w'.cell? ⟨u1.heap.size, 0, none⟩ = some (.int .i64 kx) ∧ w'.cell? ⟨u1.heap.size, 1, none⟩ = some (.int .i64 n2))) (first | exact keep0 | exact hs0) (first | (have _t := tok0; clear tok0 _t; go_at_call 17; refine (frac_any _ _).mono ?_; rintro e u9 ⟨rfl, b0⟩; have hs0 := held _ _ b0 (by assumption)))
        have B9 := hs0.1
        replace R := Lib.hid (R.out.grow B9)
        replace R1 := Lib.hid (R1.out.grow B9)
        replace R2 := Lib.hid (R2.out.grow B9)
        replace S := S.next B9
        clear mkS held keep0 B9 atR atR1 atR2 hs0 b0
        clear r
        have r := S.holds
        simp only [Holds, and_true] at r
        try simp only [World.size_alloc] at r
        have Yc0 := r.2.2.2.1.1
        have Yc1 := r.2.2.2.1.2.1
        have Kd0 := r.2.2.2.2.1
        have Kd1 := r.2.2.2.2.2.1
        have Ac0 := r.2.1.1
        have Ac1 := r.2.1.2.1
        have Bc0 := r.1.1
        have Bc1 := r.1.2.1
        go_upto_region 14 with fail
        have mkS : ∀ w' : World, Below u9.heap.size u9 w' → (Below u9.heap.size u9 w' ∧ w'.cell? ⟨u5.heap.size, 0, none⟩ = some (.int .i64 n2) ∧ w'.cell? ⟨u5.heap.size, 1, none⟩ = some (.int .i64 1) ∧ w'.cell? ⟨u1.heap.size, 0, none⟩ = some (.int .i64 kx) ∧ w'.cell? ⟨u1.heap.size, 1, none⟩ = some (.int .i64 n2) ∧ w'.cell? ⟨u7.heap.size, 0, none⟩ = some (.int .i64 n3) ∧ w'.cell? ⟨u7.heap.size, 1, none⟩ = some (.int .i64 d3) ∧ w'.cell? ⟨u8.heap.size, 0, none⟩ = some (.int .i64 n3) ∧ w'.cell? ⟨u8.heap.size, 1, none⟩ = some (.int .i64 d3)) := fun w' b => ⟨b, (b.cell (cell_below Yc0)).trans Yc0, (b.cell (cell_below Yc1)).trans Yc1, (b.cell (cell_below Kd0)).trans Kd0, (b.cell (cell_below Kd1)).trans Kd1, (b.cell (cell_below Ac0)).trans Ac0, (b.cell (cell_below Ac1)).trans Ac1, (b.cell (cell_below Bc0)).trans Bc0, (b.cell (cell_below Bc1)).trans Bc1⟩
        have held : ∀ W w' : World, Below W.heap.size W w' → (Below u9.heap.size u9 W ∧ W.cell? ⟨u5.heap.size, 0, none⟩ = some (.int .i64 n2) ∧ W.cell? ⟨u5.heap.size, 1, none⟩ = some (.int .i64 1) ∧ W.cell? ⟨u1.heap.size, 0, none⟩ = some (.int .i64 kx) ∧ W.cell? ⟨u1.heap.size, 1, none⟩ = some (.int .i64 n2) ∧ W.cell? ⟨u7.heap.size, 0, none⟩ = some (.int .i64 n3) ∧ W.cell? ⟨u7.heap.size, 1, none⟩ = some (.int .i64 d3) ∧ W.cell? ⟨u8.heap.size, 0, none⟩ = some (.int .i64 n3) ∧ W.cell? ⟨u8.heap.size, 1, none⟩ = some (.int .i64 d3)) → (Below u9.heap.size u9 w' ∧ w'.cell? ⟨u5.heap.size, 0, none⟩ = some (.int .i64 n2) ∧ w'.cell? ⟨u5.heap.size, 1, none⟩ = some (.int .i64 1) ∧ w'.cell? ⟨u1.heap.size, 0, none⟩ = some (.int .i64 kx) ∧ w'.cell? ⟨u1.heap.size, 1, none⟩ = some (.int .i64 n2) ∧ w'.cell? ⟨u7.heap.size, 0, none⟩ = some (.int .i64 n3) ∧ w'.cell? ⟨u7.heap.size, 1, none⟩ = some (.int .i64 d3) ∧ w'.cell? ⟨u8.heap.size, 0, none⟩ = some (.int .i64 n3) ∧ w'.cell? ⟨u8.heap.size, 1, none⟩ = some (.int .i64 d3)) := fun W w' b h => mkS w' (h.1.trans (b.mono h.1.size))
        have keep0 := mkS _ (Below.refl u9.heap.size u9).drew
        have atR := fun (W : World) (h : (Below u9.heap.size u9 W ∧ W.cell? ⟨u5.heap.size, 0, none⟩ = some (.int .i64 n2) ∧ W.cell? ⟨u5.heap.size, 1, none⟩ = some (.int .i64 1) ∧ W.cell? ⟨u1.heap.size, 0, none⟩ = some (.int .i64 kx) ∧ W.cell? ⟨u1.heap.size, 1, none⟩ = some (.int .i64 n2) ∧ W.cell? ⟨u7.heap.size, 0, none⟩ = some (.int .i64 n3) ∧ W.cell? ⟨u7.heap.size, 1, none⟩ = some (.int .i64 d3) ∧ W.cell? ⟨u8.heap.size, 0, none⟩ = some (.int .i64 n3) ∧ W.cell? ⟨u8.heap.size, 1, none⟩ = some (.int .i64 d3))) => R.out.grow h.1
        have atR1 := fun (W : World) (h : (Below u9.heap.size u9 W ∧ W.cell? ⟨u5.heap.size, 0, none⟩ = some (.int .i64 n2) ∧ W.cell? ⟨u5.heap.size, 1, none⟩ = some (.int .i64 1) ∧ W.cell? ⟨u1.heap.size, 0, none⟩ = some (.int .i64 kx) ∧ W.cell? ⟨u1.heap.size, 1, none⟩ = some (.int .i64 n2) ∧ W.cell? ⟨u7.heap.size, 0, none⟩ = some (.int .i64 n3) ∧ W.cell? ⟨u7.heap.size, 1, none⟩ = some (.int .i64 d3) ∧ W.cell? ⟨u8.heap.size, 0, none⟩ = some (.int .i64 n3) ∧ W.cell? ⟨u8.heap.size, 1, none⟩ = some (.int .i64 d3))) => R1.out.grow h.1
        have atR2 := fun (W : World) (h : (Below u9.heap.size u9 W ∧ W.cell? ⟨u5.heap.size, 0, none⟩ = some (.int .i64 n2) ∧ W.cell? ⟨u5.heap.size, 1, none⟩ = some (.int .i64 1) ∧ W.cell? ⟨u1.heap.size, 0, none⟩ = some (.int .i64 kx) ∧ W.cell? ⟨u1.heap.size, 1, none⟩ = some (.int .i64 n2) ∧ W.cell? ⟨u7.heap.size, 0, none⟩ = some (.int .i64 n3) ∧ W.cell? ⟨u7.heap.size, 1, none⟩ = some (.int .i64 d3) ∧ W.cell? ⟨u8.heap.size, 0, none⟩ = some (.int .i64 n3) ∧ W.cell? ⟨u8.heap.size, 1, none⟩ = some (.int .i64 d3))) => R2.out.grow h.1
        have tok0 : True := trivial
        go_region_held3 (fun w' => (Below u9.heap.size u9 w' ∧ w'.cell? ⟨u5.heap.size, 0, none⟩ = some (.int .i64 n2) ∧ w'.cell? ⟨u5.heap.size, 1, none⟩ = some (.int .i64 1) ∧ w'.cell? ⟨u1.heap.size, 0, none⟩ = some (.int .i64 kx) ∧ w'.cell? ⟨u1.heap.size, 1, none⟩ = some (.int .i64 n2) ∧ w'.cell? ⟨u7.heap.size, 0, none⟩ = some (.int .i64 n3) ∧ w'.cell? ⟨u7.heap.size, 1, none⟩ = some (.int .i64 d3) ∧ w'.cell? ⟨u8.heap.size, 0, none⟩ = some (.int .i64 n3) ∧ w'.cell? ⟨u8.heap.size, 1, none⟩ = some (.int .i64 d3))) (first | exact keep0 | exact hs0) (first | (have _t := tok0; clear tok0 _t; go_at_call 17; refine (frac_any _ _).mono ?_; rintro e u10 ⟨rfl, b0⟩; have hs0 := held _ _ b0 (by assumption)))
        have B9 := hs0.1
        replace R := Lib.hid (R.out.grow B9)
        replace R1 := Lib.hid (R1.out.grow B9)
        replace R2 := Lib.hid (R2.out.grow B9)
        replace S := S.next B9
        clear mkS held keep0 B9 atR atR1 atR2 hs0 b0
        clear r
        have r := S.holds
        simp only [Holds, and_true] at r
        try simp only [World.size_alloc] at r
        go_wp2_with fail
        go_ret
        exact ⟨by first | rfl | (simp; done) | (simp; omega), S.below⟩
      · by_cases c : n2 = ky
        · subst c
          have e1 : (d2 == 1) = false := by simpa using fun e => hs ⟨rfl, e⟩
          clear hf2 hq2 hs
          obtain ⟨f0, f1⟩ := R.out.cells 0 h0l
          simp only [Nat.zero_mul, Nat.add_zero] at f0 f1
          obtain ⟨t0, t1⟩ := R.out.cells m hml
          go_upto_region 10 with fail
          go_quiet (fail)
          have BQ := below_drews (Below.refl (u6.alloc (.cells #[.int .i64 n2, .int .i64 d2] 32)).heap.size (u6.alloc (.cells #[.int .i64 n2, .int .i64 d2] 32))) nq
          replace R := Lib.hid (R.out.grow BQ)
          replace R1 := Lib.hid (R1.out.grow BQ)
          replace R2 := Lib.hid (R2.out.grow BQ)
          replace S := S.next BQ
          clear BQ
          clear r
          have r := S.holds
          simp only [Holds, and_true] at r
          try simp only [World.size_alloc] at r
          clear f0 f1 t0 t1
          go_wp2_with fail
          refine (at_yes (x := l[0].1 + y) R.out OX.out).mono ?_
          rintro e u7 ⟨n3, d3, rfl, hf3, hq3, b7⟩
          replace R := Lib.hid ((R.out.grow b7).alloc n3 d3 32)
          replace R1 := Lib.hid ((R1.out.grow b7).alloc n3 d3 32)
          replace R2 := Lib.hid ((R2.out.grow b7).alloc n3 d3 32)
          replace S := (S.next b7).alloc n3 d3
          clear b7
          clear r
          have r := S.holds
          simp only [Holds, and_true] at r
          try simp only [World.size_alloc] at r
          have HF3 := Lib.hid hf3; have HQ3 := Lib.hid hq3
          clear hf3 hq3
          go_wp2_with fail
          refine (at_yes (x := l[0].1 + y) R1.out LX.out).mono ?_
          rintro e u8 ⟨n4, d4, rfl, hf4, hq4, b8⟩
          replace R := Lib.hid ((R.out.grow b8).alloc n4 d4 32)
          replace R1 := Lib.hid ((R1.out.grow b8).alloc n4 d4 32)
          replace R2 := Lib.hid ((R2.out.grow b8).alloc n4 d4 32)
          replace S := (S.next b8).alloc n4 d4
          clear b8
          clear r
          have r := S.holds
          simp only [Holds, and_true] at r
          try simp only [World.size_alloc] at r
          clear hf4 hq4
          have Tc0 := r.2.2.1.1
          have Tc1 := r.2.2.1.2.1
          have Kc0 := r.2.2.2.2.1
          have Kc1 := r.2.2.2.2.2.1
          go_upto_region 13 with fail
          generalize (u8.alloc (.cells #[.int .i64 n4, .int .i64 d4] 32)) = W8 at S R R1 R2 Tc0 Tc1 Kc0 Kc1 r ⊢
          have mkS : ∀ w' : World, Below W8.heap.size W8 w' → (Below W8.heap.size W8 w' ∧ w'.cell? ⟨u6.heap.size, 0, none⟩ = some (.int .i64 n2) ∧ w'.cell? ⟨u6.heap.size, 1, none⟩ = some (.int .i64 d2) ∧ w'.cell? ⟨u1.heap.size, 0, none⟩ = some (.int .i64 kx) ∧ w'.cell? ⟨u1.heap.size, 1, none⟩ = some (.int .i64 n2)) := fun w' b => ⟨b, (b.cell (cell_below Tc0)).trans Tc0, (b.cell (cell_below Tc1)).trans Tc1, (b.cell (cell_below Kc0)).trans Kc0, (b.cell (cell_below Kc1)).trans Kc1⟩
          have held : ∀ W w' : World, Below W.heap.size W w' → (Below W8.heap.size W8 W ∧ W.cell? ⟨u6.heap.size, 0, none⟩ = some (.int .i64 n2) ∧ W.cell? ⟨u6.heap.size, 1, none⟩ = some (.int .i64 d2) ∧ W.cell? ⟨u1.heap.size, 0, none⟩ = some (.int .i64 kx) ∧ W.cell? ⟨u1.heap.size, 1, none⟩ = some (.int .i64 n2)) → (Below W8.heap.size W8 w' ∧ w'.cell? ⟨u6.heap.size, 0, none⟩ = some (.int .i64 n2) ∧ w'.cell? ⟨u6.heap.size, 1, none⟩ = some (.int .i64 d2) ∧ w'.cell? ⟨u1.heap.size, 0, none⟩ = some (.int .i64 kx) ∧ w'.cell? ⟨u1.heap.size, 1, none⟩ = some (.int .i64 n2)) := fun W w' b h => mkS w' (h.1.trans (b.mono h.1.size))
          have keep0 := mkS _ (Below.refl W8.heap.size W8).drew
          have atR := fun (W : World) (h : (Below W8.heap.size W8 W ∧ W.cell? ⟨u6.heap.size, 0, none⟩ = some (.int .i64 n2) ∧ W.cell? ⟨u6.heap.size, 1, none⟩ = some (.int .i64 d2) ∧ W.cell? ⟨u1.heap.size, 0, none⟩ = some (.int .i64 kx) ∧ W.cell? ⟨u1.heap.size, 1, none⟩ = some (.int .i64 n2))) => R.out.grow h.1
          have atR1 := fun (W : World) (h : (Below W8.heap.size W8 W ∧ W.cell? ⟨u6.heap.size, 0, none⟩ = some (.int .i64 n2) ∧ W.cell? ⟨u6.heap.size, 1, none⟩ = some (.int .i64 d2) ∧ W.cell? ⟨u1.heap.size, 0, none⟩ = some (.int .i64 kx) ∧ W.cell? ⟨u1.heap.size, 1, none⟩ = some (.int .i64 n2))) => R1.out.grow h.1
          have atR2 := fun (W : World) (h : (Below W8.heap.size W8 W ∧ W.cell? ⟨u6.heap.size, 0, none⟩ = some (.int .i64 n2) ∧ W.cell? ⟨u6.heap.size, 1, none⟩ = some (.int .i64 d2) ∧ W.cell? ⟨u1.heap.size, 0, none⟩ = some (.int .i64 kx) ∧ W.cell? ⟨u1.heap.size, 1, none⟩ = some (.int .i64 n2))) => R2.out.grow h.1
          have tok0 : True := trivial
          go_region_held3 (fun w' => (Below W8.heap.size W8 w' ∧ w'.cell? ⟨u6.heap.size, 0, none⟩ = some (.int .i64 n2) ∧ w'.cell? ⟨u6.heap.size, 1, none⟩ = some (.int .i64 d2) ∧ w'.cell? ⟨u1.heap.size, 0, none⟩ = some (.int .i64 kx) ∧ w'.cell? ⟨u1.heap.size, 1, none⟩ = some (.int .i64 n2))) (first | exact keep0 | exact hs0) (first | (have _t := tok0; clear tok0 _t; go_at_call 17; refine (frac_any _ _).mono ?_; rintro e u9 ⟨rfl, b0⟩; have hs0 := held _ _ b0 (by assumption)))
          have B9 := hs0.1
          replace R := Lib.hid (R.out.grow B9)
          replace R1 := Lib.hid (R1.out.grow B9)
          replace R2 := Lib.hid (R2.out.grow B9)
          replace S := S.next B9
          clear mkS held keep0 B9 atR atR1 atR2 hs0 b0
          clear r
          have r := S.holds
          simp only [Holds, and_true] at r
          try simp only [World.size_alloc] at r
          have Yc0 := r.2.2.2.1.1
          have Yc1 := r.2.2.2.1.2.1
          have Kd0 := r.2.2.2.2.1
          have Kd1 := r.2.2.2.2.2.1
          have Ac0 := r.2.1.1
          have Ac1 := r.2.1.2.1
          have Bc0 := r.1.1
          have Bc1 := r.1.2.1
          go_upto_region 14 with fail
          have mkS : ∀ w' : World, Below u9.heap.size u9 w' → (Below u9.heap.size u9 w' ∧ w'.cell? ⟨u5.heap.size, 0, none⟩ = some (.int .i64 n2) ∧ w'.cell? ⟨u5.heap.size, 1, none⟩ = some (.int .i64 1) ∧ w'.cell? ⟨u1.heap.size, 0, none⟩ = some (.int .i64 kx) ∧ w'.cell? ⟨u1.heap.size, 1, none⟩ = some (.int .i64 n2) ∧ w'.cell? ⟨u7.heap.size, 0, none⟩ = some (.int .i64 n3) ∧ w'.cell? ⟨u7.heap.size, 1, none⟩ = some (.int .i64 d3) ∧ w'.cell? ⟨u8.heap.size, 0, none⟩ = some (.int .i64 n4) ∧ w'.cell? ⟨u8.heap.size, 1, none⟩ = some (.int .i64 d4)) := fun w' b => ⟨b, (b.cell (cell_below Yc0)).trans Yc0, (b.cell (cell_below Yc1)).trans Yc1, (b.cell (cell_below Kd0)).trans Kd0, (b.cell (cell_below Kd1)).trans Kd1, (b.cell (cell_below Ac0)).trans Ac0, (b.cell (cell_below Ac1)).trans Ac1, (b.cell (cell_below Bc0)).trans Bc0, (b.cell (cell_below Bc1)).trans Bc1⟩
          have held : ∀ W w' : World, Below W.heap.size W w' → (Below u9.heap.size u9 W ∧ W.cell? ⟨u5.heap.size, 0, none⟩ = some (.int .i64 n2) ∧ W.cell? ⟨u5.heap.size, 1, none⟩ = some (.int .i64 1) ∧ W.cell? ⟨u1.heap.size, 0, none⟩ = some (.int .i64 kx) ∧ W.cell? ⟨u1.heap.size, 1, none⟩ = some (.int .i64 n2) ∧ W.cell? ⟨u7.heap.size, 0, none⟩ = some (.int .i64 n3) ∧ W.cell? ⟨u7.heap.size, 1, none⟩ = some (.int .i64 d3) ∧ W.cell? ⟨u8.heap.size, 0, none⟩ = some (.int .i64 n4) ∧ W.cell? ⟨u8.heap.size, 1, none⟩ = some (.int .i64 d4)) → (Below u9.heap.size u9 w' ∧ w'.cell? ⟨u5.heap.size, 0, none⟩ = some (.int .i64 n2) ∧ w'.cell? ⟨u5.heap.size, 1, none⟩ = some (.int .i64 1) ∧ w'.cell? ⟨u1.heap.size, 0, none⟩ = some (.int .i64 kx) ∧ w'.cell? ⟨u1.heap.size, 1, none⟩ = some (.int .i64 n2) ∧ w'.cell? ⟨u7.heap.size, 0, none⟩ = some (.int .i64 n3) ∧ w'.cell? ⟨u7.heap.size, 1, none⟩ = some (.int .i64 d3) ∧ w'.cell? ⟨u8.heap.size, 0, none⟩ = some (.int .i64 n4) ∧ w'.cell? ⟨u8.heap.size, 1, none⟩ = some (.int .i64 d4)) := fun W w' b h => mkS w' (h.1.trans (b.mono h.1.size))
          have keep0 := mkS _ (Below.refl u9.heap.size u9).drew
          have atR := fun (W : World) (h : (Below u9.heap.size u9 W ∧ W.cell? ⟨u5.heap.size, 0, none⟩ = some (.int .i64 n2) ∧ W.cell? ⟨u5.heap.size, 1, none⟩ = some (.int .i64 1) ∧ W.cell? ⟨u1.heap.size, 0, none⟩ = some (.int .i64 kx) ∧ W.cell? ⟨u1.heap.size, 1, none⟩ = some (.int .i64 n2) ∧ W.cell? ⟨u7.heap.size, 0, none⟩ = some (.int .i64 n3) ∧ W.cell? ⟨u7.heap.size, 1, none⟩ = some (.int .i64 d3) ∧ W.cell? ⟨u8.heap.size, 0, none⟩ = some (.int .i64 n4) ∧ W.cell? ⟨u8.heap.size, 1, none⟩ = some (.int .i64 d4))) => R.out.grow h.1
          have atR1 := fun (W : World) (h : (Below u9.heap.size u9 W ∧ W.cell? ⟨u5.heap.size, 0, none⟩ = some (.int .i64 n2) ∧ W.cell? ⟨u5.heap.size, 1, none⟩ = some (.int .i64 1) ∧ W.cell? ⟨u1.heap.size, 0, none⟩ = some (.int .i64 kx) ∧ W.cell? ⟨u1.heap.size, 1, none⟩ = some (.int .i64 n2) ∧ W.cell? ⟨u7.heap.size, 0, none⟩ = some (.int .i64 n3) ∧ W.cell? ⟨u7.heap.size, 1, none⟩ = some (.int .i64 d3) ∧ W.cell? ⟨u8.heap.size, 0, none⟩ = some (.int .i64 n4) ∧ W.cell? ⟨u8.heap.size, 1, none⟩ = some (.int .i64 d4))) => R1.out.grow h.1
          have atR2 := fun (W : World) (h : (Below u9.heap.size u9 W ∧ W.cell? ⟨u5.heap.size, 0, none⟩ = some (.int .i64 n2) ∧ W.cell? ⟨u5.heap.size, 1, none⟩ = some (.int .i64 1) ∧ W.cell? ⟨u1.heap.size, 0, none⟩ = some (.int .i64 kx) ∧ W.cell? ⟨u1.heap.size, 1, none⟩ = some (.int .i64 n2) ∧ W.cell? ⟨u7.heap.size, 0, none⟩ = some (.int .i64 n3) ∧ W.cell? ⟨u7.heap.size, 1, none⟩ = some (.int .i64 d3) ∧ W.cell? ⟨u8.heap.size, 0, none⟩ = some (.int .i64 n4) ∧ W.cell? ⟨u8.heap.size, 1, none⟩ = some (.int .i64 d4))) => R2.out.grow h.1
          refine wp_region_held_drew (S := (fun w' => (Below u9.heap.size u9 w' ∧ w'.cell? ⟨u5.heap.size, 0, none⟩ = some (.int .i64 n2) ∧ w'.cell? ⟨u5.heap.size, 1, none⟩ = some (.int .i64 1) ∧ w'.cell? ⟨u1.heap.size, 0, none⟩ = some (.int .i64 kx) ∧ w'.cell? ⟨u1.heap.size, 1, none⟩ = some (.int .i64 n2) ∧ w'.cell? ⟨u7.heap.size, 0, none⟩ = some (.int .i64 n3) ∧ w'.cell? ⟨u7.heap.size, 1, none⟩ = some (.int .i64 d3) ∧ w'.cell? ⟨u8.heap.size, 0, none⟩ = some (.int .i64 n4) ∧ w'.cell? ⟨u8.heap.size, 1, none⟩ = some (.int .i64 d4)))) (by kernel_rfl) (by exact keep0) (fun hHeld => ?_)
          refine take_h 0 122 rfl rfl (by kernel_rfl) (by kernel_rfl) (by kernel_rfl) (fun _ _ _ h => h) (by kernel_rfl) (by intro w hSw; (try dsimp only at hSw); go_simp; try with_reducible rfl) (by assumption) ?_
          refine take_h 1 123 rfl rfl (by kernel_rfl) (by kernel_rfl) (by kernel_rfl) (fun _ _ _ h => h) (by kernel_rfl) (by intro w hSw; (try dsimp only at hSw); go_simp; try with_reducible rfl) (by assumption) ?_
          refine take_h 2 124 rfl rfl (by kernel_rfl) (by kernel_rfl) (by kernel_rfl) (fun _ _ _ h => h) (by kernel_rfl) (by intro w hSw; (try dsimp only at hSw); go_simp; try with_reducible rfl) (by assumption) ?_
          refine take_h 3 125 rfl rfl (by kernel_rfl) (by kernel_rfl) (by kernel_rfl) (fun _ _ _ h => h) (by kernel_rfl) (by intro w hSw; (try dsimp only at hSw); go_simp; try with_reducible rfl) (by assumption) ?_
          refine take_h 4 126 rfl rfl (by kernel_rfl) (by kernel_rfl) (by kernel_rfl) (fun _ _ _ h => h) (by kernel_rfl) (by intro w hSw; (try dsimp only at hSw); go_simp; try with_reducible rfl) (by assumption) ?_
          refine take_h 5 127 rfl rfl (by kernel_rfl) (by kernel_rfl) (by kernel_rfl) (fun _ _ _ h => h) (by kernel_rfl) (by intro w hSw; (try dsimp only at hSw); go_simp; try with_reducible rfl) (by assumption) ?_
          refine take_h 6 128 rfl rfl (by kernel_rfl) (by kernel_rfl) (by kernel_rfl) (fun _ _ _ h => h) (by kernel_rfl) (by intro w hSw; (try dsimp only at hSw); go_simp; try with_reducible rfl) (by assumption) ?_
          refine take_h 7 129 rfl rfl (by kernel_rfl) (by kernel_rfl) (by kernel_rfl) (fun _ _ _ h => h) (by kernel_rfl) (by intro w hSw; (try dsimp only at hSw); go_simp; try with_reducible rfl) (by assumption) ?_
          refine take_h 8 130 rfl rfl (by kernel_rfl) (by kernel_rfl) (by kernel_rfl) (fun _ _ _ h => h) (by kernel_rfl) (by intro w hSw; (try dsimp only at hSw); go_simp; try with_reducible rfl) (by assumption) ?_
          refine take_h 9 131 rfl rfl (by kernel_rfl) (by kernel_rfl) (by kernel_rfl) (fun _ _ _ h => h) (by kernel_rfl) (by intro w hSw; (try dsimp only at hSw); go_simp; try with_reducible rfl) (by assumption) ?_
          refine take_h 10 132 rfl rfl (by kernel_rfl) (by kernel_rfl) (by kernel_rfl) (fun _ _ _ h => h) (by kernel_rfl) (by intro w hSw; (try dsimp only at hSw); go_simp; try with_reducible rfl) (by assumption) ?_
          refine wpAnyH_ready (rs := [11]) (by kernel_rfl) (by simp) (AllReadyH.cons rfl (fun K hK => ?_) AllReadyH.nil)
          go_simp
          go_wp2_with ((go_at_call 17; refine (frac_any _ _).mono ?_; rintro e u10 ⟨rfl, b0⟩; have hs0 := held _ _ b0 (by assumption)))
          refine hK.out _ _ (by (try dsimp only); exact hs0) (fun hHeld => ?_)
          clear hK K
          refine take_h 12 134 rfl rfl (by kernel_rfl) (by kernel_rfl) (by kernel_rfl) (fun _ _ _ h => h) (by kernel_rfl) (by intro w hSw; (try dsimp only at hSw); go_simp; try with_reducible rfl) (by assumption) ?_
          refine take_h 13 135 rfl rfl (by kernel_rfl) (by kernel_rfl) (by kernel_rfl) (fun _ _ _ h => h) (by kernel_rfl) (by intro w hSw; (try dsimp only at hSw); go_simp; try with_reducible rfl) (by assumption) ?_
          refine take_h 14 136 rfl rfl (by kernel_rfl) (by kernel_rfl) (by kernel_rfl) (fun _ _ _ h => h) (by kernel_rfl) (by intro w hSw; (try dsimp only at hSw); go_simp; try with_reducible rfl) (by assumption) ?_
          refine take_h 15 137 rfl rfl (by kernel_rfl) (by kernel_rfl) (by kernel_rfl) (fun _ _ _ h => h) (by kernel_rfl) (by intro w hSw; (try dsimp only at hSw); go_simp; try with_reducible rfl) (by assumption) ?_
          refine take_h 16 138 rfl rfl (by kernel_rfl) (by kernel_rfl) (by kernel_rfl) (fun _ _ _ h => h) (by kernel_rfl) (by intro w hSw; (try dsimp only at hSw); go_simp; try with_reducible rfl) (by assumption) ?_
          refine take_h 17 139 rfl rfl (by kernel_rfl) (by kernel_rfl) (by kernel_rfl) (fun _ _ _ h => h) (by kernel_rfl) (by intro w hSw; (try dsimp only at hSw); go_simp; try with_reducible rfl) (by assumption) ?_
          refine skip_h 18 140 rfl rfl (by kernel_rfl) (by kernel_rfl) (by kernel_rfl) (fun _ _ _ h => h) (by kernel_rfl) (by assumption) ?_
          refine skip_h 19 141 rfl rfl (by kernel_rfl) (by kernel_rfl) (by kernel_rfl) (fun _ _ _ h => h) (by kernel_rfl) (by assumption) ?_
          refine skip_h 20 142 rfl rfl (by kernel_rfl) (by kernel_rfl) (by kernel_rfl) (fun _ _ _ h => h) (by kernel_rfl) (by assumption) ?_
          refine take_h 21 143 rfl rfl (by kernel_rfl) (by kernel_rfl) (by kernel_rfl) (fun _ _ _ h => h) (by kernel_rfl) (by intro w hSw; (try dsimp only at hSw); go_simp; try with_reducible rfl) (by assumption) ?_
          refine take_h 22 144 rfl rfl (by kernel_rfl) (by kernel_rfl) (by kernel_rfl) (fun _ _ _ h => h) (by kernel_rfl) (by intro w hSw; (try dsimp only at hSw); go_simp; try with_reducible rfl) (by assumption) ?_
          refine take_h 23 145 rfl rfl (by kernel_rfl) (by kernel_rfl) (by kernel_rfl) (fun _ _ _ h => h) (by kernel_rfl) (by intro w hSw; (try dsimp only at hSw); go_simp; try with_reducible rfl) (by assumption) ?_
          refine take_h 24 146 rfl rfl (by kernel_rfl) (by kernel_rfl) (by kernel_rfl) (fun _ _ _ h => h) (by kernel_rfl) (by intro w hSw; (try dsimp only at hSw); go_simp; try with_reducible rfl) (by assumption) ?_
          refine take_h 25 147 rfl rfl (by kernel_rfl) (by kernel_rfl) (by kernel_rfl) (fun _ _ _ h => h) (by kernel_rfl) (by intro w hSw; (try dsimp only at hSw); go_simp; try with_reducible rfl) (by assumption) ?_
          refine take_h 26 148 rfl rfl (by kernel_rfl) (by kernel_rfl) (by kernel_rfl) (fun _ _ _ h => h) (by kernel_rfl) (by intro w hSw; (try dsimp only at hSw); go_simp; try with_reducible rfl) (by assumption) ?_
          refine take_h 27 149 rfl rfl (by kernel_rfl) (by kernel_rfl) (by kernel_rfl) (fun _ _ _ h => h) (by kernel_rfl) (by intro w hSw; (try dsimp only at hSw); go_simp; try with_reducible rfl) (by assumption) ?_
          refine take_h 28 150 rfl rfl (by kernel_rfl) (by kernel_rfl) (by kernel_rfl) (fun _ _ _ h => h) (by kernel_rfl) (by intro w hSw; (try dsimp only at hSw); go_simp; try with_reducible rfl) (by assumption) ?_
          refine take_h 29 151 rfl rfl (by kernel_rfl) (by kernel_rfl) (by kernel_rfl) (fun _ _ _ h => h) (by kernel_rfl) (by intro w hSw; (try dsimp only at hSw); go_simp; try with_reducible rfl) (by assumption) ?_
          refine take_h 30 152 rfl rfl (by kernel_rfl) (by kernel_rfl) (by kernel_rfl) (fun _ _ _ h => h) (by kernel_rfl) (by intro w hSw; (try dsimp only at hSw); go_simp; try with_reducible rfl) (by assumption) ?_
          refine take_h 31 4 rfl rfl (by kernel_rfl) (by kernel_rfl) (by kernel_rfl) (fun _ _ _ h => h) (by kernel_rfl) (by intro w hSw; (try dsimp only at hSw); go_simp; try with_reducible rfl) (by assumption) ?_
          refine wpAnyH_done (by kernel_rfl) ?_ _
          simp only [Exit.then]
          simp only [Act.put, List.setIfInBounds_toArray, List.set_cons_succ, List.set_cons_zero]
          have B9 := hs0.1
          replace R := Lib.hid (R.out.grow B9)
          replace R1 := Lib.hid (R1.out.grow B9)
          replace R2 := Lib.hid (R2.out.grow B9)
          replace S := S.next B9
          clear mkS held keep0 B9 atR atR1 atR2 hs0 b0
          clear r
          have r := S.holds
          simp only [Holds, and_true] at r
          try simp only [World.size_alloc] at r
          go_wp2_with fail
          go_ret
          exact ⟨by first | rfl | (simp; done) | (simp; omega), S.below⟩
        · have e1 : (n2 == ky) = false := by simpa using c
          clear hf2 hq2 hs c
          obtain ⟨f0, f1⟩ := R.out.cells 0 h0l
          simp only [Nat.zero_mul, Nat.add_zero] at f0 f1
          obtain ⟨t0, t1⟩ := R.out.cells m hml
          go_upto_region 10 with fail
          go_quiet (fail)
          have BQ := below_drews (Below.refl (u6.alloc (.cells #[.int .i64 n2, .int .i64 d2] 32)).heap.size (u6.alloc (.cells #[.int .i64 n2, .int .i64 d2] 32))) nq
          replace R := Lib.hid (R.out.grow BQ)
          replace R1 := Lib.hid (R1.out.grow BQ)
          replace R2 := Lib.hid (R2.out.grow BQ)
          replace S := S.next BQ
          clear BQ
          clear r
          have r := S.holds
          simp only [Holds, and_true] at r
          try simp only [World.size_alloc] at r
          clear f0 f1 t0 t1
          go_wp2_with fail
          refine (at_yes (x := l[0].1 + y) R.out OX.out).mono ?_
          rintro e u7 ⟨n3, d3, rfl, hf3, hq3, b7⟩
          replace R := Lib.hid ((R.out.grow b7).alloc n3 d3 32)
          replace R1 := Lib.hid ((R1.out.grow b7).alloc n3 d3 32)
          replace R2 := Lib.hid ((R2.out.grow b7).alloc n3 d3 32)
          replace S := (S.next b7).alloc n3 d3
          clear b7
          clear r
          have r := S.holds
          simp only [Holds, and_true] at r
          try simp only [World.size_alloc] at r
          have HF3 := Lib.hid hf3; have HQ3 := Lib.hid hq3
          clear hf3 hq3
          go_wp2_with fail
          refine (at_yes (x := l[0].1 + y) R1.out LX.out).mono ?_
          rintro e u8 ⟨n4, d4, rfl, hf4, hq4, b8⟩
          replace R := Lib.hid ((R.out.grow b8).alloc n4 d4 32)
          replace R1 := Lib.hid ((R1.out.grow b8).alloc n4 d4 32)
          replace R2 := Lib.hid ((R2.out.grow b8).alloc n4 d4 32)
          replace S := (S.next b8).alloc n4 d4
          clear b8
          clear r
          have r := S.holds
          simp only [Holds, and_true] at r
          try simp only [World.size_alloc] at r
          clear hf4 hq4
          have Tc0 := r.2.2.1.1
          have Tc1 := r.2.2.1.2.1
          have Kc0 := r.2.2.2.2.1
          have Kc1 := r.2.2.2.2.2.1
          go_upto_region 13 with fail
          generalize (u8.alloc (.cells #[.int .i64 n4, .int .i64 d4] 32)) = W8 at S R R1 R2 Tc0 Tc1 Kc0 Kc1 r ⊢
          have mkS : ∀ w' : World, Below W8.heap.size W8 w' → (Below W8.heap.size W8 w' ∧ w'.cell? ⟨u6.heap.size, 0, none⟩ = some (.int .i64 n2) ∧ w'.cell? ⟨u6.heap.size, 1, none⟩ = some (.int .i64 d2) ∧ w'.cell? ⟨u1.heap.size, 0, none⟩ = some (.int .i64 kx) ∧ w'.cell? ⟨u1.heap.size, 1, none⟩ = some (.int .i64 ky)) := fun w' b => ⟨b, (b.cell (cell_below Tc0)).trans Tc0, (b.cell (cell_below Tc1)).trans Tc1, (b.cell (cell_below Kc0)).trans Kc0, (b.cell (cell_below Kc1)).trans Kc1⟩
          have held : ∀ W w' : World, Below W.heap.size W w' → (Below W8.heap.size W8 W ∧ W.cell? ⟨u6.heap.size, 0, none⟩ = some (.int .i64 n2) ∧ W.cell? ⟨u6.heap.size, 1, none⟩ = some (.int .i64 d2) ∧ W.cell? ⟨u1.heap.size, 0, none⟩ = some (.int .i64 kx) ∧ W.cell? ⟨u1.heap.size, 1, none⟩ = some (.int .i64 ky)) → (Below W8.heap.size W8 w' ∧ w'.cell? ⟨u6.heap.size, 0, none⟩ = some (.int .i64 n2) ∧ w'.cell? ⟨u6.heap.size, 1, none⟩ = some (.int .i64 d2) ∧ w'.cell? ⟨u1.heap.size, 0, none⟩ = some (.int .i64 kx) ∧ w'.cell? ⟨u1.heap.size, 1, none⟩ = some (.int .i64 ky)) := fun W w' b h => mkS w' (h.1.trans (b.mono h.1.size))
          have keep0 := mkS _ (Below.refl W8.heap.size W8).drew
          have atR := fun (W : World) (h : (Below W8.heap.size W8 W ∧ W.cell? ⟨u6.heap.size, 0, none⟩ = some (.int .i64 n2) ∧ W.cell? ⟨u6.heap.size, 1, none⟩ = some (.int .i64 d2) ∧ W.cell? ⟨u1.heap.size, 0, none⟩ = some (.int .i64 kx) ∧ W.cell? ⟨u1.heap.size, 1, none⟩ = some (.int .i64 ky))) => R.out.grow h.1
          have atR1 := fun (W : World) (h : (Below W8.heap.size W8 W ∧ W.cell? ⟨u6.heap.size, 0, none⟩ = some (.int .i64 n2) ∧ W.cell? ⟨u6.heap.size, 1, none⟩ = some (.int .i64 d2) ∧ W.cell? ⟨u1.heap.size, 0, none⟩ = some (.int .i64 kx) ∧ W.cell? ⟨u1.heap.size, 1, none⟩ = some (.int .i64 ky))) => R1.out.grow h.1
          have atR2 := fun (W : World) (h : (Below W8.heap.size W8 W ∧ W.cell? ⟨u6.heap.size, 0, none⟩ = some (.int .i64 n2) ∧ W.cell? ⟨u6.heap.size, 1, none⟩ = some (.int .i64 d2) ∧ W.cell? ⟨u1.heap.size, 0, none⟩ = some (.int .i64 kx) ∧ W.cell? ⟨u1.heap.size, 1, none⟩ = some (.int .i64 ky))) => R2.out.grow h.1
          have tok0 : True := trivial
          go_region_held3 (fun w' => (Below W8.heap.size W8 w' ∧ w'.cell? ⟨u6.heap.size, 0, none⟩ = some (.int .i64 n2) ∧ w'.cell? ⟨u6.heap.size, 1, none⟩ = some (.int .i64 d2) ∧ w'.cell? ⟨u1.heap.size, 0, none⟩ = some (.int .i64 kx) ∧ w'.cell? ⟨u1.heap.size, 1, none⟩ = some (.int .i64 ky))) (first | exact keep0 | exact hs0) (first | (have _t := tok0; clear tok0 _t; go_at_call 17; refine (frac_any _ _).mono ?_; rintro e u9 ⟨rfl, b0⟩; have hs0 := held _ _ b0 (by assumption)))
          have B9 := hs0.1
          replace R := Lib.hid (R.out.grow B9)
          replace R1 := Lib.hid (R1.out.grow B9)
          replace R2 := Lib.hid (R2.out.grow B9)
          replace S := S.next B9
          clear mkS held keep0 B9 atR atR1 atR2 hs0 b0
          clear r
          have r := S.holds
          simp only [Holds, and_true] at r
          try simp only [World.size_alloc] at r
          have Yc0 := r.2.2.2.1.1
          have Yc1 := r.2.2.2.1.2.1
          have Kd0 := r.2.2.2.2.1
          have Kd1 := r.2.2.2.2.2.1
          have Ac0 := r.2.1.1
          have Ac1 := r.2.1.2.1
          have Bc0 := r.1.1
          have Bc1 := r.1.2.1
          go_upto_region 14 with fail
          have mkS : ∀ w' : World, Below u9.heap.size u9 w' → (Below u9.heap.size u9 w' ∧ w'.cell? ⟨u5.heap.size, 0, none⟩ = some (.int .i64 ky) ∧ w'.cell? ⟨u5.heap.size, 1, none⟩ = some (.int .i64 1) ∧ w'.cell? ⟨u1.heap.size, 0, none⟩ = some (.int .i64 kx) ∧ w'.cell? ⟨u1.heap.size, 1, none⟩ = some (.int .i64 ky) ∧ w'.cell? ⟨u7.heap.size, 0, none⟩ = some (.int .i64 n3) ∧ w'.cell? ⟨u7.heap.size, 1, none⟩ = some (.int .i64 d3) ∧ w'.cell? ⟨u8.heap.size, 0, none⟩ = some (.int .i64 n4) ∧ w'.cell? ⟨u8.heap.size, 1, none⟩ = some (.int .i64 d4)) := fun w' b => ⟨b, (b.cell (cell_below Yc0)).trans Yc0, (b.cell (cell_below Yc1)).trans Yc1, (b.cell (cell_below Kd0)).trans Kd0, (b.cell (cell_below Kd1)).trans Kd1, (b.cell (cell_below Ac0)).trans Ac0, (b.cell (cell_below Ac1)).trans Ac1, (b.cell (cell_below Bc0)).trans Bc0, (b.cell (cell_below Bc1)).trans Bc1⟩
          have held : ∀ W w' : World, Below W.heap.size W w' → (Below u9.heap.size u9 W ∧ W.cell? ⟨u5.heap.size, 0, none⟩ = some (.int .i64 ky) ∧ W.cell? ⟨u5.heap.size, 1, none⟩ = some (.int .i64 1) ∧ W.cell? ⟨u1.heap.size, 0, none⟩ = some (.int .i64 kx) ∧ W.cell? ⟨u1.heap.size, 1, none⟩ = some (.int .i64 ky) ∧ W.cell? ⟨u7.heap.size, 0, none⟩ = some (.int .i64 n3) ∧ W.cell? ⟨u7.heap.size, 1, none⟩ = some (.int .i64 d3) ∧ W.cell? ⟨u8.heap.size, 0, none⟩ = some (.int .i64 n4) ∧ W.cell? ⟨u8.heap.size, 1, none⟩ = some (.int .i64 d4)) → (Below u9.heap.size u9 w' ∧ w'.cell? ⟨u5.heap.size, 0, none⟩ = some (.int .i64 ky) ∧ w'.cell? ⟨u5.heap.size, 1, none⟩ = some (.int .i64 1) ∧ w'.cell? ⟨u1.heap.size, 0, none⟩ = some (.int .i64 kx) ∧ w'.cell? ⟨u1.heap.size, 1, none⟩ = some (.int .i64 ky) ∧ w'.cell? ⟨u7.heap.size, 0, none⟩ = some (.int .i64 n3) ∧ w'.cell? ⟨u7.heap.size, 1, none⟩ = some (.int .i64 d3) ∧ w'.cell? ⟨u8.heap.size, 0, none⟩ = some (.int .i64 n4) ∧ w'.cell? ⟨u8.heap.size, 1, none⟩ = some (.int .i64 d4)) := fun W w' b h => mkS w' (h.1.trans (b.mono h.1.size))
          have keep0 := mkS _ (Below.refl u9.heap.size u9).drew
          have atR := fun (W : World) (h : (Below u9.heap.size u9 W ∧ W.cell? ⟨u5.heap.size, 0, none⟩ = some (.int .i64 ky) ∧ W.cell? ⟨u5.heap.size, 1, none⟩ = some (.int .i64 1) ∧ W.cell? ⟨u1.heap.size, 0, none⟩ = some (.int .i64 kx) ∧ W.cell? ⟨u1.heap.size, 1, none⟩ = some (.int .i64 ky) ∧ W.cell? ⟨u7.heap.size, 0, none⟩ = some (.int .i64 n3) ∧ W.cell? ⟨u7.heap.size, 1, none⟩ = some (.int .i64 d3) ∧ W.cell? ⟨u8.heap.size, 0, none⟩ = some (.int .i64 n4) ∧ W.cell? ⟨u8.heap.size, 1, none⟩ = some (.int .i64 d4))) => R.out.grow h.1
          have atR1 := fun (W : World) (h : (Below u9.heap.size u9 W ∧ W.cell? ⟨u5.heap.size, 0, none⟩ = some (.int .i64 ky) ∧ W.cell? ⟨u5.heap.size, 1, none⟩ = some (.int .i64 1) ∧ W.cell? ⟨u1.heap.size, 0, none⟩ = some (.int .i64 kx) ∧ W.cell? ⟨u1.heap.size, 1, none⟩ = some (.int .i64 ky) ∧ W.cell? ⟨u7.heap.size, 0, none⟩ = some (.int .i64 n3) ∧ W.cell? ⟨u7.heap.size, 1, none⟩ = some (.int .i64 d3) ∧ W.cell? ⟨u8.heap.size, 0, none⟩ = some (.int .i64 n4) ∧ W.cell? ⟨u8.heap.size, 1, none⟩ = some (.int .i64 d4))) => R1.out.grow h.1
          have atR2 := fun (W : World) (h : (Below u9.heap.size u9 W ∧ W.cell? ⟨u5.heap.size, 0, none⟩ = some (.int .i64 ky) ∧ W.cell? ⟨u5.heap.size, 1, none⟩ = some (.int .i64 1) ∧ W.cell? ⟨u1.heap.size, 0, none⟩ = some (.int .i64 kx) ∧ W.cell? ⟨u1.heap.size, 1, none⟩ = some (.int .i64 ky) ∧ W.cell? ⟨u7.heap.size, 0, none⟩ = some (.int .i64 n3) ∧ W.cell? ⟨u7.heap.size, 1, none⟩ = some (.int .i64 d3) ∧ W.cell? ⟨u8.heap.size, 0, none⟩ = some (.int .i64 n4) ∧ W.cell? ⟨u8.heap.size, 1, none⟩ = some (.int .i64 d4))) => R2.out.grow h.1
          refine wp_region_held_drew (S := (fun w' => (Below u9.heap.size u9 w' ∧ w'.cell? ⟨u5.heap.size, 0, none⟩ = some (.int .i64 ky) ∧ w'.cell? ⟨u5.heap.size, 1, none⟩ = some (.int .i64 1) ∧ w'.cell? ⟨u1.heap.size, 0, none⟩ = some (.int .i64 kx) ∧ w'.cell? ⟨u1.heap.size, 1, none⟩ = some (.int .i64 ky) ∧ w'.cell? ⟨u7.heap.size, 0, none⟩ = some (.int .i64 n3) ∧ w'.cell? ⟨u7.heap.size, 1, none⟩ = some (.int .i64 d3) ∧ w'.cell? ⟨u8.heap.size, 0, none⟩ = some (.int .i64 n4) ∧ w'.cell? ⟨u8.heap.size, 1, none⟩ = some (.int .i64 d4)))) (by kernel_rfl) (by exact keep0) (fun hHeld => ?_)
          refine take_h 0 122 rfl rfl (by kernel_rfl) (by kernel_rfl) (by kernel_rfl) (fun _ _ _ h => h) (by kernel_rfl) (by intro w hSw; (try dsimp only at hSw); go_simp; try with_reducible rfl) (by assumption) ?_
          refine take_h 1 123 rfl rfl (by kernel_rfl) (by kernel_rfl) (by kernel_rfl) (fun _ _ _ h => h) (by kernel_rfl) (by intro w hSw; (try dsimp only at hSw); go_simp; try with_reducible rfl) (by assumption) ?_
          refine take_h 2 124 rfl rfl (by kernel_rfl) (by kernel_rfl) (by kernel_rfl) (fun _ _ _ h => h) (by kernel_rfl) (by intro w hSw; (try dsimp only at hSw); go_simp; try with_reducible rfl) (by assumption) ?_
          refine take_h 3 125 rfl rfl (by kernel_rfl) (by kernel_rfl) (by kernel_rfl) (fun _ _ _ h => h) (by kernel_rfl) (by intro w hSw; (try dsimp only at hSw); go_simp; try with_reducible rfl) (by assumption) ?_
          refine take_h 4 126 rfl rfl (by kernel_rfl) (by kernel_rfl) (by kernel_rfl) (fun _ _ _ h => h) (by kernel_rfl) (by intro w hSw; (try dsimp only at hSw); go_simp; try with_reducible rfl) (by assumption) ?_
          refine take_h 5 127 rfl rfl (by kernel_rfl) (by kernel_rfl) (by kernel_rfl) (fun _ _ _ h => h) (by kernel_rfl) (by intro w hSw; (try dsimp only at hSw); go_simp; try with_reducible rfl) (by assumption) ?_
          refine take_h 6 128 rfl rfl (by kernel_rfl) (by kernel_rfl) (by kernel_rfl) (fun _ _ _ h => h) (by kernel_rfl) (by intro w hSw; (try dsimp only at hSw); go_simp; try with_reducible rfl) (by assumption) ?_
          refine take_h 7 129 rfl rfl (by kernel_rfl) (by kernel_rfl) (by kernel_rfl) (fun _ _ _ h => h) (by kernel_rfl) (by intro w hSw; (try dsimp only at hSw); go_simp; try with_reducible rfl) (by assumption) ?_
          refine take_h 8 130 rfl rfl (by kernel_rfl) (by kernel_rfl) (by kernel_rfl) (fun _ _ _ h => h) (by kernel_rfl) (by intro w hSw; (try dsimp only at hSw); go_simp; try with_reducible rfl) (by assumption) ?_
          refine take_h 9 131 rfl rfl (by kernel_rfl) (by kernel_rfl) (by kernel_rfl) (fun _ _ _ h => h) (by kernel_rfl) (by intro w hSw; (try dsimp only at hSw); go_simp; try with_reducible rfl) (by assumption) ?_
          refine take_h 10 132 rfl rfl (by kernel_rfl) (by kernel_rfl) (by kernel_rfl) (fun _ _ _ h => h) (by kernel_rfl) (by intro w hSw; (try dsimp only at hSw); go_simp; try with_reducible rfl) (by assumption) ?_
          refine wpAnyH_ready (rs := [11]) (by kernel_rfl) (by simp) (AllReadyH.cons rfl (fun K hK => ?_) AllReadyH.nil)
          go_simp
          go_wp2_with ((go_at_call 17; refine (frac_any _ _).mono ?_; rintro e u10 ⟨rfl, b0⟩; have hs0 := held _ _ b0 (by assumption)))
          refine hK.out _ _ (by (try dsimp only); exact hs0) (fun hHeld => ?_)
          clear hK K
          refine take_h 12 134 rfl rfl (by kernel_rfl) (by kernel_rfl) (by kernel_rfl) (fun _ _ _ h => h) (by kernel_rfl) (by intro w hSw; (try dsimp only at hSw); go_simp; try with_reducible rfl) (by assumption) ?_
          refine take_h 13 135 rfl rfl (by kernel_rfl) (by kernel_rfl) (by kernel_rfl) (fun _ _ _ h => h) (by kernel_rfl) (by intro w hSw; (try dsimp only at hSw); go_simp; try with_reducible rfl) (by assumption) ?_
          refine take_h 14 136 rfl rfl (by kernel_rfl) (by kernel_rfl) (by kernel_rfl) (fun _ _ _ h => h) (by kernel_rfl) (by intro w hSw; (try dsimp only at hSw); go_simp; try with_reducible rfl) (by assumption) ?_
          refine take_h 15 137 rfl rfl (by kernel_rfl) (by kernel_rfl) (by kernel_rfl) (fun _ _ _ h => h) (by kernel_rfl) (by intro w hSw; (try dsimp only at hSw); go_simp; try with_reducible rfl) (by assumption) ?_
          refine take_h 16 138 rfl rfl (by kernel_rfl) (by kernel_rfl) (by kernel_rfl) (fun _ _ _ h => h) (by kernel_rfl) (by intro w hSw; (try dsimp only at hSw); go_simp; try with_reducible rfl) (by assumption) ?_
          refine take_h 17 139 rfl rfl (by kernel_rfl) (by kernel_rfl) (by kernel_rfl) (fun _ _ _ h => h) (by kernel_rfl) (by intro w hSw; (try dsimp only at hSw); go_simp; try with_reducible rfl) (by assumption) ?_
          refine skip_h 18 140 rfl rfl (by kernel_rfl) (by kernel_rfl) (by kernel_rfl) (fun _ _ _ h => h) (by kernel_rfl) (by assumption) ?_
          refine skip_h 19 141 rfl rfl (by kernel_rfl) (by kernel_rfl) (by kernel_rfl) (fun _ _ _ h => h) (by kernel_rfl) (by assumption) ?_
          refine skip_h 20 142 rfl rfl (by kernel_rfl) (by kernel_rfl) (by kernel_rfl) (fun _ _ _ h => h) (by kernel_rfl) (by assumption) ?_
          refine take_h 21 143 rfl rfl (by kernel_rfl) (by kernel_rfl) (by kernel_rfl) (fun _ _ _ h => h) (by kernel_rfl) (by intro w hSw; (try dsimp only at hSw); go_simp; try with_reducible rfl) (by assumption) ?_
          refine take_h 22 144 rfl rfl (by kernel_rfl) (by kernel_rfl) (by kernel_rfl) (fun _ _ _ h => h) (by kernel_rfl) (by intro w hSw; (try dsimp only at hSw); go_simp; try with_reducible rfl) (by assumption) ?_
          refine take_h 23 145 rfl rfl (by kernel_rfl) (by kernel_rfl) (by kernel_rfl) (fun _ _ _ h => h) (by kernel_rfl) (by intro w hSw; (try dsimp only at hSw); go_simp; try with_reducible rfl) (by assumption) ?_
          refine take_h 24 146 rfl rfl (by kernel_rfl) (by kernel_rfl) (by kernel_rfl) (fun _ _ _ h => h) (by kernel_rfl) (by intro w hSw; (try dsimp only at hSw); go_simp; try with_reducible rfl) (by assumption) ?_
          refine take_h 25 147 rfl rfl (by kernel_rfl) (by kernel_rfl) (by kernel_rfl) (fun _ _ _ h => h) (by kernel_rfl) (by intro w hSw; (try dsimp only at hSw); go_simp; try with_reducible rfl) (by assumption) ?_
          refine take_h 26 148 rfl rfl (by kernel_rfl) (by kernel_rfl) (by kernel_rfl) (fun _ _ _ h => h) (by kernel_rfl) (by intro w hSw; (try dsimp only at hSw); go_simp; try with_reducible rfl) (by assumption) ?_
          refine take_h 27 149 rfl rfl (by kernel_rfl) (by kernel_rfl) (by kernel_rfl) (fun _ _ _ h => h) (by kernel_rfl) (by intro w hSw; (try dsimp only at hSw); go_simp; try with_reducible rfl) (by assumption) ?_
          refine take_h 28 150 rfl rfl (by kernel_rfl) (by kernel_rfl) (by kernel_rfl) (fun _ _ _ h => h) (by kernel_rfl) (by intro w hSw; (try dsimp only at hSw); go_simp; try with_reducible rfl) (by assumption) ?_
          refine take_h 29 151 rfl rfl (by kernel_rfl) (by kernel_rfl) (by kernel_rfl) (fun _ _ _ h => h) (by kernel_rfl) (by intro w hSw; (try dsimp only at hSw); go_simp; try with_reducible rfl) (by assumption) ?_
          refine take_h 30 152 rfl rfl (by kernel_rfl) (by kernel_rfl) (by kernel_rfl) (fun _ _ _ h => h) (by kernel_rfl) (by intro w hSw; (try dsimp only at hSw); go_simp; try with_reducible rfl) (by assumption) ?_
          refine take_h 31 4 rfl rfl (by kernel_rfl) (by kernel_rfl) (by kernel_rfl) (fun _ _ _ h => h) (by kernel_rfl) (by intro w hSw; (try dsimp only at hSw); go_simp; try with_reducible rfl) (by assumption) ?_
          refine wpAnyH_done (by kernel_rfl) ?_ _
          simp only [Exit.then]
          simp only [Act.put, List.setIfInBounds_toArray, List.set_cons_succ, List.set_cons_zero]
          have B9 := hs0.1
          replace R := Lib.hid (R.out.grow B9)
          replace R1 := Lib.hid (R1.out.grow B9)
          replace R2 := Lib.hid (R2.out.grow B9)
          replace S := S.next B9
          clear mkS held keep0 B9 atR atR1 atR2 hs0 b0
          clear r
          have r := S.holds
          simp only [Holds, and_true] at r
          try simp only [World.size_alloc] at r
          go_wp2_with fail
          go_ret
          exact ⟨by first | rfl | (simp; done) | (simp; omega), S.below⟩

set_option maxRecDepth 100000 in
theorem lifted (os : Os) (started : os.Started) (H : Type) (enc : TypeId × Value → H) :
    ReturnsInHanded {} Try.checked os 3 .any (Rows.fnCurveAddSpec.pre6 enc Try.prog Try.f3 Rows.fnCurveAddRow.domain false) (Rows.fnCurveAddSpec.post enc Try.prog Try.f3 false true false false) := by
  refine returnsInHanded_of_change (C := Try.checked) own started (by kernel_rfl) Try.func3
    (ChangeSpec.witness6 (enc := enc) (C := Try.checked) false ⟨#[], #[.slice none 0 0, .slice none 0 0], []⟩ 8 (by kernel_rfl) (by kernel_rfl) (by kernel_rfl) (by kernel_rfl)) ?_
  intro W base args ds gs before hval0 hW hcnd _
  have hval : ∀ (j : Nat) t v, Try.f3.params[j]? = some t → args[j]? = some v → Value.okWide Try.prog W .any base t v := hval0
  have hW' := hW
  obtain ⟨p, q, hA0, hV, rfl, hfz, hnd⟩ := hW
  have hA : DataW.TrodAll enc Try.prog W 0 (fun _ => true) true Try.f3.params.toList args.toList ds p := hA0
  rw [Try.params3] at hA hval
  obtain ⟨v0, vs0, d0, ds0, p0, q0, hargs, rfl, rfl, h0, r0⟩ := trodAll_cons hA
  obtain ⟨v1, vs1, d1, ds1, p1, q1, rfl, rfl, rfl, h1, r1⟩ := trodAll_cons r0
  obtain ⟨rfl, rfl, rfl⟩ := trodAll_nil r1
  obtain rfl : args = #[v0, v1] := by cases args; simp_all
  obtain ⟨rfl, rfl⟩ := trodVars_none hV
  obtain ⟨a0, len0, cap0, rfl⟩ := okWide_slice Try.underlying22 (hval 0 22 v0 rfl rfl)
  have k0 := h0
  have lt0 : ∀ x ∈ p0, x.block < W.heap.size := by obtain ⟨m, hm⟩ := k0; exact DataW.trod_lt m _ _ _ hm
  obtain ⟨z0, w0⟩ : ∃ zs, IsRow .u8 W a0 len0 cap0 zs := by
    obtain ⟨fuel, hf⟩ := h0
    rcases open_ints Try.underlying22 Try.underlying5 (by kernel_rfl) hf with ⟨hcs, _⟩ | ⟨x, l, c, zs, hcs, _, hl, hm, hz, _, hcell, hwz⟩
    · simp [Value.cells] at hcs
      obtain ⟨rfl, rfl, rfl⟩ := hcs
      exact ⟨[], .inl ⟨rfl, rfl, rfl, rfl⟩⟩
    · simp [Value.cells] at hcs
      obtain ⟨rfl, rfl, rfl⟩ := hcs
      exact ⟨zs, .inr ⟨_, rfl, hl, hm, by simpa using hz, hcell, hwz⟩⟩
  obtain ⟨a1, len1, cap1, rfl⟩ := okWide_slice Try.underlying22 (hval 1 22 v1 rfl rfl)
  have k1 := h1
  have lt1 : ∀ x ∈ p1, x.block < W.heap.size := by obtain ⟨m, hm⟩ := k1; exact DataW.trod_lt m _ _ _ hm
  obtain ⟨z1, w1⟩ : ∃ zs, IsRow .u8 W a1 len1 cap1 zs := by
    obtain ⟨fuel, hf⟩ := h1
    rcases open_ints Try.underlying22 Try.underlying5 (by kernel_rfl) hf with ⟨hcs, _⟩ | ⟨x, l, c, zs, hcs, _, hl, hm, hz, _, hcell, hwz⟩
    · simp [Value.cells] at hcs
      obtain ⟨rfl, rfl, rfl⟩ := hcs
      exact ⟨[], .inl ⟨rfl, rfl, rfl, rfl⟩⟩
    · simp [Value.cells] at hcs
      obtain ⟨rfl, rfl, rfl⟩ := hcs
      exact ⟨zs, .inr ⟨_, rfl, hl, hm, by simpa using hz, hcell, hwz⟩⟩
  clear hA0 hval0
  refine (walk a0 len0 cap0 z0 a1 len1 cap1 z1 W w0 w1).mono fun e W' ⟨he, bel⟩ => ?_
  subst he
  exact ⟨_, rfl, _, _, _, [], _, [], hW', trodAll_mk1 (shut_bool Try.underlying4 _), (trodAll_cons_mk (Below.trod laidOut (by kernel_rfl) (of_decide_eq_true (by kernel_rfl)) k0 bel lt0) (trodAll_cons_mk (Below.trod laidOut (by kernel_rfl) (of_decide_eq_true (by kernel_rfl)) k1 bel lt1) trodAll_mk0)), rfl, bel.frame _, fun h => by cases h⟩

theorem over : Rows.fnCurveAddRow.holds Try.pinned (OpenSpec.ofChange Rows.fnCurveAddSpec) :=
  OpenClaim.holds_of_wide 3 Try.f3 rfl rfl rfl rfl rfl rfl rfl ⟨rfl, rfl, rfl, rfl, rfl⟩ rfl rfl rfl rfl rfl (by kernel_rfl) Try.func3 (by kernel_rfl)
    (of_decide_eq_true (by kernel_rfl)) (by unfold Func.isWrapper; first | (rw [if_pos (by decide +kernel)]; kernel_rfl) | (rw [if_neg (by decide +kernel)]; exact ⟨rfl, rfl⟩))
    (fun os started H enc _ => lifted os started H enc)

/-- ████ THE STATEMENT ████ -/
theorem proved : Rows.FnCurveAddSaid := over
#print axioms proved
end Go.Proofs.Ythpfehjjaamkkab.fnCurveAdd
