/- For every input, the law FnYears of the given statements returns true over the program at this commit, and its arguments read afterwards as before: no condition. -/
import Derived.Test.YtihgfhddljicaabRows
import Derived.Test.YtihgfhddljicaabLawC
import Derived.WalkKit
import Derived.ProofKit
import Derived.OpenShut
import Derived.ShutString
import Derived.ChangeOld
import Derived.Below
namespace Go.Proofs.Ytihgfhddljicaab.fnYears
open Go.ChangeShapes Go.WideShapes Go.ChangeAt Go.RowKit
open Go.ChangeMaps (open_string shut_string)
set_option linter.unusedVariables false

theorem own : ownKnob Try.prog.godebug = none := by kernel_rfl
theorem laidOut : laidOutB Try.prog = true := by kernel_rfl

/-- WHAT THE WALK IS TOLD OF A SLICE OF INTEGERS THAT CAME IN: it is nil; or it leads to a row of 'cap' cells, the numbers 'zs' (the first 'len' are its elements, the rest its spare room), each fitting its kind. -/
def IsRow (k : IntKind) (w : World) (a : Option Addr) (len cap : Nat) (zs : List Int) : Prop :=
  (a = none ∧ len = 0 ∧ cap = 0 ∧ zs = []) ∨
  ∃ x, a = some x ∧ len ≤ cap ∧ cap ≤ maxLen ∧ zs.length = cap ∧ (∀ i, i < zs.length → w.cell? (x.add i) = some (.int k (zs.getD i 0))) ∧ ∀ n ∈ zs, (Lit.int k n).wf = true

set_option maxRecDepth 100000 in
set_option maxHeartbeats 3200000 in
theorem walk (a0 : Option Addr) (len0 cap0 : Nat) (z0 : List Int) (w : World) (w0 : IsRow .u8 w a0 len0 cap0 z0) :
    Calls Try.prog 5 #[.slice a0 len0 cap0] w fun e w' => e = .returned (.bool true) ∧ Below w.heap.size w w' := by
  have hB := bytes_of w0
  by_cases hl : 1048576 < len0
  · have hdec : decide (1048576 < len0) = true := by simpa using hl
    go_enter Try.func5, Try.ntmps5
    go_wp2_with fail
    go_ret
    exact ⟨rfl, Below.refl _ _⟩
  have hdec : decide (1048576 < len0) = false := by simpa using hl
  have hm : len0 ≤ 1048576 := by omega
  go_enter Try.func5, Try.ntmps5
  go_wp2_with fail
  refine (DrawCutsYears_any hB).mono ?_
  rintro e wv1 ⟨n, lo, mo, rfl, b1⟩
  clear w0 hB
  have BB := Lib.hid b1
  clear b1
  obtain ⟨z, hz⟩ : ∃ x : Int, manyB n lo mo = x := ⟨_, rfl⟩
  by_cases hneg : z < 1
  · have HV := Lib.hid (yearsV_no (n := n) (lo := lo) (mo := mo) (by omega))
    clear hz
    go_wp2_with fail
    refine (yearsI_is HV.out _).mono ?_
    rintro e wv2 ⟨rfl, b9⟩
    replace BB := Lib.hid (BB.out.trans (b9.mono BB.out.size))
    clear b9
    go_wp2_with fail
    refine (yearsS_is HV.out _).mono ?_
    rintro e wv3 ⟨rfl, b9⟩
    replace BB := Lib.hid (BB.out.trans (b9.mono BB.out.size))
    clear b9
    go_wp2_with fail
    go_ret
    exact ⟨by first | rfl | (simp; done) | (simp; omega), BB.out⟩
  · obtain ⟨n, a, b, rfl, rfl, rfl, n1, n16, a1, ab, b16⟩ := many_nat (n := n) (lo := lo) (mo := mo) (by omega)
    have hm1 : 1 ≤ manyB n a b := by omega
    have HV := Lib.hid (yearsV_yes (n := n) (a := a) (b := b) (by omega) hm1)
    have hf := years_facts n1 n16 a1 ab b16 hm1
    obtain ⟨s, hs⟩ : ∃ s, (n + b - 1) / b = s := ⟨_, rfl⟩
    obtain ⟨t, ht⟩ : ∃ t, n / a = t := ⟨_, rfl⟩
    rw [hs, ht] at HV
    simp only [hs, ht] at hf
    clear hz hneg hs ht hm1
    go_wp2_with fail
    refine (yearsI_is HV.out _).mono ?_
    rintro e wv2 ⟨rfl, b9⟩
    replace BB := Lib.hid (BB.out.trans (b9.mono BB.out.size))
    clear b9
    go_wp2_with fail
    refine (yearsS_is HV.out _).mono ?_
    rintro e wv3 ⟨rfl, b9⟩
    replace BB := Lib.hid (BB.out.trans (b9.mono BB.out.size))
    clear b9
    obtain ⟨f1, f2, f3, f4, f5, f6, f7, f8⟩ := hf
    have q1 := Nat.mul_le_mul (show s ≤ 16 by omega) b16
    have q2 := Nat.mul_le_mul (show t ≤ 16 by omega) (show a ≤ 16 by omega)
    have q3 := Nat.mul_le_mul (show t + 1 ≤ 17 by omega) (show a ≤ 16 by omega)
    have q4 := Nat.mul_le_mul (show s - 1 ≤ 16 by omega) b16
    have m1 : (s : Int) * (b : Int) = ((s * b : Nat) : Int) := (Int.natCast_mul _ _).symm
    have m2 : (t : Int) * (a : Int) = ((t * a : Nat) : Int) := (Int.natCast_mul _ _).symm
    have m3 : ((t : Int) + 1) * (a : Int) = (((t + 1) * a : Nat) : Int) := by rw [Int.natCast_mul, Int.natCast_add]; rfl
    have m4 : ((s : Int) - 1) * (b : Int) = (((s - 1) * b : Nat) : Int) := by rw [Int.natCast_mul, show ((s - 1 : Nat) : Int) = (s : Int) - 1 by omega]
    have w1 : IntKind.i64.wrap ((s : Int) * (b : Int)) = ((s * b : Nat) : Int) := by rw [m1]; exact IntWalk.i64_in _ (by omega)
    have w2 : IntKind.i64.wrap ((t : Int) * (a : Int)) = ((t * a : Nat) : Int) := by rw [m2]; exact IntWalk.i64_in _ (by omega)
    have w3 : IntKind.i64.wrap (((t : Int) + 1) * (a : Int)) = (((t + 1) * a : Nat) : Int) := by rw [m3]; exact IntWalk.i64_in _ (by omega)
    have w4 : IntKind.i64.wrap (((s : Int) - 1) * (b : Int)) = (((s - 1) * b : Nat) : Int) := by rw [m4]; exact IntWalk.i64_in _ (by omega)
    have w5 : IntKind.i64.wrap ((t : Int) + 1) = (t : Int) + 1 := IntWalk.i64_in _ (by omega)
    have w6 : IntKind.i64.wrap ((s : Int) - 1) = (s : Int) - 1 := IntWalk.i64_in _ (by omega)
    obtain ⟨x1, hx1⟩ : ∃ x, s * b = x := ⟨_, rfl⟩
    obtain ⟨x2, hx2⟩ : ∃ x, t * a = x := ⟨_, rfl⟩
    obtain ⟨x3, hx3⟩ : ∃ x, (t + 1) * a = x := ⟨_, rfl⟩
    obtain ⟨x4, hx4⟩ : ∃ x, (s - 1) * b = x := ⟨_, rfl⟩
    have X1 := Lib.hid hx1
    rw [hx1] at w1 f1; rw [hx2] at w2 f2; rw [hx3] at w3 f6; rw [hx4] at w4 f5
    have g1 : (n : Int) ≤ (x1 : Int) := by omega
    have g2 : (x2 : Int) ≤ (n : Int) := by omega
    have g3 : (1 : Int) ≤ (s : Int) := by omega
    have g4 : (s : Int) ≤ (t : Int) := by omega
    have g5 : (n : Int) < (x3 : Int) := by omega
    clear m1 m2 m3 m4 hx1 hx2 hx3 hx4 q1 q2 q3 q4
    rcases f5 with f5 | f5
    · subst f5
      have g7 : n ≤ b := by have := X1.out; omega
      have g8 : (n : Int) ≤ (b : Int) := by omega
      go_wp2_with fail
      go_ret
      exact ⟨by first | rfl | (simp; done) | (simp; omega), BB.out⟩
    · have g6 : (x4 : Int) < (n : Int) := by omega
      by_cases s1 : s = 1
      · subst s1
        have g7 : n ≤ b := by have := X1.out; omega
        have g8 : (n : Int) ≤ (b : Int) := by omega
        go_wp2_with fail
        go_ret
        exact ⟨by first | rfl | (simp; done) | (simp; omega), BB.out⟩
      · have s0 : ((s : Int) == 1) = false := by simp; omega
        go_wp2_with fail
        go_ret
        exact ⟨by first | rfl | (simp; done) | (simp; omega), BB.out⟩

set_option maxRecDepth 100000 in
theorem lifted (os : Os) (started : os.Started) (H : Type) (enc : TypeId × Value → H) :
    ReturnsInHanded {} Try.checked os 5 .any (Rows.fnYearsSpec.pre6 enc Try.prog Try.f5 Rows.fnYearsRow.domain false) (Rows.fnYearsSpec.post enc Try.prog Try.f5 false true false false) := by
  refine returnsInHanded_of_change (C := Try.checked) own started (by kernel_rfl) Try.func5
    (ChangeSpec.witness6 (enc := enc) (C := Try.checked) false ⟨#[], #[.slice none 0 0], []⟩ 8 (by kernel_rfl) (by kernel_rfl) (by kernel_rfl) (by kernel_rfl)) ?_
  intro W base args ds gs before hval0 hW hcnd _
  have hval : ∀ (j : Nat) t v, Try.f5.params[j]? = some t → args[j]? = some v → Value.okWide Try.prog W .any base t v := hval0
  have hW' := hW
  obtain ⟨p, q, hA0, hV, rfl, hfz, hnd⟩ := hW
  have hA : DataW.TrodAll enc Try.prog W 0 (fun _ => true) true Try.f5.params.toList args.toList ds p := hA0
  rw [Try.params5] at hA hval
  obtain ⟨v0, vs0, d0, ds0, p0, q0, hargs, rfl, rfl, h0, r0⟩ := trodAll_cons hA
  obtain ⟨rfl, rfl, rfl⟩ := trodAll_nil r0
  obtain rfl : args = #[v0] := by cases args; simp_all
  obtain ⟨rfl, rfl⟩ := trodVars_none hV
  obtain ⟨a0, len0, cap0, rfl⟩ := okWide_slice Try.underlying22 (hval 0 22 v0 rfl rfl)
  have k0 := h0
  have lt0 : ∀ x ∈ p0, x.block < W.heap.size := by obtain ⟨m, hm⟩ := k0; exact DataW.trod_lt m _ _ _ hm
  obtain ⟨z0, w0⟩ : ∃ zs, IsRow .u8 W a0 len0 cap0 zs := by
    obtain ⟨fuel, hf⟩ := h0
    rcases open_ints Try.underlying22 Try.underlying5 (by kernel_rfl) hf with ⟨hcs, _⟩ | ⟨x, l, c, zs, hcs, _, hl, hm, hz, _, hcell, hwz⟩
    · simp [Value.cells] at hcs
      obtain ⟨rfl, rfl, rfl⟩ := hcs
      exact ⟨[], .inl ⟨rfl, rfl, rfl, rfl⟩⟩
    · simp [Value.cells] at hcs
      obtain ⟨rfl, rfl, rfl⟩ := hcs
      exact ⟨zs, .inr ⟨_, rfl, hl, hm, by simpa using hz, hcell, hwz⟩⟩
  clear hA0 hval0
  refine (walk a0 len0 cap0 z0 W w0).mono fun e W' ⟨he, bel⟩ => ?_
  subst he
  exact ⟨_, rfl, _, _, _, [], _, [], hW', trodAll_mk1 (shut_bool Try.underlying4 _), (trodAll_cons_mk (Below.trod laidOut (by kernel_rfl) (of_decide_eq_true (by kernel_rfl)) k0 bel lt0) trodAll_mk0), rfl, bel.frame _, fun h => by cases h⟩

theorem over : Rows.fnYearsRow.holds Try.pinned (OpenSpec.ofChange Rows.fnYearsSpec) :=
  OpenClaim.holds_of_wide 5 Try.f5 rfl rfl rfl rfl rfl rfl rfl ⟨rfl, rfl, rfl, rfl, rfl⟩ rfl rfl rfl rfl rfl (by kernel_rfl) Try.func5 (by kernel_rfl)
    (of_decide_eq_true (by kernel_rfl)) (by unfold Func.isWrapper; first | (rw [if_pos (by decide +kernel)]; kernel_rfl) | (rw [if_neg (by decide +kernel)]; exact ⟨rfl, rfl⟩))
    (fun os started H enc _ => lifted os started H enc)

/-- ████ THE STATEMENT ████ -/
theorem proved : Rows.FnYearsSaid := over
#print axioms proved
end Go.Proofs.Ytihgfhddljicaab.fnYears
