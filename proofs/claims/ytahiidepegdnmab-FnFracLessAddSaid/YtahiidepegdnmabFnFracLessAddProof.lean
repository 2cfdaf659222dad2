/- For every input, the law FnFracLessAdd of the given statements returns true over the program at this commit, and its arguments read afterwards as before: no condition. -/
import Derived.Test.YtahiidepegdnmabRows
import Derived.Test.YtahiidepegdnmabFracOps
import Derived.Test.YtahiidepegdnmabFracSpec
import Derived.Test.YtahiidepegdnmabFracDraws
import Derived.Test.YtahiidepegdnmabPut
import Derived.WalkKit
import Derived.ProofKit
import Derived.OpenShut
import Derived.ShutString
import Derived.ChangeOld
import Derived.Below
namespace Go.Proofs.Ytahiidepegdnmab.fnFracLessAdd
open Go.ChangeShapes Go.WideShapes Go.ChangeAt Go.RowKit
open Go.ChangeMaps (open_string shut_string)
set_option linter.unusedVariables false

theorem own : ownKnob Try.prog.godebug = none := by kernel_rfl
theorem laidOut : laidOutB Try.prog = true := by kernel_rfl

/-- WHAT THE WALK IS TOLD OF A SLICE OF INTEGERS THAT CAME IN: it is nil; or it leads to a row of 'cap' cells, the numbers 'zs' (the first 'len' are its elements, the rest its spare room), each fitting its kind. -/
def IsRow (k : IntKind) (w : World) (a : Option Addr) (len cap : Nat) (zs : List Int) : Prop :=
  (a = none ∧ len = 0 ∧ cap = 0 ∧ zs = []) ∨
  ∃ x, a = some x ∧ len ≤ cap ∧ cap ≤ maxLen ∧ zs.length = cap ∧ (∀ i, i < zs.length → w.cell? (x.add i) = some (.int k (zs.getD i 0))) ∧ ∀ n ∈ zs, (Lit.int k n).wf = true

set_option maxHeartbeats 16000000 in
theorem walk (a0 : Option Addr) (len0 cap0 : Nat) (z0 : List Int) (w : World) (w0 : IsRow .u8 w a0 len0 cap0 z0) :
    Calls Try.prog 7 #[.slice a0 len0 cap0] w fun e w' => e = .returned (.bool true) ∧ Below w.heap.size w w' := by
  have hB := bytes_of w0
  by_cases hl : 1048576 < len0
  · go_enter Try.func7, Try.ntmps7
    go_wp2_with fail
    go_ret
    exact ⟨rfl, Below.refl _ _⟩
  · have hm : len0 ≤ 1048576 := by omega
    go_enter Try.func7, Try.ntmps7
    go_wp2_with fail
    refine (DrawFracLess_any hB).mono ?_
    rintro e w1 ⟨a, b, c, d, rfl, ha, hc, b1⟩
    clear w0 hB
    have S := ((St.start b1).alloc a b).alloc c d
    go_wp2_with fail
    refine (implFracLess_any _ _ _ _ _).mono ?_
    rintro e w2 ⟨rfl, b2⟩
    replace S := S.next b2
    have r2 := S.holds
    (simp only [Holds, and_true] at r2; try simp only [World.size_alloc] at r2)
    go_wp2_with fail
    refine (specFracLess_any _ _ _ _ _).mono ?_
    rintro e w3 ⟨rfl, b3⟩
    replace S := S.next b3
    have r3 := S.holds
    (simp only [Holds, and_true] at r3; try simp only [World.size_alloc] at r3)
    clear r2 b2 b3
    cases hv : (fv a b && fv c d && decide (a * d < c * b))
    · go_wp2_with fail
      go_ret
      exact ⟨rfl, (by first | exact S.below | exact (S.alloc _ _).below | exact ((S.alloc _ _).alloc _ _).below | exact (((S.alloc _ _).alloc _ _).alloc _ _).below)⟩
    have fa : fv a b = true := by simp at hv; exact hv.1.1
    have fc : fv c d = true := by simp at hv; exact hv.1.2
    have hlt : a * d < c * b := by simp at hv; exact hv.2
    have ql := Lib.hid ((fq_lt fa fc).1 hlt)
    clear hlt
    go_wp2_with fail
    refine (implFracAdd_any _ _ _ _ _).mono ?_
    rintro e w4 ⟨n4, m4, k4, rfl, hr4, b4⟩
    replace S := (S.alloc 1 4).next b4
    have r4 := S.holds
    (simp only [Holds, and_true] at r4; try simp only [World.size_alloc] at r4)
    clear r3 b4
    go_wp2_with fail
    refine (implFracAdd_any _ _ _ _ _).mono ?_
    rintro e w5 ⟨n5, m5, k5, rfl, hr5, b5⟩
    replace S := (S.alloc n4 m4).next b5
    have r5 := S.holds
    (simp only [Holds, and_true] at r5; try simp only [World.size_alloc] at r5)
    clear r4 b5
    go_wp2_with fail
    refine (implFracAdd_any _ _ _ _ _).mono ?_
    rintro e w6 ⟨n6, m6, k6, rfl, hr6, b6⟩
    replace S := (S.alloc n5 m5).next b6
    have r6 := S.holds
    (simp only [Holds, and_true] at r6; try simp only [World.size_alloc] at r6)
    clear r5 b6
    replace S := S.alloc n6 m6
    have s3 := S.below.size
    try simp only [World.size_alloc] at s3
    have z2 : fq 2 1 = 2 := by rw [fq_whole]; rfl
    have z2' := Lib.hid z2
    clear z2
    have v2 : fv 2 1 = true := by decide
    go_wp2
    go_region_with (first
      | (go_at_call 23; refine (frac_any _ _).mono ?_; rintro e w7 ⟨rfl, b7⟩; (first | replace S := S.next b7 | replace S := S.drew.next b7 | replace S := (S.alloc 0 0).next b7 | replace S := (S.alloc 0 0).drew.next b7 | replace S := (S.drew.alloc 0 0).next b7); have r7 := S.holds; (simp only [Holds, and_true] at r7; try simp only [World.size_alloc] at r7); (try simp only [World.size_alloc] at S); have s7 := S.below.size)
      | (go_at_call 24; refine (implFracDiv_any _ _ _ _ _).mono ?_; rintro e w8 ⟨n8, m8, k8, rfl, hr8, b8⟩; (first | replace S := S.next b8 | replace S := S.drew.next b8 | replace S := (S.alloc 0 0).next b8 | replace S := (S.alloc 0 0).drew.next b8 | replace S := (S.drew.alloc 0 0).next b8); have r8 := S.holds; (simp only [Holds, and_true] at r8; try simp only [World.size_alloc] at r8); (try simp only [World.size_alloc] at S))
      | fail)
    all_goals
      clear hv
      rcases hr4 with ⟨rfl, v4, f4, q4⟩ | ⟨rfl, rfl, rfl, _⟩
      · rcases hr5 with ⟨rfl, v5, f5, q5⟩ | ⟨rfl, rfl, rfl, _⟩
        · have e1 : decide (n4 * m5 < n5 * m4) = true := by
            have : n4 * m5 < n5 * m4 := by rw [fq_lt f4 f5, q4, q5]; have := ql.out; grind
            simpa using this
          clear q4 q5 v4 v5
          rcases hr6 with ⟨rfl, v6, f6, q6⟩ | ⟨rfl, rfl, rfl, _⟩
          · rcases hr8 with ⟨rfl, v8, f8, q8⟩ | ⟨rfl, rfl, rfl, _⟩
            · have e2 : decide (a * m8 < n8 * b) = true := by
                have : a * m8 < n8 * b := by rw [fq_lt fa f8, q8, q6, z2'.out]; have := ql.out; grind
                simpa using this
              have e3 : decide (n8 * d < c * m8) = true := by
                have : n8 * d < c * m8 := by rw [fq_lt f8 fc, q8, q6, z2'.out]; have := ql.out; grind
                simpa using this
              clear q8 q6 v8 v6
              go_wp2_with (go_at_call 12; refine (implFracLess_any _ _ _ _ _).mono ?_; rintro e w9 ⟨rfl, b9⟩; (first | replace S := S.next b9 | replace S := (S.alloc _ _).next b9 | replace S := (S.put2 (by omega) (by simp only [Apart, and_true]; omega) _ _).next b9); have r9 := S.holds; (simp only [Holds, and_true] at r9; try simp only [World.size_alloc] at r9); clear b9)
              go_ret
              exact ⟨by first | rfl | simp, (by first | exact S.below | exact (S.alloc _ _).below | exact (S.put2 (by omega) (by simp only [Apart, and_true]; omega) _ _).below)⟩
            · clear q6 v6
              go_wp2_with (go_at_call 12; refine (implFracLess_any _ _ _ _ _).mono ?_; rintro e w9 ⟨rfl, b9⟩; (first | replace S := S.next b9 | replace S := (S.alloc _ _).next b9 | replace S := (S.put2 (by omega) (by simp only [Apart, and_true]; omega) _ _).next b9); have r9 := S.holds; (simp only [Holds, and_true] at r9; try simp only [World.size_alloc] at r9); clear b9)
              go_ret
              exact ⟨by first | rfl | simp, (by first | exact S.below | exact (S.alloc _ _).below | exact (S.put2 (by omega) (by simp only [Apart, and_true]; omega) _ _).below)⟩
          · skip
            go_wp2_with (go_at_call 12; refine (implFracLess_any _ _ _ _ _).mono ?_; rintro e w9 ⟨rfl, b9⟩; (first | replace S := S.next b9 | replace S := (S.alloc _ _).next b9 | replace S := (S.put2 (by omega) (by simp only [Apart, and_true]; omega) _ _).next b9); have r9 := S.holds; (simp only [Holds, and_true] at r9; try simp only [World.size_alloc] at r9); clear b9)
            go_ret
            exact ⟨by first | rfl | simp, (by first | exact S.below | exact (S.alloc _ _).below | exact (S.put2 (by omega) (by simp only [Apart, and_true]; omega) _ _).below)⟩
        · clear q4 v4
          rcases hr6 with ⟨rfl, v6, f6, q6⟩ | ⟨rfl, rfl, rfl, _⟩
          · rcases hr8 with ⟨rfl, v8, f8, q8⟩ | ⟨rfl, rfl, rfl, _⟩
            · have e2 : decide (a * m8 < n8 * b) = true := by
                have : a * m8 < n8 * b := by rw [fq_lt fa f8, q8, q6, z2'.out]; have := ql.out; grind
                simpa using this
              have e3 : decide (n8 * d < c * m8) = true := by
                have : n8 * d < c * m8 := by rw [fq_lt f8 fc, q8, q6, z2'.out]; have := ql.out; grind
                simpa using this
              clear q8 q6 v8 v6
              go_wp2_with (go_at_call 12; refine (implFracLess_any _ _ _ _ _).mono ?_; rintro e w9 ⟨rfl, b9⟩; (first | replace S := S.next b9 | replace S := (S.alloc _ _).next b9 | replace S := (S.put2 (by omega) (by simp only [Apart, and_true]; omega) _ _).next b9); have r9 := S.holds; (simp only [Holds, and_true] at r9; try simp only [World.size_alloc] at r9); clear b9)
              go_ret
              exact ⟨by first | rfl | simp, (by first | exact S.below | exact (S.alloc _ _).below | exact (S.put2 (by omega) (by simp only [Apart, and_true]; omega) _ _).below)⟩
            · clear q6 v6
              go_wp2_with (go_at_call 12; refine (implFracLess_any _ _ _ _ _).mono ?_; rintro e w9 ⟨rfl, b9⟩; (first | replace S := S.next b9 | replace S := (S.alloc _ _).next b9 | replace S := (S.put2 (by omega) (by simp only [Apart, and_true]; omega) _ _).next b9); have r9 := S.holds; (simp only [Holds, and_true] at r9; try simp only [World.size_alloc] at r9); clear b9)
              go_ret
              exact ⟨by first | rfl | simp, (by first | exact S.below | exact (S.alloc _ _).below | exact (S.put2 (by omega) (by simp only [Apart, and_true]; omega) _ _).below)⟩
          · skip
            go_wp2_with (go_at_call 12; refine (implFracLess_any _ _ _ _ _).mono ?_; rintro e w9 ⟨rfl, b9⟩; (first | replace S := S.next b9 | replace S := (S.alloc _ _).next b9 | replace S := (S.put2 (by omega) (by simp only [Apart, and_true]; omega) _ _).next b9); have r9 := S.holds; (simp only [Holds, and_true] at r9; try simp only [World.size_alloc] at r9); clear b9)
            go_ret
            exact ⟨by first | rfl | simp, (by first | exact S.below | exact (S.alloc _ _).below | exact (S.put2 (by omega) (by simp only [Apart, and_true]; omega) _ _).below)⟩
      · skip
        rcases hr6 with ⟨rfl, v6, f6, q6⟩ | ⟨rfl, rfl, rfl, _⟩
        · rcases hr8 with ⟨rfl, v8, f8, q8⟩ | ⟨rfl, rfl, rfl, _⟩
          · have e2 : decide (a * m8 < n8 * b) = true := by
              have : a * m8 < n8 * b := by rw [fq_lt fa f8, q8, q6, z2'.out]; have := ql.out; grind
              simpa using this
            have e3 : decide (n8 * d < c * m8) = true := by
              have : n8 * d < c * m8 := by rw [fq_lt f8 fc, q8, q6, z2'.out]; have := ql.out; grind
              simpa using this
            clear q8 q6 v8 v6
            go_wp2_with (go_at_call 12; refine (implFracLess_any _ _ _ _ _).mono ?_; rintro e w9 ⟨rfl, b9⟩; (first | replace S := S.next b9 | replace S := (S.alloc _ _).next b9 | replace S := (S.put2 (by omega) (by simp only [Apart, and_true]; omega) _ _).next b9); have r9 := S.holds; (simp only [Holds, and_true] at r9; try simp only [World.size_alloc] at r9); clear b9)
            go_ret
            exact ⟨by first | rfl | simp, (by first | exact S.below | exact (S.alloc _ _).below | exact (S.put2 (by omega) (by simp only [Apart, and_true]; omega) _ _).below)⟩
          · clear q6 v6
            go_wp2_with (go_at_call 12; refine (implFracLess_any _ _ _ _ _).mono ?_; rintro e w9 ⟨rfl, b9⟩; (first | replace S := S.next b9 | replace S := (S.alloc _ _).next b9 | replace S := (S.put2 (by omega) (by simp only [Apart, and_true]; omega) _ _).next b9); have r9 := S.holds; (simp only [Holds, and_true] at r9; try simp only [World.size_alloc] at r9); clear b9)
            go_ret
            exact ⟨by first | rfl | simp, (by first | exact S.below | exact (S.alloc _ _).below | exact (S.put2 (by omega) (by simp only [Apart, and_true]; omega) _ _).below)⟩
        · skip
          go_wp2_with (go_at_call 12; refine (implFracLess_any _ _ _ _ _).mono ?_; rintro e w9 ⟨rfl, b9⟩; (first | replace S := S.next b9 | replace S := (S.alloc _ _).next b9 | replace S := (S.put2 (by omega) (by simp only [Apart, and_true]; omega) _ _).next b9); have r9 := S.holds; (simp only [Holds, and_true] at r9; try simp only [World.size_alloc] at r9); clear b9)
          go_ret
          exact ⟨by first | rfl | simp, (by first | exact S.below | exact (S.alloc _ _).below | exact (S.put2 (by omega) (by simp only [Apart, and_true]; omega) _ _).below)⟩

set_option maxRecDepth 100000 in
theorem lifted (os : Os) (started : os.Started) (H : Type) (enc : TypeId × Value → H) :
    ReturnsInHanded {} Try.checked os 7 .any (Rows.fnFracLessAddSpec.pre6 enc Try.prog Try.f7 Rows.fnFracLessAddRow.domain false) (Rows.fnFracLessAddSpec.post enc Try.prog Try.f7 false true false false) := by
  refine returnsInHanded_of_change (C := Try.checked) own started (by kernel_rfl) Try.func7
    (ChangeSpec.witness6 (enc := enc) (C := Try.checked) false ⟨#[], #[.slice none 0 0], []⟩ 8 (by kernel_rfl) (by kernel_rfl) (by kernel_rfl) (by kernel_rfl)) ?_
  intro W base args ds gs before hval0 hW hcnd _
  have hval : ∀ (j : Nat) t v, Try.f7.params[j]? = some t → args[j]? = some v → Value.okWide Try.prog W .any base t v := hval0
  have hW' := hW
  obtain ⟨p, q, hA0, hV, rfl, hfz, hnd⟩ := hW
  have hA : DataW.TrodAll enc Try.prog W 0 (fun _ => true) true Try.f7.params.toList args.toList ds p := hA0
  rw [Try.params7] at hA hval
  obtain ⟨v0, vs0, d0, ds0, p0, q0, hargs, rfl, rfl, h0, r0⟩ := trodAll_cons hA
  obtain ⟨rfl, rfl, rfl⟩ := trodAll_nil r0
  obtain rfl : args = #[v0] := by cases args; simp_all
  obtain ⟨rfl, rfl⟩ := trodVars_none hV
  obtain ⟨a0, len0, cap0, rfl⟩ := okWide_slice Try.underlying22 (hval 0 22 v0 rfl rfl)
  have k0 := h0
  have lt0 : ∀ x ∈ p0, x.block < W.heap.size := by obtain ⟨m, hm⟩ := k0; exact DataW.trod_lt m _ _ _ hm
  obtain ⟨z0, w0⟩ : ∃ zs, IsRow .u8 W a0 len0 cap0 zs := by
    obtain ⟨fuel, hf⟩ := h0
    rcases open_ints Try.underlying22 Try.underlying5 (by kernel_rfl) hf with ⟨hcs, _⟩ | ⟨x, l, c, zs, hcs, _, hl, hm, hz, _, hcell, hwz⟩
    · simp [Value.cells] at hcs
      obtain ⟨rfl, rfl, rfl⟩ := hcs
      exact ⟨[], .inl ⟨rfl, rfl, rfl, rfl⟩⟩
    · simp [Value.cells] at hcs
      obtain ⟨rfl, rfl, rfl⟩ := hcs
      exact ⟨zs, .inr ⟨_, rfl, hl, hm, by simpa using hz, hcell, hwz⟩⟩
  clear hA0 hval0
  refine (walk a0 len0 cap0 z0 W w0).mono fun e W' ⟨he, bel⟩ => ?_
  subst he
  exact ⟨_, rfl, _, _, _, [], _, [], hW', trodAll_mk1 (shut_bool Try.underlying4 _), (trodAll_cons_mk (Below.trod laidOut (by kernel_rfl) (of_decide_eq_true (by kernel_rfl)) k0 bel lt0) trodAll_mk0), rfl, bel.frame _, fun h => by cases h⟩

theorem over : Rows.fnFracLessAddRow.holds Try.pinned (OpenSpec.ofChange Rows.fnFracLessAddSpec) :=
  OpenClaim.holds_of_wide 7 Try.f7 rfl rfl rfl rfl rfl rfl rfl ⟨rfl, rfl, rfl, rfl, rfl⟩ rfl rfl rfl rfl rfl (by kernel_rfl) Try.func7 (by kernel_rfl)
    (of_decide_eq_true (by kernel_rfl)) (by unfold Func.isWrapper; first | (rw [if_pos (by decide +kernel)]; kernel_rfl) | (rw [if_neg (by decide +kernel)]; exact ⟨rfl, rfl⟩))
    (fun os started H enc _ => lifted os started H enc)

/-- ████ THE STATEMENT ████ -/
theorem proved : Rows.FnFracLessAddSaid := over
#print axioms proved
end Go.Proofs.Ytahiidepegdnmab.fnFracLessAdd
