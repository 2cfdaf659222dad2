/- For every input, the law FnFracFloorAdd of the given statements returns true over the program at this commit, and its arguments read afterwards as before: no condition. -/
import Derived.Test.YtahiidepegdnmabRows
import Derived.Test.YtahiidepegdnmabFloor
import Derived.Test.YtahiidepegdnmabFracOps
import Derived.Test.YtahiidepegdnmabFracDraws
import Derived.Test.YtahiidepegdnmabPut
import Derived.WalkKit
import Derived.ProofKit
import Derived.OpenShut
import Derived.ShutString
import Derived.ChangeOld
import Derived.Below
namespace Go.Proofs.Ytahiidepegdnmab.fnFracFloorAdd
open Go.ChangeShapes Go.WideShapes Go.ChangeAt Go.RowKit
open Go.ChangeMaps (open_string shut_string)
set_option linter.unusedVariables false

theorem own : ownKnob Try.prog.godebug = none := by kernel_rfl
theorem laidOut : laidOutB Try.prog = true := by kernel_rfl

/-- WHAT THE WALK IS TOLD OF A SLICE OF INTEGERS THAT CAME IN: it is nil; or it leads to a row of 'cap' cells, the numbers 'zs' (the first 'len' are its elements, the rest its spare room), each fitting its kind. -/
def IsRow (k : IntKind) (w : World) (a : Option Addr) (len cap : Nat) (zs : List Int) : Prop :=
  (a = none ∧ len = 0 ∧ cap = 0 ∧ zs = []) ∨
  ∃ x, a = some x ∧ len ≤ cap ∧ cap ≤ maxLen ∧ zs.length = cap ∧ (∀ i, i < zs.length → w.cell? (x.add i) = some (.int k (zs.getD i 0))) ∧ ∀ n ∈ zs, (Lit.int k n).wf = true

set_option maxHeartbeats 4000000 in
theorem walk (a0 : Option Addr) (len0 cap0 : Nat) (z0 : List Int) (a1 : Option Addr) (len1 cap1 : Nat) (z1 : List Int) (w : World) (w0 : IsRow .u8 w a0 len0 cap0 z0) (w1 : IsRow .u8 w a1 len1 cap1 z1) :
    Calls Try.prog 8 #[.slice a0 len0 cap0, .slice a1 len1 cap1] w fun e w' => e = .returned (.bool true) ∧ Below w.heap.size w w' := by
  have hB := bytes_of w0
  have hB1 := bytes_len (bytes_of w1)
  unfold maxLen at hB1
  by_cases hl : 1048576 < len0
  · have hd : decide (1048576 < len0) = true := by simpa using hl
    go_enter Try.func8, Try.ntmps8
    go_wp2_with fail
    go_ret
    exact ⟨rfl, Below.refl _ _⟩
  have hd : decide (1048576 < len0) = false := by simpa using hl
  by_cases hl1 : 1048576 < len1
  · go_enter Try.func8, Try.ntmps8
    go_wp2_with fail
    go_ret
    exact ⟨rfl, Below.refl _ _⟩
  · have hm : len0 ≤ 1048576 := by omega
    have hm1 : len1 ≤ 1048576 := by omega
    clear hB1
    go_enter Try.func8, Try.ntmps8
    go_wp2_with fail
    refine (DrawFracFloor_any hB).mono ?_
    rintro e u1 ⟨a, b, rfl, ha, b1⟩
    clear w0 w1 hB
    have S := (St.start b1).alloc a b
    go_wp2_with fail
    refine (implFracFloor_any _ _ _).mono ?_
    rintro e w2 ⟨rfl, b2⟩
    replace S := S.next b2
    have r2 := S.holds
    simp only [Holds, and_true] at r2
    go_wp2_with fail
    refine (specFracFloor_any _ _ _).mono ?_
    rintro e w3 ⟨rfl, b3⟩
    replace S := S.next b3
    have r3 := S.holds
    simp only [Holds, and_true] at r3
    clear r2 b2 b3
    cases hv : fv a b
    · go_wp2_with fail
      go_ret
      exact ⟨by simp, S.below⟩
    have p := fv_part hv
    have q := div_part hv
    have kfl := fl_yes hv
    have ng := fv_neg' hv
    have ng1 := ng.1
    have hk : (len1 : Int) % 50 = ((len1 % 50 : Nat) : Int) := by omega
    have fl2 := Lib.hid (floor_flip hv)
    have vk : fv ((len1 : Int) % 50) 1 = true := by rw [fv_iff]; refine ⟨by omega, by omega, by omega, by omega, by simp⟩
    have hv' := Lib.hid hv
    have qf : -1000000000 ≤ fl a b ∧ fl a b ≤ 1000000000 := by rw [kfl]; omega
    clear ng kfl hk q
    have s3 := S.below.size
    try simp only [World.size_alloc] at s3
    go_wp2
    go_region_with (first
      | (go_at_call 23; refine (frac_any _ _).mono ?_; rintro e w4 ⟨rfl, b4⟩; (first | replace S := S.next b4 | replace S := S.drew.next b4 | replace S := (S.alloc 0 0).next b4 | replace S := (S.alloc 0 0).drew.next b4 | replace S := (S.drew.alloc 0 0).next b4); have r4 := S.holds; (simp only [Holds, and_true] at r4; try simp only [World.size_alloc] at r4); (try simp only [World.size_alloc] at S); have s4 := S.below.size)
      | (go_at_call 21; refine (implFracAdd_any _ _ _ _ _).mono ?_; rintro e w5 ⟨n5, m5, k5, rfl, hr5, b5⟩; (first | replace S := S.next b5 | replace S := S.drew.next b5 | replace S := (S.alloc 0 0).next b5 | replace S := (S.alloc 0 0).drew.next b5 | replace S := (S.drew.alloc 0 0).next b5); have r5 := S.holds; (simp only [Holds, and_true] at r5; try simp only [World.size_alloc] at r5); (try simp only [World.size_alloc] at S))
      | fail)
    all_goals
      go_wp2_with fail
      refine (implFracFloor_any _ _ _).mono ?_
      rintro e w6 ⟨rfl, b6⟩
      first | replace S := S.next b6 | replace S := (S.alloc _ _).next b6 | replace S := (S.put2 (by omega) (by simp only [Apart, and_true]; omega) _ _).next b6
      have r6 := S.holds
      (simp only [Holds, and_true] at r6; try simp only [World.size_alloc] at r6)
      go_wp2_with fail
      refine (implFracFloor_any _ _ _).mono ?_
      rintro e w7 ⟨rfl, b7⟩
      first | replace S := S.next b7 | replace S := (S.alloc (-a) b).next b7
      have r7 := S.holds
      (simp only [Holds, and_true] at r7; try simp only [World.size_alloc] at r7)
      rcases hr5 with ⟨rfl, v5, f5, q5⟩ | ⟨rfl, rfl, rfl, _⟩
      · have e5 : (fl n5 m5 == fl a b + (len1 : Int) % 50) = true := by simpa using floor_shift hv'.out f5 q5
        clear q5 v5
        go_wp2_with fail
        all_goals (go_ret; exact ⟨by have z := fl2.out; first | rfl | (simp; omega) | omega, (by first | exact S.below | exact (S.alloc _ _).below | exact ((S.alloc _ _).alloc _ _).below | exact (((S.alloc _ _).alloc _ _).alloc _ _).below)⟩)
      · go_wp2_with fail
        all_goals (go_ret; exact ⟨by have z := fl2.out; first | rfl | (simp; omega) | omega, (by first | exact S.below | exact (S.alloc _ _).below | exact ((S.alloc _ _).alloc _ _).below | exact (((S.alloc _ _).alloc _ _).alloc _ _).below)⟩)

set_option maxRecDepth 100000 in
theorem lifted (os : Os) (started : os.Started) (H : Type) (enc : TypeId × Value → H) :
    ReturnsInHanded {} Try.checked os 8 .any (Rows.fnFracFloorAddSpec.pre6 enc Try.prog Try.f8 Rows.fnFracFloorAddRow.domain false) (Rows.fnFracFloorAddSpec.post enc Try.prog Try.f8 false true false false) := by
  refine returnsInHanded_of_change (C := Try.checked) own started (by kernel_rfl) Try.func8
    (ChangeSpec.witness6 (enc := enc) (C := Try.checked) false ⟨#[], #[.slice none 0 0, .slice none 0 0], []⟩ 8 (by kernel_rfl) (by kernel_rfl) (by kernel_rfl) (by kernel_rfl)) ?_
  intro W base args ds gs before hval0 hW hcnd _
  have hval : ∀ (j : Nat) t v, Try.f8.params[j]? = some t → args[j]? = some v → Value.okWide Try.prog W .any base t v := hval0
  have hW' := hW
  obtain ⟨p, q, hA0, hV, rfl, hfz, hnd⟩ := hW
  have hA : DataW.TrodAll enc Try.prog W 0 (fun _ => true) true Try.f8.params.toList args.toList ds p := hA0
  rw [Try.params8] at hA hval
  obtain ⟨v0, vs0, d0, ds0, p0, q0, hargs, rfl, rfl, h0, r0⟩ := trodAll_cons hA
  obtain ⟨v1, vs1, d1, ds1, p1, q1, rfl, rfl, rfl, h1, r1⟩ := trodAll_cons r0
  obtain ⟨rfl, rfl, rfl⟩ := trodAll_nil r1
  obtain rfl : args = #[v0, v1] := by cases args; simp_all
  obtain ⟨rfl, rfl⟩ := trodVars_none hV
  obtain ⟨a0, len0, cap0, rfl⟩ := okWide_slice Try.underlying22 (hval 0 22 v0 rfl rfl)
  have k0 := h0
  have lt0 : ∀ x ∈ p0, x.block < W.heap.size := by obtain ⟨m, hm⟩ := k0; exact DataW.trod_lt m _ _ _ hm
  obtain ⟨z0, w0⟩ : ∃ zs, IsRow .u8 W a0 len0 cap0 zs := by
    obtain ⟨fuel, hf⟩ := h0
    rcases open_ints Try.underlying22 Try.underlying5 (by kernel_rfl) hf with ⟨hcs, _⟩ | ⟨x, l, c, zs, hcs, _, hl, hm, hz, _, hcell, hwz⟩
    · simp [Value.cells] at hcs
      obtain ⟨rfl, rfl, rfl⟩ := hcs
      exact ⟨[], .inl ⟨rfl, rfl, rfl, rfl⟩⟩
    · simp [Value.cells] at hcs
      obtain ⟨rfl, rfl, rfl⟩ := hcs
      exact ⟨zs, .inr ⟨_, rfl, hl, hm, by simpa using hz, hcell, hwz⟩⟩
  obtain ⟨a1, len1, cap1, rfl⟩ := okWide_slice Try.underlying22 (hval 1 22 v1 rfl rfl)
  have k1 := h1
  have lt1 : ∀ x ∈ p1, x.block < W.heap.size := by obtain ⟨m, hm⟩ := k1; exact DataW.trod_lt m _ _ _ hm
  obtain ⟨z1, w1⟩ : ∃ zs, IsRow .u8 W a1 len1 cap1 zs := by
    obtain ⟨fuel, hf⟩ := h1
    rcases open_ints Try.underlying22 Try.underlying5 (by kernel_rfl) hf with ⟨hcs, _⟩ | ⟨x, l, c, zs, hcs, _, hl, hm, hz, _, hcell, hwz⟩
    · simp [Value.cells] at hcs
      obtain ⟨rfl, rfl, rfl⟩ := hcs
      exact ⟨[], .inl ⟨rfl, rfl, rfl, rfl⟩⟩
    · simp [Value.cells] at hcs
      obtain ⟨rfl, rfl, rfl⟩ := hcs
      exact ⟨zs, .inr ⟨_, rfl, hl, hm, by simpa using hz, hcell, hwz⟩⟩
  clear hA0 hval0
  refine (walk a0 len0 cap0 z0 a1 len1 cap1 z1 W w0 w1).mono fun e W' ⟨he, bel⟩ => ?_
  subst he
  exact ⟨_, rfl, _, _, _, [], _, [], hW', trodAll_mk1 (shut_bool Try.underlying4 _), (trodAll_cons_mk (Below.trod laidOut (by kernel_rfl) (of_decide_eq_true (by kernel_rfl)) k0 bel lt0) (trodAll_cons_mk (Below.trod laidOut (by kernel_rfl) (of_decide_eq_true (by kernel_rfl)) k1 bel lt1) trodAll_mk0)), rfl, bel.frame _, fun h => by cases h⟩

theorem over : Rows.fnFracFloorAddRow.holds Try.pinned (OpenSpec.ofChange Rows.fnFracFloorAddSpec) :=
  OpenClaim.holds_of_wide 8 Try.f8 rfl rfl rfl rfl rfl rfl rfl ⟨rfl, rfl, rfl, rfl, rfl⟩ rfl rfl rfl rfl rfl (by kernel_rfl) Try.func8 (by kernel_rfl)
    (of_decide_eq_true (by kernel_rfl)) (by unfold Func.isWrapper; first | (rw [if_pos (by decide +kernel)]; kernel_rfl) | (rw [if_neg (by decide +kernel)]; exact ⟨rfl, rfl⟩))
    (fun os started H enc _ => lifted os started H enc)

/-- ████ THE STATEMENT ████ -/
theorem proved : Rows.FnFracFloorAddSaid := over
#print axioms proved
end Go.Proofs.Ytahiidepegdnmab.fnFracFloorAdd
