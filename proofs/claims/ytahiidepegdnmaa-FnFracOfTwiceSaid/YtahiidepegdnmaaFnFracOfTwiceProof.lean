/- For every input, the law FnFracOfTwice of the given statements returns true over the program at this commit, and its arguments read afterwards as before: no condition. -/
import Derived.Test.YtahiidepegdnmaaRows
import Derived.Test.YtahiidepegdnmaaFracOps
import Derived.Test.YtahiidepegdnmaaFracSpec
import Derived.Test.YtahiidepegdnmaaFracOfDraw
import Derived.Test.YtahiidepegdnmaaHolds
import Derived.WalkKit
import Derived.ProofKit
import Derived.OpenShut
import Derived.ShutString
import Derived.ChangeOld
import Derived.Below
namespace Go.Proofs.Ytahiidepegdnmaa.fnFracOfTwice
open Go.ChangeShapes Go.WideShapes Go.ChangeAt Go.RowKit
open Go.ChangeMaps (open_string shut_string)
set_option linter.unusedVariables false

theorem own : ownKnob Try.prog.godebug = none := by kernel_rfl
theorem laidOut : laidOutB Try.prog = true := by kernel_rfl

/-- WHAT THE WALK IS TOLD OF A SLICE OF INTEGERS THAT CAME IN: it is nil; or it leads to a row of 'cap' cells, the numbers 'zs' (the first 'len' are its elements, the rest its spare room), each fitting its kind. -/
def IsRow (k : IntKind) (w : World) (a : Option Addr) (len cap : Nat) (zs : List Int) : Prop :=
  (a = none ∧ len = 0 ∧ cap = 0 ∧ zs = []) ∨
  ∃ x, a = some x ∧ len ≤ cap ∧ cap ≤ maxLen ∧ zs.length = cap ∧ (∀ i, i < zs.length → w.cell? (x.add i) = some (.int k (zs.getD i 0))) ∧ ∀ n ∈ zs, (Lit.int k n).wf = true

set_option maxHeartbeats 2000000 in
theorem walk (a0 : Option Addr) (len0 cap0 : Nat) (z0 : List Int) (a1 : Option Addr) (len1 cap1 : Nat) (z1 : List Int) (w : World) (w0 : IsRow .u8 w a0 len0 cap0 z0) (w1 : IsRow .u8 w a1 len1 cap1 z1) :
    Calls Try.prog 4 #[.slice a0 len0 cap0, .slice a1 len1 cap1] w fun e w' => e = .returned (.bool true) ∧ Below w.heap.size w w' := by
  have hB := bytes_of w0
  have hB1 := bytes_len (bytes_of w1)
  unfold maxLen at hB1
  by_cases hl : 1048576 < len0
  · have hd : decide (1048576 < len0) = true := by simpa using hl
    go_enter Try.func4, Try.ntmps4
    go_wp2_with fail
    go_ret
    exact ⟨rfl, Below.refl _ _⟩
  have hd : decide (1048576 < len0) = false := by simpa using hl
  by_cases hl1 : 1048576 < len1
  · go_enter Try.func4, Try.ntmps4
    go_wp2_with fail
    go_ret
    exact ⟨rfl, Below.refl _ _⟩
  · have hm : len0 ≤ 1048576 := by omega
    have hm1 : len1 ≤ 1048576 := by omega
    clear hB1
    go_enter Try.func4, Try.ntmps4
    go_wp2_with fail
    refine (DrawFracOf_any hB).mono ?_
    rintro e u1 ⟨a, b, rfl, ha, b1⟩
    clear w0 w1 hB
    have S := St.start b1
    go_wp2_with fail
    refine (implFracOf_any _ _ _).mono ?_
    rintro e w2 ⟨n, m, ok, rfl, hr, b2⟩
    replace S := (S.next b2).alloc n m
    go_wp2_with fail
    refine (specFracOf_any _ _ _).mono ?_
    rintro e w3 ⟨n', m', ok', rfl, hr', b3⟩
    obtain ⟨rfl, rfl, rfl⟩ := hr.same hr'
    replace S := S.next b3
    have r3 := S.holds
    simp only [Holds, and_true] at r3
    clear b2 b3 hr'
    rcases hr with ⟨rfl, hv, hf, hq⟩ | ⟨rfl, rfl, rfl, hn⟩
    rotate_left
    · go_wp2_with fail
      go_ret
      exact ⟨rfl, (by first | exact S.below | exact (S.alloc _ _).below | exact ((S.alloc _ _).alloc _ _).below | exact (((S.alloc _ _).alloc _ _).alloc _ _).below)⟩
    replace S := S.alloc n' m'
    have hr := ofV_iff.1 hv
    have hr1 := hr.2.1
    have hr2 := hr.2.2.1
    have hr3 := hr.2.2.2.1
    have hr4 := hr.2.2.2.2
    have hb0 := hr.1
    clear hr
    
    have hf' := Lib.hid hf
    have hq' := Lib.hid hq
    clear hq
    have hi : (len1 : Int) % 3 = 0 ∨ (len1 : Int) % 3 = 1 ∨ (len1 : Int) % 3 = 2 := by omega
    rcases hi with hi | hi | hi
    all_goals
      by_cases sa : -100000000 ≤ a ∧ a ≤ 100000000
      · by_cases sb : -100000000 ≤ b ∧ b ≤ 100000000
        · have q2 : Rat.divInt (2 * a) (2 * b) = Rat.divInt a b := Rat.divInt_mul_left (by decide)
          have q3 : Rat.divInt (3 * a) (3 * b) = Rat.divInt a b := Rat.divInt_mul_left (by decide)
          have q7 : Rat.divInt (7 * a) (7 * b) = Rat.divInt a b := Rat.divInt_mul_left (by decide)
          go_wp2_with (go_at_call 13; refine (implFracOf_any _ _ _).mono ?_; rintro e w4 ⟨n4, m4, k4, rfl, hr, b4⟩; obtain ⟨rfl, rfl, rfl⟩ := hr.of (ofV_iff.2 (by omega)) hf'.out (by first | rw [hq'.out, q2] | rw [hq'.out, q3] | rw [hq'.out, q7] | exact hq'.out); (first | replace S := S.next b4 | replace S := (S.alloc1 _ _).next b4); have r4 := S.holds; (simp only [Holds, and_true] at r4; try simp only [World.size_alloc] at r4))
          all_goals first
            | (go_ret; exact ⟨by first | rfl | simp, (by first | exact S.below | exact (S.alloc _ _).below | exact ((S.alloc _ _).alloc _ _).below | exact (((S.alloc _ _).alloc _ _).alloc _ _).below)⟩)
            | (exfalso; omega)
        · go_wp2_with (go_at_call 15; refine (implFracValid_any _ _ _).mono ?_; rintro e w5 ⟨rfl, b5⟩; (first | replace S := S.next b5 | replace S := (S.alloc1 _ _).next b5))
          all_goals first
            | (go_ret; exact ⟨by first | rfl | simp, (by first | exact S.below | exact (S.alloc _ _).below | exact ((S.alloc _ _).alloc _ _).below | exact (((S.alloc _ _).alloc _ _).alloc _ _).below)⟩)
            | (exfalso; omega)
      · go_wp2_with (go_at_call 15; refine (implFracValid_any _ _ _).mono ?_; rintro e w5 ⟨rfl, b5⟩; (first | replace S := S.next b5 | replace S := (S.alloc1 _ _).next b5))
        all_goals first
          | (go_ret; exact ⟨by first | rfl | simp, (by first | exact S.below | exact (S.alloc _ _).below | exact ((S.alloc _ _).alloc _ _).below | exact (((S.alloc _ _).alloc _ _).alloc _ _).below)⟩)
          | (exfalso; omega)

set_option maxRecDepth 100000 in
theorem lifted (os : Os) (started : os.Started) (H : Type) (enc : TypeId × Value → H) :
    ReturnsInHanded {} Try.checked os 4 .any (Rows.fnFracOfTwiceSpec.pre6 enc Try.prog Try.f4 Rows.fnFracOfTwiceRow.domain false) (Rows.fnFracOfTwiceSpec.post enc Try.prog Try.f4 false true false false) := by
  refine returnsInHanded_of_change (C := Try.checked) own started (by kernel_rfl) Try.func4
    (ChangeSpec.witness6 (enc := enc) (C := Try.checked) false ⟨#[], #[.slice none 0 0, .slice none 0 0], []⟩ 8 (by kernel_rfl) (by kernel_rfl) (by kernel_rfl) (by kernel_rfl)) ?_
  intro W base args ds gs before hval0 hW hcnd _
  have hval : ∀ (j : Nat) t v, Try.f4.params[j]? = some t → args[j]? = some v → Value.okWide Try.prog W .any base t v := hval0
  have hW' := hW
  obtain ⟨p, q, hA0, hV, rfl, hfz, hnd⟩ := hW
  have hA : DataW.TrodAll enc Try.prog W 0 (fun _ => true) true Try.f4.params.toList args.toList ds p := hA0
  rw [Try.params4] at hA hval
  obtain ⟨v0, vs0, d0, ds0, p0, q0, hargs, rfl, rfl, h0, r0⟩ := trodAll_cons hA
  obtain ⟨v1, vs1, d1, ds1, p1, q1, rfl, rfl, rfl, h1, r1⟩ := trodAll_cons r0
  obtain ⟨rfl, rfl, rfl⟩ := trodAll_nil r1
  obtain rfl : args = #[v0, v1] := by cases args; simp_all
  obtain ⟨rfl, rfl⟩ := trodVars_none hV
  obtain ⟨a0, len0, cap0, rfl⟩ := okWide_slice Try.underlying22 (hval 0 22 v0 rfl rfl)
  have k0 := h0
  have lt0 : ∀ x ∈ p0, x.block < W.heap.size := by obtain ⟨m, hm⟩ := k0; exact DataW.trod_lt m _ _ _ hm
  obtain ⟨z0, w0⟩ : ∃ zs, IsRow .u8 W a0 len0 cap0 zs := by
    obtain ⟨fuel, hf⟩ := h0
    rcases open_ints Try.underlying22 Try.underlying5 (by kernel_rfl) hf with ⟨hcs, _⟩ | ⟨x, l, c, zs, hcs, _, hl, hm, hz, _, hcell, hwz⟩
    · simp [Value.cells] at hcs
      obtain ⟨rfl, rfl, rfl⟩ := hcs
      exact ⟨[], .inl ⟨rfl, rfl, rfl, rfl⟩⟩
    · simp [Value.cells] at hcs
      obtain ⟨rfl, rfl, rfl⟩ := hcs
      exact ⟨zs, .inr ⟨_, rfl, hl, hm, by simpa using hz, hcell, hwz⟩⟩
  obtain ⟨a1, len1, cap1, rfl⟩ := okWide_slice Try.underlying22 (hval 1 22 v1 rfl rfl)
  have k1 := h1
  have lt1 : ∀ x ∈ p1, x.block < W.heap.size := by obtain ⟨m, hm⟩ := k1; exact DataW.trod_lt m _ _ _ hm
  obtain ⟨z1, w1⟩ : ∃ zs, IsRow .u8 W a1 len1 cap1 zs := by
    obtain ⟨fuel, hf⟩ := h1
    rcases open_ints Try.underlying22 Try.underlying5 (by kernel_rfl) hf with ⟨hcs, _⟩ | ⟨x, l, c, zs, hcs, _, hl, hm, hz, _, hcell, hwz⟩
    · simp [Value.cells] at hcs
      obtain ⟨rfl, rfl, rfl⟩ := hcs
      exact ⟨[], .inl ⟨rfl, rfl, rfl, rfl⟩⟩
    · simp [Value.cells] at hcs
      obtain ⟨rfl, rfl, rfl⟩ := hcs
      exact ⟨zs, .inr ⟨_, rfl, hl, hm, by simpa using hz, hcell, hwz⟩⟩
  clear hA0 hval0
  refine (walk a0 len0 cap0 z0 a1 len1 cap1 z1 W w0 w1).mono fun e W' ⟨he, bel⟩ => ?_
  subst he
  exact ⟨_, rfl, _, _, _, [], _, [], hW', trodAll_mk1 (shut_bool Try.underlying4 _), (trodAll_cons_mk (Below.trod laidOut (by kernel_rfl) (of_decide_eq_true (by kernel_rfl)) k0 bel lt0) (trodAll_cons_mk (Below.trod laidOut (by kernel_rfl) (of_decide_eq_true (by kernel_rfl)) k1 bel lt1) trodAll_mk0)), rfl, bel.frame _, fun h => by cases h⟩

theorem over : Rows.fnFracOfTwiceRow.holds Try.pinned (OpenSpec.ofChange Rows.fnFracOfTwiceSpec) :=
  OpenClaim.holds_of_wide 4 Try.f4 rfl rfl rfl rfl rfl rfl rfl ⟨rfl, rfl, rfl, rfl, rfl⟩ rfl rfl rfl rfl rfl (by kernel_rfl) Try.func4 (by kernel_rfl)
    (of_decide_eq_true (by kernel_rfl)) (by unfold Func.isWrapper; first | (rw [if_pos (by decide +kernel)]; kernel_rfl) | (rw [if_neg (by decide +kernel)]; exact ⟨rfl, rfl⟩))
    (fun os started H enc _ => lifted os started H enc)

/-- ████ THE STATEMENT ████ -/
theorem proved : Rows.FnFracOfTwiceSaid := over
#print axioms proved
end Go.Proofs.Ytahiidepegdnmaa.fnFracOfTwice
