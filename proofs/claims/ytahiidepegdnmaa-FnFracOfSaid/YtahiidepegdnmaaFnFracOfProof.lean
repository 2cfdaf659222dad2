/- For every input, the law FnFracOf of the given statements returns true over the program at this commit, and its arguments read afterwards as before: no condition. -/
import Derived.Test.YtahiidepegdnmaaRows
import Derived.Test.YtahiidepegdnmaaFracOps
import Derived.Test.YtahiidepegdnmaaFracSpec
import Derived.Test.YtahiidepegdnmaaFracOfDraw
import Derived.Test.YtahiidepegdnmaaHolds
import Derived.WalkKit
import Derived.ProofKit
import Derived.OpenShut
import Derived.ShutString
import Derived.ChangeOld
import Derived.Below
namespace Go.Proofs.Ytahiidepegdnmaa.fnFracOf
open Go.ChangeShapes Go.WideShapes Go.ChangeAt Go.RowKit
open Go.ChangeMaps (open_string shut_string)
set_option linter.unusedVariables false

theorem own : ownKnob Try.prog.godebug = none := by kernel_rfl
theorem laidOut : laidOutB Try.prog = true := by kernel_rfl

/-- WHAT THE WALK IS TOLD OF A SLICE OF INTEGERS THAT CAME IN: it is nil; or it leads to a row of 'cap' cells, the numbers 'zs' (the first 'len' are its elements, the rest its spare room), each fitting its kind. -/
def IsRow (k : IntKind) (w : World) (a : Option Addr) (len cap : Nat) (zs : List Int) : Prop :=
  (a = none ∧ len = 0 ∧ cap = 0 ∧ zs = []) ∨
  ∃ x, a = some x ∧ len ≤ cap ∧ cap ≤ maxLen ∧ zs.length = cap ∧ (∀ i, i < zs.length → w.cell? (x.add i) = some (.int k (zs.getD i 0))) ∧ ∀ n ∈ zs, (Lit.int k n).wf = true

theorem walk (a0 : Option Addr) (len0 cap0 : Nat) (z0 : List Int) (w : World) (w0 : IsRow .u8 w a0 len0 cap0 z0) :
    Calls Try.prog 3 #[.slice a0 len0 cap0] w fun e w' => e = .returned (.bool true) ∧ Below w.heap.size w w' := by
  have hB := bytes_of w0
  by_cases hl : 1048576 < len0
  · go_enter Try.func3, Try.ntmps3
    go_wp2_with fail
    go_ret
    exact ⟨rfl, Below.refl _ _⟩
  · have hm : len0 ≤ 1048576 := by omega
    go_enter Try.func3, Try.ntmps3
    go_wp2_with fail
    refine (DrawFracOf_any hB).mono ?_
    rintro e w1 ⟨a, b, rfl, ha, b1⟩
    clear w0 hB
    have S := St.start b1
    go_wp2_with fail
    refine (implFracOf_any _ _ _).mono ?_
    rintro e w2 ⟨n, m, ok, rfl, hr, b2⟩
    replace S := (S.next b2).alloc n m
    go_wp2_with fail
    refine (specFracOf_any _ _ _).mono ?_
    rintro e w3 ⟨n', m', ok', rfl, hr', b3⟩
    obtain ⟨rfl, rfl, rfl⟩ := hr.same hr'
    replace S := S.next b3
    have r3 := S.holds
    simp only [Holds, and_true] at r3
    clear b2 b3 hr'
    rcases hr with ⟨rfl, hv, hf, hq⟩ | ⟨rfl, rfl, rfl, hn⟩
    rotate_left
    · go_wp2_with fail
      go_ret
      exact ⟨rfl, (by first | exact S.below | exact (S.alloc _ _).below | exact ((S.alloc _ _).alloc _ _).below | exact (((S.alloc _ _).alloc _ _).alloc _ _).below)⟩
    replace S := S.alloc n' m'
    have hr := ofV_iff.1 hv
    have hr1 := hr.2.1
    have hr2 := hr.2.2.1
    have hr3 := hr.2.2.2.1
    have hr4 := hr.2.2.2.2
    have hb0 := hr.1
    clear hr
    
    have key := Lib.hid (of_cross hf hq hb0)
    go_wp2_with fail
    refine (implFracOf_any _ _ _).mono ?_
    rintro e w4 ⟨n4, m4, k4, rfl, hr, b4⟩
    have q4 : Rat.divInt (-a) (-b) = Rat.divInt a b := Rat.neg_divInt_neg a b
    obtain ⟨rfl, rfl, rfl⟩ := hr.of (ofV_iff.2 (by omega)) hf (by first | rw [hq, q4] | rw [hq])
    replace S := S.next b4
    have r4 := S.holds
    (simp only [Holds, and_true] at r4; try simp only [World.size_alloc] at r4)
    clear r3 b4 hr q4
    replace S := S.alloc n4 m4
    have hf' := Lib.hid hf
    have pn := fv_part hf
    by_cases sm : (-1000000000 ≤ a ∧ a ≤ 1000000000) ∧ -1000000000 ≤ b ∧ b ≤ 1000000000
    · have m1 := mul_part (a := n4) (d := b) pn.2.2.1 pn.2.2.2 sm.2.1 sm.2.2
      have m2 := mul_part (a := a) (d := m4) sm.1.1 sm.1.2 (by omega) (by omega)
      have e1 : (n4 * b == a * m4) = true := by simpa using key.out
      go_wp2_with (go_at_call 15; refine (implFracValid_any _ _ _).mono ?_; rintro e w5 ⟨rfl, b5⟩; (first | replace S := S.next b5 | skip); have r5 := S.holds; (simp only [Holds, and_true] at r5; try simp only [World.size_alloc] at r5))
      all_goals first
        | (go_ret; exact ⟨by first | rfl | simp | (simp; omega), (by first | exact S.below | exact (S.alloc _ _).below | exact ((S.alloc _ _).alloc _ _).below | exact (((S.alloc _ _).alloc _ _).alloc _ _).below)⟩)
        | (exfalso; omega)
    · go_wp2_with (go_at_call 15; refine (implFracValid_any _ _ _).mono ?_; rintro e w5 ⟨rfl, b5⟩; (first | replace S := S.next b5 | skip); have r5 := S.holds; (simp only [Holds, and_true] at r5; try simp only [World.size_alloc] at r5))
      all_goals first
        | (go_ret; exact ⟨by first | rfl | simp | (simp; omega), (by first | exact S.below | exact (S.alloc _ _).below | exact ((S.alloc _ _).alloc _ _).below | exact (((S.alloc _ _).alloc _ _).alloc _ _).below)⟩)
        | (exfalso; omega)

set_option maxRecDepth 100000 in
theorem lifted (os : Os) (started : os.Started) (H : Type) (enc : TypeId × Value → H) :
    ReturnsInHanded {} Try.checked os 3 .any (Rows.fnFracOfSpec.pre6 enc Try.prog Try.f3 Rows.fnFracOfRow.domain false) (Rows.fnFracOfSpec.post enc Try.prog Try.f3 false true false false) := by
  refine returnsInHanded_of_change (C := Try.checked) own started (by kernel_rfl) Try.func3
    (ChangeSpec.witness6 (enc := enc) (C := Try.checked) false ⟨#[], #[.slice none 0 0], []⟩ 8 (by kernel_rfl) (by kernel_rfl) (by kernel_rfl) (by kernel_rfl)) ?_
  intro W base args ds gs before hval0 hW hcnd _
  have hval : ∀ (j : Nat) t v, Try.f3.params[j]? = some t → args[j]? = some v → Value.okWide Try.prog W .any base t v := hval0
  have hW' := hW
  obtain ⟨p, q, hA0, hV, rfl, hfz, hnd⟩ := hW
  have hA : DataW.TrodAll enc Try.prog W 0 (fun _ => true) true Try.f3.params.toList args.toList ds p := hA0
  rw [Try.params3] at hA hval
  obtain ⟨v0, vs0, d0, ds0, p0, q0, hargs, rfl, rfl, h0, r0⟩ := trodAll_cons hA
  obtain ⟨rfl, rfl, rfl⟩ := trodAll_nil r0
  obtain rfl : args = #[v0] := by cases args; simp_all
  obtain ⟨rfl, rfl⟩ := trodVars_none hV
  obtain ⟨a0, len0, cap0, rfl⟩ := okWide_slice Try.underlying22 (hval 0 22 v0 rfl rfl)
  have k0 := h0
  have lt0 : ∀ x ∈ p0, x.block < W.heap.size := by obtain ⟨m, hm⟩ := k0; exact DataW.trod_lt m _ _ _ hm
  obtain ⟨z0, w0⟩ : ∃ zs, IsRow .u8 W a0 len0 cap0 zs := by
    obtain ⟨fuel, hf⟩ := h0
    rcases open_ints Try.underlying22 Try.underlying5 (by kernel_rfl) hf with ⟨hcs, _⟩ | ⟨x, l, c, zs, hcs, _, hl, hm, hz, _, hcell, hwz⟩
    · simp [Value.cells] at hcs
      obtain ⟨rfl, rfl, rfl⟩ := hcs
      exact ⟨[], .inl ⟨rfl, rfl, rfl, rfl⟩⟩
    · simp [Value.cells] at hcs
      obtain ⟨rfl, rfl, rfl⟩ := hcs
      exact ⟨zs, .inr ⟨_, rfl, hl, hm, by simpa using hz, hcell, hwz⟩⟩
  clear hA0 hval0
  refine (walk a0 len0 cap0 z0 W w0).mono fun e W' ⟨he, bel⟩ => ?_
  subst he
  exact ⟨_, rfl, _, _, _, [], _, [], hW', trodAll_mk1 (shut_bool Try.underlying4 _), (trodAll_cons_mk (Below.trod laidOut (by kernel_rfl) (of_decide_eq_true (by kernel_rfl)) k0 bel lt0) trodAll_mk0), rfl, bel.frame _, fun h => by cases h⟩

theorem over : Rows.fnFracOfRow.holds Try.pinned (OpenSpec.ofChange Rows.fnFracOfSpec) :=
  OpenClaim.holds_of_wide 3 Try.f3 rfl rfl rfl rfl rfl rfl rfl ⟨rfl, rfl, rfl, rfl, rfl⟩ rfl rfl rfl rfl rfl (by kernel_rfl) Try.func3 (by kernel_rfl)
    (of_decide_eq_true (by kernel_rfl)) (by unfold Func.isWrapper; first | (rw [if_pos (by decide +kernel)]; kernel_rfl) | (rw [if_neg (by decide +kernel)]; exact ⟨rfl, rfl⟩))
    (fun os started H enc _ => lifted os started H enc)

/-- ████ THE STATEMENT ████ -/
theorem proved : Rows.FnFracOfSaid := over
#print axioms proved
end Go.Proofs.Ytahiidepegdnmaa.fnFracOf
