/- For every input, the law FnExactFracFloor of the given statements returns true over the program at this commit, and its arguments read afterwards as before: no condition. -/
import Derived.Test.YtahiidepegdnmacRows
import Derived.Test.YtahiidepegdnmacFloor
import Derived.Test.YtahiidepegdnmacHolds
import Derived.Test.YtahiidepegdnmacExact
import Derived.WalkKit
import Derived.ProofKit
import Derived.OpenShut
import Derived.ShutString
import Derived.Lib.SmallJoins
namespace Go.Proofs.Ytahiidepegdnmac.fnExactFracFloor
open Go.ChangeShapes Go.WideShapes Go.ChangeAt Go.RowKit
open Go.ChangeMaps (open_string shut_string)
set_option linter.unusedVariables false

theorem own : ownKnob Try.prog.godebug = none := by kernel_rfl
theorem cells23 : Try.prog.cellsOf 23 = 2 := by kernel_rfl

theorem walk (a0f0 a0f1 : Int) (w0f0 : (Lit.int .i64 a0f0).wf = true) (w0f1 : (Lit.int .i64 a0f1).wf = true) (w : World) :
    Calls Try.prog 10 #[.agg #[.int .i64 a0f0, .int .i64 a0f1]] w fun e w' => e = .returned (.bool true) ∧ Below w.heap.size w w' := by
  go_enter Try.func10, Try.ntmps10
  go_wp2_with fail
  refine (toFrac_any _ _ _).mono ?_
  rintro e w2 ⟨rfl, b2⟩
  have S := ((St.start (Below.refl w.heap.size w)).alloc' a0f0 a0f1 23).next b2
  have r2 := S.holds
  simp only [Holds, and_true] at r2
  go_wp2_with fail
  refine (specFracFloor_any _ _ _).mono ?_
  rintro e w3 ⟨rfl, b3⟩
  replace S := S.next b3
  have r3 := S.holds
  simp only [Holds, and_true] at r3
  clear r2 b2 b3
  go_wp2_with fail
  refine (toFrac_any _ _ _).mono ?_
  rintro e w4 ⟨rfl, b4⟩
  replace S := S.next b4
  go_wp2_with fail
  refine (implFracFloor_any _ _ _).mono ?_
  rintro e w5 ⟨rfl, b5⟩
  replace S := S.next b5
  go_wp2_with fail
  go_ret
  exact ⟨rfl, S.below⟩

set_option maxRecDepth 100000 in
theorem lifted (os : Os) (started : os.Started) (H : Type) (enc : TypeId × Value → H) :
    ReturnsInHanded {} Try.checked os 10 .any (Rows.fnExactFracFloorSpec.pre6 enc Try.prog Try.f10 Rows.fnExactFracFloorRow.domain false) (Rows.fnExactFracFloorSpec.post enc Try.prog Try.f10 false true false false) := by
  refine returnsInHanded_of_change (C := Try.checked) own started (by kernel_rfl) Try.func10
    (ChangeSpec.witness6 (enc := enc) (C := Try.checked) false ⟨#[], #[.agg #[.int .i64 0, .int .i64 0]], []⟩ 8 (by kernel_rfl) (by kernel_rfl) (by kernel_rfl) (by kernel_rfl)) ?_
  intro W base args ds gs before hval0 hW hcnd _
  have hval : ∀ (j : Nat) t v, Try.f10.params[j]? = some t → args[j]? = some v → Value.okWide Try.prog W .any base t v := hval0
  have hW' := hW
  obtain ⟨p, q, hA0, hV, rfl, hfz, hnd⟩ := hW
  have hA : DataW.TrodAll enc Try.prog W 0 (fun _ => true) true Try.f10.params.toList args.toList ds p := hA0
  rw [Try.params10] at hA hval
  obtain ⟨v0, vs0, d0, ds0, p0, q0, hargs, rfl, rfl, h0, r0⟩ := trodAll_cons hA
  obtain ⟨rfl, rfl, rfl⟩ := trodAll_nil r0
  obtain rfl : args = #[v0] := by cases args; simp_all
  obtain ⟨rfl, rfl⟩ := trodVars_none hV
  obtain ⟨c0, c1, y0, y1, m, rfl, rfl, rfl, hy0, hy1⟩ := Go.Joins.open_agg2 Try.underlying23 (by kernel_rfl) cells23 (hval 0 23 v0 rfl rfl) h0
  obtain ⟨a0f0, e0, rfl, w0f0⟩ := DataW.trod_int Try.underlying3 hy0
  obtain ⟨a0f1, e1, rfl, w0f1⟩ := DataW.trod_int Try.underlying3 hy1
  simp at e0 e1
  subst e0 e1
  clear hA0 hval0
  simp only [List.append_nil] at hW'
  refine (walk a0f0 a0f1 w0f0 w0f1 W).mono fun e W' ⟨he, hg⟩ => ?_
  subst he
  exact ⟨_, rfl, _, _, _, [], [], [], hW', (trodAll_cons_mk (shut_bool Try.underlying4 _) trodAll_mk0), (trodAll_cons_mk (Go.Joins.shut_agg2 (y0 := (.lit (.int .i64 a0f0), [])) (y1 := (.lit (.int .i64 a0f1), [])) Try.underlying23 (by kernel_rfl) cells23 ⟨1, by simp [DataW.trod, Try.underlying3, w0f0]⟩ ⟨1, by simp [DataW.trod, Try.underlying3, w0f1]⟩) trodAll_mk0), rfl, hg.frame _, fun h => by cases h⟩

theorem over : Rows.fnExactFracFloorRow.holds Try.pinned (OpenSpec.ofChange Rows.fnExactFracFloorSpec) :=
  OpenClaim.holds_of_wide 10 Try.f10 rfl rfl rfl rfl rfl rfl rfl ⟨rfl, rfl, rfl, rfl, rfl⟩ rfl rfl rfl rfl rfl (by kernel_rfl) Try.func10 (by kernel_rfl)
    (of_decide_eq_true (by kernel_rfl)) (by unfold Func.isWrapper; first | (rw [if_pos (by decide +kernel)]; kernel_rfl) | (rw [if_neg (by decide +kernel)]; exact ⟨rfl, rfl⟩))
    (fun os started H enc _ => lifted os started H enc)

/-- The statement. -/
theorem proved : Rows.FnExactFracFloorSaid :=
  over
#print axioms proved
end Go.Proofs.Ytahiidepegdnmac.fnExactFracFloor
