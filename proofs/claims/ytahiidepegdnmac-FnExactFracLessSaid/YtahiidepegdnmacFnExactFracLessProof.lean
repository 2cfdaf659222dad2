/- For every input, the law FnExactFracLess of the given statements returns true over the program at this commit, and its arguments read afterwards as before: no condition. -/
import Derived.Test.YtahiidepegdnmacRows
import Derived.Test.YtahiidepegdnmacFracSpec
import Derived.Test.YtahiidepegdnmacFracOps
import Derived.Test.YtahiidepegdnmacExact
import Derived.WalkKit
import Derived.ProofKit
import Derived.OpenShut
import Derived.ShutString
import Derived.Lib.SmallJoins
namespace Go.Proofs.Ytahiidepegdnmac.fnExactFracLess
open Go.ChangeShapes Go.WideShapes Go.ChangeAt Go.RowKit
open Go.ChangeMaps (open_string shut_string)
set_option linter.unusedVariables false

theorem own : ownKnob Try.prog.godebug = none := by kernel_rfl
theorem cells23 : Try.prog.cellsOf 23 = 2 := by kernel_rfl

set_option maxHeartbeats 1000000 in
theorem walk (a0f0 a0f1 : Int) (w0f0 : (Lit.int .i64 a0f0).wf = true) (w0f1 : (Lit.int .i64 a0f1).wf = true) (a1f0 a1f1 : Int) (w1f0 : (Lit.int .i64 a1f0).wf = true) (w1f1 : (Lit.int .i64 a1f1).wf = true) (w : World) :
    Calls Try.prog 9 #[.agg #[.int .i64 a0f0, .int .i64 a0f1], .agg #[.int .i64 a1f0, .int .i64 a1f1]] w fun e w' => e = .returned (.bool true) ∧ Below w.heap.size w w' := by
  go_enter Try.func9, Try.ntmps9
  go_wp2
  have S := ((St.start (Below.refl w.heap.size w)).alloc' a0f0 a0f1 23).alloc' a1f0 a1f1 23
  have held : ∀ W w' : World, Below W.heap.size W w' → ((W.cell? ⟨(w.heap.size + 1), 0, none⟩ = some (.int .i64 a1f0) ∧ W.cell? ⟨(w.heap.size + 1), 1, none⟩ = some (.int .i64 a1f1) ∧ W.frozen? ⟨(w.heap.size + 1), 0, none⟩ = false ∧ W.frozen? ⟨(w.heap.size + 1), 1, none⟩ = false ∧ (w.heap.size + 1) < W.heap.size) ∧ (W.cell? ⟨w.heap.size, 0, none⟩ = some (.int .i64 a0f0) ∧ W.cell? ⟨w.heap.size, 1, none⟩ = some (.int .i64 a0f1) ∧ W.frozen? ⟨w.heap.size, 0, none⟩ = false ∧ W.frozen? ⟨w.heap.size, 1, none⟩ = false ∧ w.heap.size < W.heap.size)) ∧ Below w.heap.size w W → ((w'.cell? ⟨(w.heap.size + 1), 0, none⟩ = some (.int .i64 a1f0) ∧ w'.cell? ⟨(w.heap.size + 1), 1, none⟩ = some (.int .i64 a1f1) ∧ w'.frozen? ⟨(w.heap.size + 1), 0, none⟩ = false ∧ w'.frozen? ⟨(w.heap.size + 1), 1, none⟩ = false ∧ (w.heap.size + 1) < w'.heap.size) ∧ (w'.cell? ⟨w.heap.size, 0, none⟩ = some (.int .i64 a0f0) ∧ w'.cell? ⟨w.heap.size, 1, none⟩ = some (.int .i64 a0f1) ∧ w'.frozen? ⟨w.heap.size, 0, none⟩ = false ∧ w'.frozen? ⟨w.heap.size, 1, none⟩ = false ∧ w.heap.size < w'.heap.size)) ∧ Below w.heap.size w w' := by
    intro W w' hb5 h
    have s : St w w' [((w.heap.size + 1), a1f0, a1f1), (w.heap.size, a0f0, a0f1)] := St.next ⟨h.2, by simp only [Holds, and_true]; exact h.1⟩ hb5
    have r := s.holds
    simp only [Holds, and_true] at r
    exact ⟨r, s.below⟩
  have Sd := S.drew
  have r0 := Sd.holds
  have B0 := Sd.below
  simp only [Holds, and_true] at r0
  try simp only [World.size_alloc] at r0
  have keep0 := And.intro r0 B0
  clear r0 B0
  go_region_held3 (fun w' => ((w'.cell? ⟨(w.heap.size + 1), 0, none⟩ = some (.int .i64 a1f0) ∧ w'.cell? ⟨(w.heap.size + 1), 1, none⟩ = some (.int .i64 a1f1) ∧ w'.frozen? ⟨(w.heap.size + 1), 0, none⟩ = false ∧ w'.frozen? ⟨(w.heap.size + 1), 1, none⟩ = false ∧ (w.heap.size + 1) < w'.heap.size) ∧ (w'.cell? ⟨w.heap.size, 0, none⟩ = some (.int .i64 a0f0) ∧ w'.cell? ⟨w.heap.size, 1, none⟩ = some (.int .i64 a0f1) ∧ w'.frozen? ⟨w.heap.size, 0, none⟩ = false ∧ w'.frozen? ⟨w.heap.size, 1, none⟩ = false ∧ w.heap.size < w'.heap.size)) ∧ Below w.heap.size w w') (first | exact keep0 | exact held _ _ b2 (by assumption) | exact held _ _ b3 (by assumption)) (first | (go_at_call 12; refine (toFrac_any _ _ _).mono ?_; rintro e w2 ⟨rfl, b2⟩) | (go_at_call 25; refine (specFracLess_any _ _ _ _ _).mono ?_; rintro e w3 ⟨rfl, b3⟩))
  have hz3 : ((w3.cell? ⟨(w.heap.size + 1), 0, none⟩ = some (.int .i64 a1f0) ∧ w3.cell? ⟨(w.heap.size + 1), 1, none⟩ = some (.int .i64 a1f1) ∧ w3.frozen? ⟨(w.heap.size + 1), 0, none⟩ = false ∧ w3.frozen? ⟨(w.heap.size + 1), 1, none⟩ = false ∧ (w.heap.size + 1) < w3.heap.size) ∧ (w3.cell? ⟨w.heap.size, 0, none⟩ = some (.int .i64 a0f0) ∧ w3.cell? ⟨w.heap.size, 1, none⟩ = some (.int .i64 a0f1) ∧ w3.frozen? ⟨w.heap.size, 0, none⟩ = false ∧ w3.frozen? ⟨w.heap.size, 1, none⟩ = false ∧ w.heap.size < w3.heap.size)) ∧ Below w.heap.size w w3 := by first | assumption | exact held _ _ b3 (by assumption)
  have keep1 := held _ _ ((Below.refl _ _).drew) hz3
  clear keep0 hz3
  go_wp2
  go_region_held3 (fun w' => ((w'.cell? ⟨(w.heap.size + 1), 0, none⟩ = some (.int .i64 a1f0) ∧ w'.cell? ⟨(w.heap.size + 1), 1, none⟩ = some (.int .i64 a1f1) ∧ w'.frozen? ⟨(w.heap.size + 1), 0, none⟩ = false ∧ w'.frozen? ⟨(w.heap.size + 1), 1, none⟩ = false ∧ (w.heap.size + 1) < w'.heap.size) ∧ (w'.cell? ⟨w.heap.size, 0, none⟩ = some (.int .i64 a0f0) ∧ w'.cell? ⟨w.heap.size, 1, none⟩ = some (.int .i64 a0f1) ∧ w'.frozen? ⟨w.heap.size, 0, none⟩ = false ∧ w'.frozen? ⟨w.heap.size, 1, none⟩ = false ∧ w.heap.size < w'.heap.size)) ∧ Below w.heap.size w w') (first | exact keep1 | exact held _ _ b4 (by assumption) | exact held _ _ b5 (by assumption)) (first | (go_at_call 12; refine (toFrac_any _ _ _).mono ?_; rintro e w4 ⟨rfl, b4⟩) | (go_at_call 26; refine (implFracLess_any _ _ _ _ _).mono ?_; rintro e w5 ⟨rfl, b5⟩))
  have hz : ((w5.cell? ⟨(w.heap.size + 1), 0, none⟩ = some (.int .i64 a1f0) ∧ w5.cell? ⟨(w.heap.size + 1), 1, none⟩ = some (.int .i64 a1f1) ∧ w5.frozen? ⟨(w.heap.size + 1), 0, none⟩ = false ∧ w5.frozen? ⟨(w.heap.size + 1), 1, none⟩ = false ∧ (w.heap.size + 1) < w5.heap.size) ∧ (w5.cell? ⟨w.heap.size, 0, none⟩ = some (.int .i64 a0f0) ∧ w5.cell? ⟨w.heap.size, 1, none⟩ = some (.int .i64 a0f1) ∧ w5.frozen? ⟨w.heap.size, 0, none⟩ = false ∧ w5.frozen? ⟨w.heap.size, 1, none⟩ = false ∧ w.heap.size < w5.heap.size)) ∧ Below w.heap.size w w5 := by first | assumption | exact held _ _ b5 (by assumption)
  go_wp2
  go_ret
  exact ⟨by first | rfl | simp, hz.2⟩

set_option maxRecDepth 100000 in
theorem lifted (os : Os) (started : os.Started) (H : Type) (enc : TypeId × Value → H) :
    ReturnsInHanded {} Try.checked os 9 .any (Rows.fnExactFracLessSpec.pre6 enc Try.prog Try.f9 Rows.fnExactFracLessRow.domain false) (Rows.fnExactFracLessSpec.post enc Try.prog Try.f9 false true false false) := by
  refine returnsInHanded_of_change (C := Try.checked) own started (by kernel_rfl) Try.func9
    (ChangeSpec.witness6 (enc := enc) (C := Try.checked) false ⟨#[], #[.agg #[.int .i64 0, .int .i64 0], .agg #[.int .i64 0, .int .i64 0]], []⟩ 8 (by kernel_rfl) (by kernel_rfl) (by kernel_rfl) (by kernel_rfl)) ?_
  intro W base args ds gs before hval0 hW hcnd _
  have hval : ∀ (j : Nat) t v, Try.f9.params[j]? = some t → args[j]? = some v → Value.okWide Try.prog W .any base t v := hval0
  have hW' := hW
  obtain ⟨p, q, hA0, hV, rfl, hfz, hnd⟩ := hW
  have hA : DataW.TrodAll enc Try.prog W 0 (fun _ => true) true Try.f9.params.toList args.toList ds p := hA0
  rw [Try.params9] at hA hval
  obtain ⟨v0, vs0, d0, ds0, p0, q0, hargs, rfl, rfl, h0, r0⟩ := trodAll_cons hA
  obtain ⟨v1, vs1, d1, ds1, p1, q1, rfl, rfl, rfl, h1, r1⟩ := trodAll_cons r0
  obtain ⟨rfl, rfl, rfl⟩ := trodAll_nil r1
  obtain rfl : args = #[v0, v1] := by cases args; simp_all
  obtain ⟨rfl, rfl⟩ := trodVars_none hV
  obtain ⟨c0, c1, y0, y1, m, rfl, rfl, rfl, hy0, hy1⟩ := Go.Joins.open_agg2 Try.underlying23 (by kernel_rfl) cells23 (hval 0 23 v0 rfl rfl) h0
  obtain ⟨a0f0, e0, rfl, w0f0⟩ := DataW.trod_int Try.underlying3 hy0
  obtain ⟨a0f1, e1, rfl, w0f1⟩ := DataW.trod_int Try.underlying3 hy1
  simp at e0 e1
  subst e0 e1
  obtain ⟨c0, c1, y0, y1, m, rfl, rfl, rfl, hy0, hy1⟩ := Go.Joins.open_agg2 Try.underlying23 (by kernel_rfl) cells23 (hval 1 23 v1 rfl rfl) h1
  obtain ⟨a1f0, e0, rfl, w1f0⟩ := DataW.trod_int Try.underlying3 hy0
  obtain ⟨a1f1, e1, rfl, w1f1⟩ := DataW.trod_int Try.underlying3 hy1
  simp at e0 e1
  subst e0 e1
  clear hA0 hval0
  simp only [List.append_nil] at hW'
  refine (walk a0f0 a0f1 w0f0 w0f1 a1f0 a1f1 w1f0 w1f1 W).mono fun e W' ⟨he, hg⟩ => ?_
  subst he
  exact ⟨_, rfl, _, _, _, [], [], [], hW', (trodAll_cons_mk (shut_bool Try.underlying4 _) trodAll_mk0), (trodAll_cons_mk (Go.Joins.shut_agg2 (y0 := (.lit (.int .i64 a0f0), [])) (y1 := (.lit (.int .i64 a0f1), [])) Try.underlying23 (by kernel_rfl) cells23 ⟨1, by simp [DataW.trod, Try.underlying3, w0f0]⟩ ⟨1, by simp [DataW.trod, Try.underlying3, w0f1]⟩) (trodAll_cons_mk (Go.Joins.shut_agg2 (y0 := (.lit (.int .i64 a1f0), [])) (y1 := (.lit (.int .i64 a1f1), [])) Try.underlying23 (by kernel_rfl) cells23 ⟨1, by simp [DataW.trod, Try.underlying3, w1f0]⟩ ⟨1, by simp [DataW.trod, Try.underlying3, w1f1]⟩) trodAll_mk0)), rfl, hg.frame _, fun h => by cases h⟩

theorem over : Rows.fnExactFracLessRow.holds Try.pinned (OpenSpec.ofChange Rows.fnExactFracLessSpec) :=
  OpenClaim.holds_of_wide 9 Try.f9 rfl rfl rfl rfl rfl rfl rfl ⟨rfl, rfl, rfl, rfl, rfl⟩ rfl rfl rfl rfl rfl (by kernel_rfl) Try.func9 (by kernel_rfl)
    (of_decide_eq_true (by kernel_rfl)) (by unfold Func.isWrapper; first | (rw [if_pos (by decide +kernel)]; kernel_rfl) | (rw [if_neg (by decide +kernel)]; exact ⟨rfl, rfl⟩))
    (fun os started H enc _ => lifted os started H enc)

/-- The statement. -/
theorem proved : Rows.FnExactFracLessSaid :=
  over
#print axioms proved
end Go.Proofs.Ytahiidepegdnmac.fnExactFracLess
