/- The contracts of the program's functions on curves: values of curves. -/
import Derived.Test.YthpfehjjaamkkadSearch
namespace Go.Proofs.Ythpfehjjaamkkad
open Go.RowKit

theorem onC_range {l : List Pc} {x : Rat} (h : onC l x = true) : (0 : Rat) ≤ x ∧ x ≤ 30000 := by
  rw [onC, Bool.and_eq_true] at h
  obtain ⟨h1, h2⟩ := h
  obtain ⟨z1, z2, zd, zs⟩ := isCurve_steps.1 h1
  obtain ⟨k1, k2⟩ := (cIn_iff (by omega)).1 h2
  have a := rat_le (zd 0 (by omega)).1
  have b := rat_le (zd (l.length - 1) (by omega)).2.1
  have e0 : ((0 : Int) : Rat) = 0 := rfl
  have e1 : ((30000 : Int) : Rat) = 30000 := rfl
  grind
theorem onC_int {l : List Pc} {x : Int} (h : onC l (x : Rat) = true) : 0 ≤ x ∧ x ≤ 30000 := by
  obtain ⟨a, b⟩ := onC_range h
  exact ⟨Rat.intCast_le_intCast.1 (by have e0 : ((0 : Int) : Rat) = 0 := rfl; rw [e0]; exact a), Rat.intCast_le_intCast.1 (by have e1 : ((30000 : Int) : Rat) = 30000 := rfl; rw [e1]; exact b)⟩
theorem divInt_one (x : Int) : Rat.divInt x 1 = (x : Rat) := fq_whole x
theorem whole_res {x n d : Int} {ok : Bool} (h : Res (ofV x 1) (Rat.divInt x 1) n d ok) : (ok = true ∧ fv n d = true ∧ fq n d = (x : Rat)) ∨ (ok = false ∧ ∀ l, onC l (x : Rat) = false) := by
  rcases h with ⟨h1, _, h3, h4⟩ | ⟨h1, _, _, h4⟩
  · exact .inl ⟨h1, h3, by rw [h4, divInt_one]⟩
  · refine .inr ⟨h1, fun l => ?_⟩
    cases ho : onC l (x : Rat)
    · rfl
    · obtain ⟨a, b⟩ := onC_int ho
      have f1 : ofV x 1 = true := ofV_iff.2 (by omega)
      have f2 : fits (Rat.divInt x 1) = true := by have := fq_fits (dp_fv a b); exact this
      rw [f1, f2] at h4
      simp at h4

theorem cAt_fits {l : List Pc} {x : Int} (h : onC l (x : Rat) = true) : fits (cAt l (x : Rat)) = true := by
  rw [onC, Bool.and_eq_true] at h
  obtain ⟨p, q, m, rfl, h2, h3, h4⟩ := isCurve_iff.1 h.1
  have k := h.2
  simp only [cIn, Bool.and_eq_true, decide_eq_true_eq] at k
  exact at_fits h3 h4 (Rat.intCast_le_intCast.1 k.1) (Rat.intCast_le_intCast.1 k.2)
theorem at_res {l : List Pc} {x n d : Int} {ok : Bool} (h : Res (onC l (x : Rat)) (cAt l (x : Rat)) n d ok) : (ok = true ∧ onC l (x : Rat) = true ∧ fv n d = true ∧ fq n d = cAt l (x : Rat)) ∨ (ok = false ∧ n = 0 ∧ d = 0 ∧ onC l (x : Rat) = false) := by
  rcases h with ⟨h1, h2, h3, h4⟩ | ⟨h1, h2, h3, h4⟩
  · exact .inl ⟨h1, h2, h3, h4⟩
  · refine .inr ⟨h1, h2, h3, ?_⟩
    cases ho : onC l (x : Rat)
    · rfl
    · have := cAt_fits ho
      rw [ho, this] at h4
      simp at h4
/-- The value of the second curve at that of the first one. -/
def thenV (l m : List Pc) (x : Int) : Bool := onC l (x : Rat) && onC m (cAt l (x : Rat))
def thenR (l m : List Pc) (x : Int) : Rat := cAt m (cAt l (x : Rat))

end Go.Proofs.Ythpfehjjaamkkad
