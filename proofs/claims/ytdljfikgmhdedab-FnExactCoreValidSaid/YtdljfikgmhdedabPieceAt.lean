/- The pieces of a slice of the call's own, one by one. -/
import Derived.Test.YtdljfikgmhdedabSpecJoin
namespace Go.Proofs.Ytdljfikgmhdedab
open Go.RowKit

theorem cells2_setTop {l : List Pc} {i : Nat} (hi : i < l.length) (x : Int) : (cells2 l).set (i * 2) (.int .i64 x) = cells2 (l.set i (x, l[i].2)) := by
  induction l generalizing i with
  | nil => simp at hi
  | cons p l ih =>
    cases i with
    | zero => rfl
    | succ i => simp only [cells2, List.set_cons_succ, show (i + 1) * 2 = i * 2 + 1 + 1 by omega, List.getElem_cons_succ]; rw [ih (by simpa using hi)]
theorem cells2_setBot {l : List Pc} {i : Nat} (hi : i < l.length) (x : Int) : (cells2 l).set (i * 2 + 1) (.int .i64 x) = cells2 (l.set i (l[i].1, x)) := by
  induction l generalizing i with
  | nil => simp at hi
  | cons p l ih =>
    cases i with
    | zero => rfl
    | succ i => simp only [cells2, List.set_cons_succ, show (i + 1) * 2 + 1 = (i * 2 + 1) + 1 + 1 by omega, List.getElem_cons_succ]; rw [ih (by simpa using hi)]
/-- What can be done with a piece of a slice of the call's own. -/
structure Piece2 (w : World) (B : Nat) (v : Value) (l : List Pc) (g : Nat) (i : Nat) (p : Pc) : Prop where
  top : w.cell? ⟨g, i * 2, none⟩ = some (.int .i64 p.1)
  bot : w.cell? ⟨g, i * 2 + 1, none⟩ = some (.int .i64 p.2)
  f0 : w.frozen? ⟨g, i * 2, none⟩ = false
  f1 : w.frozen? ⟨g, i * 2 + 1, none⟩ = false
  setTop : ∀ x, Own (w.setCell ⟨g, i * 2, none⟩ (.int .i64 x)) B v (l.set i (x, p.2))
  setBot : ∀ x, Own (w.setCell ⟨g, i * 2 + 1, none⟩ (.int .i64 x)) B v (l.set i (p.1, x))
theorem Own.at {w : World} {B : Nat} {v : Value} {l : List Pc} (h : Own w B v l) (h0 : 0 < l.length) :
    ∃ g cap, v = .slice (some ⟨g, 0, none⟩) l.length cap ∧ l.length ≤ cap ∧ cap ≤ maxLen ∧ B ≤ g ∧ g < w.heap.size ∧ ∀ i (hi : i < l.length), Piece2 w B v l g i l[i] := by
  have hlt := h.lt
  have h' := h
  rcases h.2 with ⟨_, hn⟩ | ⟨g, cap, cur, rfl, hb, hgg, hn, hm, hs, ht⟩
  · omega
  · refine ⟨g, cap, rfl, hn, hm, hb, (hlt g rfl).2, fun i hi => ?_⟩
    obtain ⟨c1, c2⟩ := cells2_get l i hi
    refine ⟨(World.ownsRow.cellAt h' (i * 2) (by omega)).trans c1, (World.ownsRow.cellAt h' (i * 2 + 1) (by omega)).trans c2, World.ownsRow.frozenAt h' _, World.ownsRow.frozenAt h' _, fun x => ?_, fun x => ?_⟩
    · have k := (World.ownsRow.stored h' (i * 2) (.int .i64 x)).1
      rw [cells2_setTop hi] at k
      show World.ownsRow _ _ _ 2 _ (l.set i (x, l[i].2)).length _
      rw [List.length_set]; exact k
    · have k := (World.ownsRow.stored h' (i * 2 + 1) (.int .i64 x)).1
      rw [cells2_setBot hi] at k
      show World.ownsRow _ _ _ 2 _ (l.set i (l[i].1, x)).length _
      rw [List.length_set]; exact k
end Go.Proofs.Ytdljfikgmhdedab
