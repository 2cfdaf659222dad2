/- The contract of the model's CoreGaps. -/
import Derived.Test.YtdljfikgmhdedabSpec
namespace Go.Proofs.Ytdljfikgmhdedab
open Go.RowKit

theorem own_push {w3 : World} {B gg cap : Nat} {m : List Pc} {x y : Int}
    (h : w3.ownsRow B 39 2 (.slice (some ⟨gg, 0, none⟩) (m.length + 1) cap) (m.length + 1) (cells2 m ++ [.int .i64 x, .int .i64 y])) :
    Own w3 B (.slice (some ⟨gg, 0, none⟩) (m.length + 1) cap) (m ++ [(x, y)]) := by
  show w3.ownsRow _ _ 2 _ (m ++ [(x, y)]).length (cells2 (m ++ [(x, y)]))
  rw [cells2_append, List.length_append]
  exact h
theorem gaps_short {l : List Pc} (h : l.length ≤ 1) : gaps l = [] := by
  match l, h with
  | [], _ => rfl
  | [p], _ => rfl
theorem gaps_one {l : List Pc} (h : 0 < l.length) : gaps l = gp l[0].2 (l.drop 1) := by
  cases l with
  | nil => simp at h
  | cons p r => rfl
theorem gp_at {l : List Pc} {i : Nat} (h : i + 1 < l.length) : gp l[i].2 (l.drop (i + 1)) = (if l[i].2 < l[i + 1].1 then [(l[i].2, l[i + 1].1)] else []) ++ gp l[i + 1].2 (l.drop (i + 2)) := by
  rw [List.drop_eq_getElem_cons h]
  simp only [gp]
  split <;> rfl
/-- After the pieces up to number i (and 1). -/
def GapsTo (l : List Pc) (i : Nat) (m : List Pc) : Prop := ∃ (h : i < l.length), gaps l = m ++ gp l[i].2 (l.drop (i + 1))
theorem GapsTo.yes {l : List Pc} {i : Nat} {m : List Pc} (h : GapsTo l i m) (hi : i + 1 < l.length) (hg : l[i].2 < l[i + 1].1) : GapsTo l (i + 1) (m ++ [(l[i].2, l[i + 1].1)]) := by
  obtain ⟨h0, h1⟩ := h
  exact ⟨hi, by rw [h1, gp_at hi, if_pos hg]; simp⟩
theorem GapsTo.no {l : List Pc} {i : Nat} {m : List Pc} (h : GapsTo l i m) (hi : i + 1 < l.length) (hg : ¬ l[i].2 < l[i + 1].1) : GapsTo l (i + 1) m := by
  obtain ⟨h0, h1⟩ := h
  exact ⟨hi, by rw [h1, gp_at hi, if_neg hg]; simp⟩
theorem GapsTo.done {l : List Pc} {i : Nat} {m : List Pc} (h : GapsTo l i m) (hi : ¬ i + 1 < l.length) : gaps l = m := by
  obtain ⟨h0, h1⟩ := h
  rw [h1, List.drop_of_length_le (by omega)]; simp [gp]

end Go.Proofs.Ytdljfikgmhdedab
