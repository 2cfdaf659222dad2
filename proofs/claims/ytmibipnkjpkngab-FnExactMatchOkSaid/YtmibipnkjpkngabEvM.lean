/- The exact laws' marks on lists of events: a slice is written over, from any number on. -/
import Derived.Test.YtmibipnkjpkngabEvP
import Derived.Test.YtmibipnkjpkngabIntM
namespace Go.Proofs.Ytmibipnkjpkngab
open Go.RowKit

def marks (z : Int) (n : Nat) : List Pc := (List.range n).map fun (i : Nat) => ((z + 2 * (i : Int), z + 1 + 2 * (i : Int)) : Pc)
theorem marks_length (z : Int) (n : Nat) : (marks z n).length = n := by simp [marks]
theorem mark_next {z : Int} {l : List Pc} {j : Nat} (hj : j < l.length) : (marks z j ++ l.drop j).set j (z + 2 * (j : Int), z + 1 + 2 * (j : Int)) = marks z (j + 1) ++ l.drop (j + 1) := by
  rw [List.set_append_right _ _ (by rw [marks_length]; omega), marks_length, Nat.sub_self, List.drop_eq_getElem_cons hj, List.set_cons_zero]
  simp [marks, List.range_succ]
theorem Own.lies {T : TypeId} {w : World} {B : Nat} {v : Value} {l : List Pc} (h : Own T w B v l) : In B w.heap.size v := h.lt
theorem Own.chg {T : TypeId} {w w' : World} {B : Nat} {v u : Value} {l : List Pc} (h : Own T w B v l) (k : Chg u w w') (hne : ∀ b, v.ownBlock = some b → u.ownBlock ≠ some b) : Own T w' B v l :=
  h.same fun b hb => k.block b (hne b hb)
end Go.Proofs.Ytmibipnkjpkngab
