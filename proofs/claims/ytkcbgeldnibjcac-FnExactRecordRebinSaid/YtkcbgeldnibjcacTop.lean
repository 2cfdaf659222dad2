/- A block of two cells, from its making on. -/
import Derived.Test.YtkcbgeldnibjcacPut
import Derived.Test.YtkcbgeldnibjcacExact
namespace Go.Proofs.Ytkcbgeldnibjcac
open Go.RowKit

def TwoAt (w : World) (k : Nat) (u v : Value) : Prop :=
  w.cell? ⟨k, 0, none⟩ = some u ∧ w.cell? ⟨k, 1, none⟩ = some v ∧ w.frozen? ⟨k, 0, none⟩ = false ∧ w.frozen? ⟨k, 1, none⟩ = false ∧ k < w.heap.size
theorem top_two {W w1 : World} {u v : Value} {t : TypeId} (b : Below (W.alloc (.cells #[u, v] t)).heap.size (W.alloc (.cells #[u, v] t)) w1) :
    w1.cell? ⟨W.heap.size, 0, none⟩ = some u ∧ w1.cell? ⟨W.heap.size, 1, none⟩ = some v ∧ w1.frozen? ⟨W.heap.size, 0, none⟩ = false ∧ w1.frozen? ⟨W.heap.size, 1, none⟩ = false ∧ W.heap.size < w1.heap.size := by
  obtain ⟨c0, c1, c2, c3⟩ := below_two W.heap.size u v b (by go_cell) (by go_cell) (by go_simp) (by go_simp)
  exact ⟨c0, c1, c2, c3, Nat.lt_of_lt_of_le (by simp) b.size⟩
theorem top_two_drew {W w1 : World} {u v : Value} {t : TypeId} (b : Below (W.alloc (.cells #[u, v] t)).drew.heap.size (W.alloc (.cells #[u, v] t)).drew w1) :
    w1.cell? ⟨W.heap.size, 0, none⟩ = some u ∧ w1.cell? ⟨W.heap.size, 1, none⟩ = some v ∧ w1.frozen? ⟨W.heap.size, 0, none⟩ = false ∧ w1.frozen? ⟨W.heap.size, 1, none⟩ = false ∧ W.heap.size < w1.heap.size :=
  top_two (W := W) (t := t) ⟨b.os, b.tape, b.output, b.size, b.block⟩
theorem later_two {W w1 : World} {k : Nat} {u v : Value} (b : Below W.heap.size W w1)
    (h : W.cell? ⟨k, 0, none⟩ = some u ∧ W.cell? ⟨k, 1, none⟩ = some v ∧ W.frozen? ⟨k, 0, none⟩ = false ∧ W.frozen? ⟨k, 1, none⟩ = false ∧ k < W.heap.size) :
    w1.cell? ⟨k, 0, none⟩ = some u ∧ w1.cell? ⟨k, 1, none⟩ = some v ∧ w1.frozen? ⟨k, 0, none⟩ = false ∧ w1.frozen? ⟨k, 1, none⟩ = false ∧ k < w1.heap.size := by
  obtain ⟨c0, c1, c2, c3⟩ := below_two k u v b h.1 h.2.1 h.2.2.1 h.2.2.2.1
  exact ⟨c0, c1, c2, c3, Nat.lt_of_lt_of_le h.2.2.2.2 b.size⟩
end Go.Proofs.Ytkcbgeldnibjcac
