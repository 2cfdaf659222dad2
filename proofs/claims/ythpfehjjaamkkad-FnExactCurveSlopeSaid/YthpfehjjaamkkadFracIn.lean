/- How the program holds fractions inside: whole ones and broken ones. -/
import Derived.Test.YthpfehjjaamkkadFrac
namespace Go.Proofs.Ythpfehjjaamkkad
open Go.RowKit

/-- A call's result lies in block k; all that was there when the call began is there. -/
structure Kept (w0 w : World) (k : Nat) (u v : Value) : Prop where
  below : Below w0.heap.size w0 w
  cell0 : w.cell? ⟨k, 0, none⟩ = some u
  cell1 : w.cell? ⟨k, 1, none⟩ = some v
  free0 : w.frozen? ⟨k, 0, none⟩ = false
  free1 : w.frozen? ⟨k, 1, none⟩ = false
theorem Kept.next {w0 w w' : World} {k : Nat} {u v : Value} (h : Kept w0 w k u v) (b : Below w.heap.size w w') : Kept w0 w' k u v := by
  obtain ⟨c0, c1, c2, c3⟩ := below_two k u v b h.cell0 h.cell1 h.free0 h.free1
  exact ⟨h.below.trans (b.mono h.below.size), c0, c1, c2, c3⟩
end Go.Proofs.Ythpfehjjaamkkad
