/- The exact laws' marks: a slice is written over, and read again. -/
import Derived.Test.YthpfehjjaamkkadKnotP
namespace Go.Proofs.Ythpfehjjaamkkad
open Go.RowKit

def marks (n : Nat) : List Pc := (List.range n).map fun (i : Nat) => ((1 + 2 * (i : Int), 2 + 2 * (i : Int)) : Pc)
theorem marks_length (n : Nat) : (marks n).length = n := by simp [marks]
theorem marks_get (n i : Nat) (h : i < (marks n).length) : (marks n)[i] = (1 + 2 * (i : Int), 2 + 2 * (i : Int)) := by simp [marks]
theorem mark_next {l : List Pc} {j : Nat} (hj : j < l.length) : (marks j ++ l.drop j).set j (1 + 2 * (j : Int), 2 + 2 * (j : Int)) = marks (j + 1) ++ l.drop (j + 1) := by
  rw [List.set_append_right _ _ (by rw [marks_length]; omega), marks_length, Nat.sub_self, List.drop_eq_getElem_cons hj, List.set_cons_zero]
  simp [marks, List.range_succ]
/-- Nothing has turned but the block of the value v. -/
structure Chg (v : Value) (w w' : World) : Prop where
  os : w'.os = w.os
  tape : w'.tape = w.tape
  output : w'.output = w.output
  size : w'.heap.size = w.heap.size
  block : ∀ k, v.ownBlock ≠ some k → w'.heap[k]? = w.heap[k]?
theorem Chg.refl (v : Value) (w : World) : Chg v w w := ⟨rfl, rfl, rfl, rfl, fun _ _ => rfl⟩
theorem Chg.set {v : Value} {w w' : World} (h : Chg v w w') {g : Nat} (hg : v.ownBlock = some g) (o : Nat) (u : Value) : Chg v w (w'.setCell ⟨g, o, none⟩ u) :=
  ⟨h.os, h.tape, h.output, by simpa [World.setCell] using h.size, fun k hk => (Below.heap_setCell _ _ _ _ (fun e => hk (by rw [hg, e]))).trans (h.block k hk)⟩
theorem Chg.below {v : Value} {w w' : World} {B : Nat} (h : Chg v w w') (hB : ∀ k, v.ownBlock = some k → B ≤ k) : Below B w w' :=
  ⟨h.os, h.tape, h.output, by rw [h.size]; exact Nat.le_refl _, fun k hk => h.block k (fun e => by have := hB k e; omega)⟩
/-- A slice of the call's own whose block lies from L on and ahead of U. -/
def Owned (w : World) (L U : Nat) (v : Value) (l : List Pc) : Prop := Own 37 w L v l ∧ ∀ k, v.ownBlock = some k → k < U
theorem Own.owned {w : World} {L : Nat} {v : Value} {l : List Pc} (h : Own 37 w L v l) : Owned w L w.heap.size v l := ⟨h, fun k hk => (h.lt k hk).2⟩
theorem Owned.grow {w w' : World} {L U : Nat} {v : Value} {l : List Pc} (h : Owned w L U v l) (k : Below w.heap.size w w') : Owned w' L U v l := ⟨h.1.grow k, h.2⟩
theorem Owned.chg {w w' : World} {L U L' U' : Nat} {v u : Value} {l m : List Pc} (h : Owned w L U v l) (k : Chg u w w') (o : Owned w L' U' u m) (hd : U ≤ L' ∨ U' ≤ L) : Owned w' L U v l :=
  ⟨h.1.same fun b hb => k.block b (fun e => by
    have h1 := h.2 b hb; have h2 := (h.1.lt b hb).1; have h3 := o.2 b e; have h4 := (o.1.lt b e).1
    omega), h.2⟩
theorem Owned.row {w : World} {L U : Nat} {v : Value} {l : List Pc} (h : Owned w L U v l) : Row w v l := h.1.row

def MarkedBy (w : World) (B : Nat) (v : Value) (n : Nat) (e : Ending) (w' : World) : Prop := e = .returned (.int .i64 (1 + 2 * (n : Int))) ∧ Own 37 w' B v (marks n) ∧ Chg v w w'

end Go.Proofs.Ythpfehjjaamkkad
