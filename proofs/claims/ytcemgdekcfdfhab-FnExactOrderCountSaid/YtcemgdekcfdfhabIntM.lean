/- The exact laws' marks: a slice of integers is written over, and read again. -/
import Derived.Test.YtcemgdekcfdfhabIntE
namespace Go.Proofs.Ytcemgdekcfdfhab
open Go.RowKit

def imarks (k : Int) (n : Nat) : List Int := (List.range n).map fun (i : Nat) => k + (i : Int)
theorem imarks_length (k : Int) (n : Nat) : (imarks k n).length = n := by simp [imarks]
theorem imarks_get (k : Int) (n i : Nat) (h : i < (imarks k n).length) : (imarks k n)[i] = k + (i : Int) := by simp [imarks]
theorem imark_next {k : Int} {l : List Int} {j : Nat} (hj : j < l.length) : (imarks k j ++ l.drop j).set j (k + (j : Int)) = imarks k (j + 1) ++ l.drop (j + 1) := by
  rw [List.set_append_right _ _ (by rw [imarks_length]; omega), imarks_length, Nat.sub_self, List.drop_eq_getElem_cons hj, List.set_cons_zero]
  simp [imarks, List.range_succ]
/-- Nothing has turned but the block of the value v. -/
structure Chg (v : Value) (w w' : World) : Prop where
  os : w'.os = w.os
  tape : w'.tape = w.tape
  output : w'.output = w.output
  size : w'.heap.size = w.heap.size
  block : ∀ k, v.ownBlock ≠ some k → w'.heap[k]? = w.heap[k]?
theorem Chg.refl (v : Value) (w : World) : Chg v w w := ⟨rfl, rfl, rfl, rfl, fun _ _ => rfl⟩
theorem Chg.set {v : Value} {w w' : World} (h : Chg v w w') {g : Nat} (hg : v.ownBlock = some g) (o : Nat) (u : Value) : Chg v w (w'.setCell ⟨g, o, none⟩ u) :=
  ⟨h.os, h.tape, h.output, by simpa [World.setCell] using h.size, fun k hk => (Below.heap_setCell _ _ _ _ (fun e => hk (by rw [hg, e]))).trans (h.block k hk)⟩
theorem Chg.below {v : Value} {w w' : World} {B : Nat} (h : Chg v w w') (hB : ∀ k, v.ownBlock = some k → B ≤ k) : Below B w w' :=
  ⟨h.os, h.tape, h.output, by rw [h.size]; exact Nat.le_refl _, fun k hk => h.block k (fun e => by have := hB k e; omega)⟩
/-- Where a slice lies. -/
def In (L U : Nat) (v : Value) : Prop := ∀ k, v.ownBlock = some k → L ≤ k ∧ k < U
theorem IOwn.chg {w w' : World} {B : Nat} {v u : Value} {l : List Int} (h : IOwn w B v l) (k : Chg u w w') (hne : ∀ b, v.ownBlock = some b → u.ownBlock ≠ some b) : IOwn w' B v l :=
  h.same fun b hb => k.block b (hne b hb)
theorem in_apart {L U L' U' : Nat} {v u : Value} (h : In L U v) (k : In L' U' u) (hd : U ≤ L' ∨ U' ≤ L) : ∀ b, v.ownBlock = some b → u.ownBlock ≠ some b := fun b h1 h2 => by
  have a := h b h1; have c := k b h2; omega
theorem IOwn.lies {w : World} {B : Nat} {v : Value} {l : List Int} (h : IOwn w B v l) : In B w.heap.size v := h.lt
end Go.Proofs.Ytcemgdekcfdfhab
