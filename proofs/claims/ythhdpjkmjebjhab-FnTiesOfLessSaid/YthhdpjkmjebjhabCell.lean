/- Blocks of any cells, and what changes of memory leave all but one block alone. No program in it. -/
import Derived.Test.YthhdpjkmjebjhabPair
import Derived.Laws.Rows
import Derived.Laws.ResultCell
namespace Go.Proofs.Ythhdpjkmjebjhab
open Go.RowKit

/-- Block b holds these cells. -/
def CB (T : TypeId) (w : World) (b : Nat) (cs : List Value) : Prop := w.heap[b]? = some (.cells cs.toArray T (0, 0))
section
variable {T : TypeId} {w w' : World} {b : Nat} {cs : List Value}
theorem CB.lt (h : CB T w b cs) : b < w.heap.size := (Array.getElem?_eq_some_iff.1 h).1
theorem CB.cell (h : CB T w b cs) (i : Nat) (v : Value) (hv : cs[i]? = some v) : w.cell? ⟨b, i, none⟩ = some v := by
  rw [cell_of_row w b i _ _ _ h]; simpa using hv
theorem CB.froz (h : CB T w b cs) (i : Nat) : w.frozen? ⟨b, i, none⟩ = false := by
  have h' : w.heap[b]? = some (.cells cs.toArray T (0, 0)) := h
  simp [World.frozen?, h']
theorem CB.set (h : CB T w b cs) (i : Nat) (x : Value) : CB T (w.setCell ⟨b, i, none⟩ x) b (cs.set i x) := by
  unfold CB
  rw [setCell_eq_setRow w b i _ _ _ _ h, List.setIfInBounds_toArray]
  exact setRow_heap w b _ _ T _ h
theorem CB.same (h : CB T w b cs) (k : w'.heap[b]? = w.heap[b]?) : CB T w' b cs := k.trans h
theorem CB.other {b' i : Nat} (h : CB T w b cs) (hb : b ≠ b') (v : Value) : CB T (w.setCell ⟨b', i, none⟩ v) b cs := (Below.heap_setCell w ⟨b', i, none⟩ v b hb).trans h
theorem CB.alloc (h : CB T w b cs) (o : Obj) : CB T (w.alloc o) b cs := (Below.heap_alloc w o b h.lt).trans h
theorem cb_new (T : TypeId) (w : World) (cs : List Value) : CB T (w.alloc (.cells cs.toArray T)) w.heap.size cs := by
  show (w.heap.push _)[w.heap.size]? = _
  simp
/-- The result of a function that lies in a variable of a struct type. -/
theorem ret_cb {P : Program} {fn : Func} {p : Tmp} {R : Ending → World → Prop} {a : Act} {fs : Array Field} (h : fn.results = #[.cell p T]) (hu : P.underlying T = some (.struct fs)) (hi : (P.info? T).map (·.size) = some cs.length) (hd : a.defers = [])
    (hp : a.tmps.getD p undef = .pointer (some ⟨b, 0, none⟩)) (hg : CB T w b cs) (hR : R (.returned (.agg cs.toArray)) w) : bodyPost P fn R .ret a w :=
  ⟨hd, _, results_cell_row h a.tmps w b T cs.toArray (0, 0) _ hp hg hu rfl (by rw [hi, List.size_toArray]), hR⟩
theorem ret_cb2 {P : Program} {fn : Func} {p q : Tmp} {R : Ending → World → Prop} {a : Act} {fs : Array Field} (h : fn.results = #[.cell p T, .tmp q]) (hu : P.underlying T = some (.struct fs)) (hi : (P.info? T).map (·.size) = some cs.length) (hd : a.defers = [])
    (hp : a.tmps.getD p undef = .pointer (some ⟨b, 0, none⟩)) (hg : CB T w b cs) (hR : R (.returned (.tuple #[.agg cs.toArray, a.tmps.getD q undef])) w) : bodyPost P fn R .ret a w := by
  refine ⟨hd, _, ?_, hR⟩
  rw [results_cell_tmp h]
  have hl : (loadVar T ⟨b, 0, none⟩).run P w = .ok (.agg cs.toArray) w := run_loadVar_row w b T T cs.toArray (0, 0) _ hg hu rfl (by rw [hi, List.size_toArray])
  rw [hp]
  simp [asAddr, hl, Result.andThen]
/-- What leaves all blocks alone but one. -/
structure Turn (b : Nat) (w w' : World) : Prop where
  os : w'.os = w.os
  tape : w'.tape = w.tape
  output : w'.output = w.output
  size : w.heap.size ≤ w'.heap.size
  block : ∀ i, i < w.heap.size → i ≠ b → w'.heap[i]? = w.heap[i]?
theorem Turn.refl (b : Nat) (w : World) : Turn b w w := ⟨rfl, rfl, rfl, Nat.le_refl _, fun _ _ _ => rfl⟩
theorem Turn.trans {x : World} (h : Turn b w w') (k : Turn b w' x) : Turn b w x :=
  ⟨k.os.trans h.os, k.tape.trans h.tape, k.output.trans h.output, Nat.le_trans h.size k.size, fun i hi hb => (k.block i (Nat.lt_of_lt_of_le hi h.size) hb).trans (h.block i hi hb)⟩
/-- .. with a block in between that came later. -/
theorem Turn.after {x : World} {g : Nat} (h : Turn b w w') (k : Turn g w' x) (hg : w.heap.size ≤ g) : Turn b w x :=
  ⟨k.os.trans h.os, k.tape.trans h.tape, k.output.trans h.output, Nat.le_trans h.size k.size, fun i hi hb => (k.block i (Nat.lt_of_lt_of_le hi h.size) (by omega)).trans (h.block i hi hb)⟩
theorem turn_below (h : Below w.heap.size w w') (b : Nat) : Turn b w w' := ⟨h.os, h.tape, h.output, h.size, fun i hi _ => h.block i hi⟩
theorem Turn.below {B : Nat} (h : Turn b w w') (hb : B ≤ b) (hB : B ≤ w.heap.size) : Below B w w' := ⟨h.os, h.tape, h.output, h.size, fun i hi => h.block i (by omega) (by omega)⟩
theorem Turn.grow {x : World} (h : Turn b w w') (k : Below w'.heap.size w' x) : Turn b w x := h.trans (turn_below k b)
theorem Turn.drew (h : Turn b w w') : Turn b w w'.drew := ⟨h.os, h.tape, h.output, h.size, h.block⟩
theorem Turn.set (h : Turn b w w') (i : Nat) (v : Value) {g : Nat} (hg : g = b ∨ w.heap.size ≤ g) : Turn b w (w'.setCell ⟨g, i, none⟩ v) := by
  have e := (Below.refl 0 w').setCell (p := ⟨g, i, none⟩) (Nat.zero_le _) v
  refine ⟨e.os.trans h.os, e.tape.trans h.tape, e.output.trans h.output, Nat.le_trans h.size e.size, fun j hj hb => ?_⟩
  rw [Below.heap_setCell w' ⟨g, i, none⟩ v j (by rcases hg with rfl | hg <;> simp <;> omega)]
  exact h.block j hj hb
theorem Turn.cb {x : World} {g : Nat} {T' : TypeId} {ds : List Value} (h : Turn b w x) (k : CB T' w g ds) (hg : g ≠ b) : CB T' x g ds := (h.block g k.lt hg).trans k
end
end Go.Proofs.Ythhdpjkmjebjhab
