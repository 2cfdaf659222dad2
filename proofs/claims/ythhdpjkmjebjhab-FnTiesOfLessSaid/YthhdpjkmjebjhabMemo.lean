/- A map that the call itself has made and that only ever holds what is right: what is found in it is right. No program in it. -/
import Derived.Maps.Keyed
import Derived.Maps.Own
import Derived.DeepKeys5
import Derived.WalkKit
import Derived.Below
import Derived.OwnWalk
import Derived.WideShapes
namespace Go.Proofs.Ythhdpjkmjebjhab
open Go.RowKit Go.Maps Go.ChangeMaps Go.MapKept

/-- Block b is a map with keys of type k, and each of its entries is as G says. -/
def Memo (P : Program) (k : TypeId) (w : World) (b : Nat) (G : Value → Value → Prop) : Prop :=
  ∃ es clock, w.heap[b]? = some (.map es clock) ∧ ∀ e ∈ es.toList, (∃ l, keyOf P k e.key = some l) ∧ G e.key e.val
variable {P : Program} {k e t : TypeId} {w w' : World} {b : Nat} {G : Value → Value → Prop}
theorem Memo.lt (h : Memo P k w b G) : b < w.heap.size := by
  obtain ⟨es, clock, hb, _⟩ := h
  exact (Array.getElem?_eq_some_iff.1 hb).1
theorem Memo.same (h : Memo P k w b G) (hb : w'.heap[b]? = w.heap[b]?) : Memo P k w' b G := by
  obtain ⟨es, clock, h1, h2⟩ := h
  exact ⟨es, clock, hb.trans h1, h2⟩
theorem Memo.grow {B : Nat} (h : Memo P k w b G) (kb : Below B w w') (hb : b < B) : Memo P k w' b G := h.same (kb.block b hb)
theorem memo_new (w : World) (G : Value → Value → Prop) : Memo P k (w.alloc (.map #[] 0)) w.heap.size G :=
  ⟨#[], 0, by show (w.heap.push _)[w.heap.size]? = _; simp, fun e he => by simp at he⟩
/-- Looked up: nothing, or what is right. -/
theorem memo_run (h : Memo P k w b G) (K : Keyed P k) (ht : P.underlying t = some (.map k e)) {z : Value} (hz : (zeroValue e).run P w = .ok z w) {x : Value} {lx : Lit} (hx : keyOf P k x = some lx) :
    (Instr.lookup t (.map (some b)) x true).run P w = .ok (.tuple #[z, .bool false]) w ∨ ∃ v, G x v ∧ (Instr.lookup t (.map (some b)) x true).run P w = .ok (.tuple #[v, .bool true]) w := by
  obtain ⟨es, clock, hb, hall⟩ := h
  rcases K.find w hx es.toList (fun a ha => (hall a ha).1) with ⟨h1, _⟩ | ⟨j, a, h1, h2, h3⟩
  · left
    simp [Instr.lookup, run_underlying ht, MapKept.run_getObj_map hb, K.check w _ hx, h1, hz, Result.andThen]
  · right
    have hm : a ∈ es.toList := List.mem_of_getElem? h2
    refine ⟨a.val, by rw [← h3]; exact (hall a hm).2, ?_⟩
    simp [Instr.lookup, run_underlying ht, MapKept.run_getObj_map hb, K.check w _ hx, h1, Result.andThen]
/-- What a store into it leaves alone. -/
structure Stored (b : Nat) (w w' : World) : Prop where
  os : w'.os = w.os
  tape : w'.tape = w.tape
  output : w'.output = w.output
  size : w'.heap.size = w.heap.size
  block : ∀ i, i ≠ b → w'.heap[i]? = w.heap[i]?
theorem Stored.below {B : Nat} (h : Stored b w w') (hB : B ≤ b) : Below B w w' :=
  ⟨h.os, h.tape, h.output, by rw [h.size]; exact Nat.le_refl _, fun i hi => h.block i (by omega)⟩
theorem stored_block {w : World} {b : Nat} (o : Obj) : Stored b w { w with heap := w.heap.setIfInBounds b o } :=
  ⟨rfl, rfl, rfl, by simp, fun i hi => by
    show (w.heap.setIfInBounds b o)[i]? = _
    rw [Array.getElem?_setIfInBounds_ne (Ne.symm hi)]⟩
theorem memo_store (h : Memo P k w b G) (K : Keyed P k) (ht : P.underlying t = some (.map k e)) {x v : Value} {lx : Lit} (hx : keyOf P k x = some lx) (hv : G x v) :
    ∃ w', (Instr.mapUpdate t (.map (some b)) x v).run P w = .ok () w' ∧ Memo P k w' b G ∧ Stored b w w' := by
  obtain ⟨es, clock, hb, hall⟩ := h
  have hlt := (Array.getElem?_eq_some_iff.1 hb).1
  have put : ∀ o : Obj, ({ w with heap := w.heap.setIfInBounds b o } : World).heap[b]? = some o := fun o => by
    show (w.heap.setIfInBounds b o)[b]? = _
    rw [Array.getElem?_setIfInBounds_self_of_lt hlt]
  rcases K.find w hx es.toList (fun a ha => (hall a ha).1) with ⟨h1, _⟩ | ⟨j, a, h1, h2, h3⟩
  · refine ⟨{ w with heap := w.heap.setIfInBounds b (.map (es.push { key := x, val := v, born := clock }) (clock + 1)) }, ?_, ⟨_, _, put _, fun y hy => ?_⟩, stored_block _⟩
    · simp [Instr.mapUpdate, run_underlying ht, MapKept.run_getObj_map hb, K.check w _ hx, h1, MapKept.run_setObj_map _ hb, Result.andThen]
    · rw [Array.toList_push, List.mem_append, List.mem_singleton] at hy
      rcases hy with hy | rfl
      · exact hall y hy
      · exact ⟨⟨lx, hx⟩, hv⟩
  · have hj : es[j]? = some a := by rw [← Array.getElem?_toList]; exact h2
    have hs := K.stays w hx
    refine ⟨{ w with heap := w.heap.setIfInBounds b (.map (es.modify j fun y => { y with key := x, val := v }) clock) }, ?_, ⟨_, _, put _, fun y hy => ?_⟩, stored_block _⟩
    · simp [Instr.mapUpdate, run_underlying ht, MapKept.run_getObj_map hb, K.check w _ hx, h1, hj, h3, hs, MapKept.run_setObj_map _ hb, Result.andThen]
    · obtain ⟨i, hi, rfl⟩ := List.getElem_of_mem hy
      rw [Array.getElem_toList, Array.getElem_modify]
      split
      · exact ⟨⟨lx, hx⟩, hv⟩
      · exact hall _ (by simp)
variable {ops : Array Oper} {rest : List Oper} {o : Oper} {a : Act} {Q : Exit → Act → World → Prop}
/-- At the operation, for the walk: 'v, ok := m[x]'. -/
theorem wpList_memo_get (hg : o.guard = none) (m y : Operand) (t : TypeId) (hop : o.op = Op.lookup t m y true) (ht : P.underlying t = some (.map k e)) (K : Keyed P k) {z : Value} (hz : (zeroValue e).run P w = .ok z w)
    (hm : a.eval m = .map (some b)) (h : Memo P k w b G) {x : Value} {lx : Lit} (hy : a.eval y = x) (hx : keyOf P k x = some lx)
    (h0 : wpList P ops Q rest (a.put o.dst (.tuple #[z, .bool false])) w) (h1 : ∀ v, G x v → wpList P ops Q rest (a.put o.dst (.tuple #[v, .bool true])) w) : wpList P ops Q (o :: rest) a w := by
  refine wpList_plain hg fun K' hK' => ?_
  rcases memo_run h K ht hz hx with hr | ⟨v, hv, hr⟩
  · unfold Oper.wp
    simp [execOp, hop, hm, hy, hr, Result.andThen]
    exact hK' _ _ h0
  · unfold Oper.wp
    simp [execOp, hop, hm, hy, hr, Result.andThen]
    exact hK' _ _ (h1 v hv)
/-- 'm[x] = v'. -/
theorem wpList_memo_put (hg : o.guard = none) (m y u : Operand) (t : TypeId) (hop : o.op = Op.mapUpdate t m y u) (ht : P.underlying t = some (.map k e)) (K : Keyed P k)
    (hm : a.eval m = .map (some b)) (h : Memo P k w b G) {x v : Value} {lx : Lit} (hy : a.eval y = x) (hu : a.eval u = v) (hx : keyOf P k x = some lx) (hv : G x v)
    (hK : ∀ w', Memo P k w' b G → Stored b w w' → wpList P ops Q rest (a.put o.dst undef) w') : wpList P ops Q (o :: rest) a w := by
  refine wpList_plain hg fun K' hK' => ?_
  obtain ⟨w', hr, h2, h3⟩ := memo_store h K ht hx hv
  unfold Oper.wp
  simp [execOp, hop, hm, hy, hu, hr, Result.andThen]
  exact hK' _ _ (hK w' h2 h3)
end Go.Proofs.Ythhdpjkmjebjhab
