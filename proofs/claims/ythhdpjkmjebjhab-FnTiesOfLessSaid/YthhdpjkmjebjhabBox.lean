/- Blocks of a list of integers, read and written whole: the ring's variables. -/
import Derived.Test.YthhdpjkmjebjhabInts
import Derived.Test.YthhdpjkmjebjhabRing
import Derived.Laws.CopyOwn
import Derived.Laws.Rows
import Derived.Laws.Tables
import Derived.Laws.ResultCell
namespace Go.Proofs.Ythhdpjkmjebjhab
open Go.RowKit

/-- The cells of a list of integers, as an array. -/
def cellsA (L : List Int) : Array Value := (cells1 L).toArray
theorem cellsA_size (L : List Int) : (cellsA L).size = L.length := by simp [cellsA, cells1]
theorem cellsA_one (L : List Int) : (cellsA L).all (·.oneCell') = true := by
  rw [Array.all_eq_true_iff_forall_mem]
  intro x hx
  exact cells1_one L x (by simpa [cellsA] using hx)
theorem cellsA_get (L : List Int) (i : Nat) (hi : i < L.length) : (cellsA L)[i]? = some (.int .i64 L[i]) := by simp [cellsA, cells1, hi]
theorem cellsA_set (L : List Int) (i : Nat) (x : Int) : (cellsA L).setIfInBounds i (.int .i64 x) = cellsA (L.set i x) := by
  simp [cellsA, cells1, List.map_set]
/-- Block b is a variable of type T that holds a list of integers. -/
def IB (T : TypeId) (w : World) (b : Nat) (L : List Int) : Prop := w.heap[b]? = some (.cells (cellsA L) T (0, 0))
variable {T : TypeId} {w w' : World} {b : Nat} {L : List Int}
theorem IB.lt (h : IB T w b L) : b < w.heap.size := (Array.getElem?_eq_some_iff.1 h).1
theorem IB.cell (h : IB T w b L) (i : Nat) (hi : i < L.length) : w.cell? ⟨b, i, none⟩ = some (.int .i64 L[i]) := by
  rw [cell_of_row w b i _ _ _ h, cellsA_get L i hi]
theorem IB.froz (h : IB T w b L) (i : Nat) : w.frozen? ⟨b, i, none⟩ = false := by
  have h' : w.heap[b]? = some (.cells (cellsA L) T (0, 0)) := h
  simp [World.frozen?, h']
theorem IB.set (h : IB T w b L) (i : Nat) (x : Int) : IB T (w.setCell ⟨b, i, none⟩ (.int .i64 x)) b (L.set i x) := by
  rw [setCell_eq_setRow w b i _ _ _ _ h, cellsA_set]
  exact setRow_heap w b _ _ T _ h
theorem IB.grow {B : Nat} (h : IB T w b L) (k : Below B w w') (hb : b < B) : IB T w' b L := (k.block b hb).trans h
theorem IB.drew (h : IB T w b L) : IB T w.drew b L := h
theorem ib_new (w : World) (L : List Int) : IB T (w.alloc (.cells (cellsA L) T)) w.heap.size L := by
  show (w.heap.push _)[w.heap.size]? = _
  simp
theorem IB.alloc (h : IB T w b L) (o : Obj) : IB T (w.alloc o) b L := (Below.heap_alloc w o b h.lt).trans h
theorem IB.other {b' i : Nat} (h : IB T w b L) (hb : b ≠ b') (v : Value) : IB T (w.setCell ⟨b', i, none⟩ v) b L := (Below.heap_setCell w ⟨b', i, none⟩ v b hb).trans h

/-! The operations on whole variables, as a walk meets them. -/
variable {P : Program} {ops : Array Oper} {rest : List Oper} {o : Oper} {a : Act} {Q : Exit → Act → World → Prop}
/-- A variable's type: its size, and its zero value. -/
def BoxT (P : Program) (T : TypeId) (n : Nat) (Z : List Int) : Prop := (P.info? T).map (fun i => (i.zero, i.size)) = some (some (.agg (cellsA Z)), n) ∧ Z.length = n
theorem BoxT.parts {n : Nat} {Z : List Int} (h : BoxT P T n Z) : ∃ i, P.info? T = some i ∧ i.zero = some (.agg (cellsA Z)) ∧ i.size = n := by
  have h' := h.1
  cases hq : P.info? T with
  | none => simp [hq] at h'
  | some i => simp [hq] at h'; exact ⟨i, rfl, h'.1, h'.2⟩
theorem wpList_alloc_box {n : Nat} {Z : List Int} (hT : BoxT P T n Z) (hgd : o.guard = none) (ho : o.op = .alloc T)
    (h : wpList P ops Q rest (a.put o.dst (.pointer (some ⟨w.heap.size, 0, none⟩))) (w.alloc (.cells (cellsA Z) T))) : wpList P ops Q (o :: rest) a w := by
  obtain ⟨i, hi, hz, _⟩ := hT.parts
  refine wpList_plain hgd fun K hK => ?_
  unfold Oper.wp execOp
  simp only [ho]
  have hr : (Instr.alloc T true (.tuple #[])).run P w = .ok (.pointer (some ⟨w.heap.size, 0, none⟩)) (w.alloc (.cells (cellsA Z) T)) := by
    simp [Instr.alloc, zeroValue, typeInfo, hi, hz, newVar, newRow, newObj, Value.cells]
    rfl
  simp only [Sem.run_bind, hr, Result.andThen_ok]
  exact hK _ _ h
theorem wpList_box_box (hgd : o.guard = none) (x : Operand) (ho : o.op = .box T x) (hx : a.eval x = .agg (cellsA L))
    (h : wpList P ops Q rest (a.put o.dst (.pointer (some ⟨w.heap.size, 0, none⟩))) (w.alloc (.cells (cellsA L) T))) : wpList P ops Q (o :: rest) a w := by
  refine wpList_plain hgd fun K hK => ?_
  unfold Oper.wp execOp
  simp only [ho, hx]
  have hr : (Instr.box T (.agg (cellsA L))).run P w = .ok (.pointer (some ⟨w.heap.size, 0, none⟩)) (w.alloc (.cells (cellsA L) T)) := by
    simp [Instr.box, newVar, newRow, newObj, Value.cells]
    rfl
  simp only [Sem.run_bind, hr, Result.andThen_ok]
  exact hK _ _ h
theorem wpList_load_box (hgd : o.guard = none) (x : Operand) (ho : o.op = .load T x) (g : Nat) (hx : a.eval x = .pointer (some ⟨g, 0, none⟩)) {n : Nat} {Z : List Int} (hT : BoxT P T n Z)
    {fs : Array Field} (hu : P.underlying T = some (.struct fs)) (hg : IB T w g L) (hL : L.length = n) (h : wpList P ops Q rest (a.put o.dst (.agg (cellsA L))) w) : wpList P ops Q (o :: rest) a w := by
  obtain ⟨i, hi, _, hs⟩ := hT.parts
  exact wpList_load_row hgd T x ho g hx T (cellsA L) (0, 0) _ hg hu rfl (by rw [hi, cellsA_size, hL]; simp [hs]) h
theorem wpList_store_box (hgd : o.guard = none) (x y : Operand) (ho : o.op = .store T x y) (g : Nat) (hx : a.eval x = .pointer (some ⟨g, 0, none⟩)) {M : List Int} (hy : a.eval y = .agg (cellsA M)) {n : Nat} {Z : List Int} (hT : BoxT P T n Z)
    (hg : IB T w g L) (hL : L.length = n) (hM : M.length = n)
    (h : ∀ w', IB T w' g M → w'.heap.size = w.heap.size → (∀ k, k ≠ g → w'.heap[k]? = w.heap[k]?) → (∀ B, B ≤ g → Below B w w') → wpList P ops Q rest (a.put o.dst undef) w') : wpList P ops Q (o :: rest) a w := by
  obtain ⟨i, hi, _, hs⟩ := hT.parts
  refine wpList_store_row hgd T x y ho g (cellsA M) hx hy T (cellsA L) hg (by rw [hi, cellsA_size, hM]; simp [hs]) (by rw [cellsA_size, cellsA_size, hL, hM]) (cellsA_one M) (h _ ?_ ?_ ?_ ?_)
  · exact setRow_heap w g _ _ T _ hg
  · simp [World.setRow]
  · intro k hk; exact setRow_other w g k _ hk
  · intro B hB; exact below_setRow (Below.refl B w) hB _
theorem splice_cells (L : List Int) (off : Nat) (m : List Int) : splice (cells1 L) off (cells1 m) = cells1 (splice L off m) := by
  simp [splice, cells1, List.map_take, List.map_drop]
/-- copy into a variable, out of cells that hold a list. -/
theorem wpList_copy_box (hgd : o.guard = none) (d s : Operand) (dT sT : TypeId) (ho : o.op = .call { callee := .builtin .copy, args := #[d, s], argTypes := #[dT, sT] })
    (elem : TypeId) (hu : P.underlying dT = some (.slice elem)) (hsz : (P.info? elem).map (·.size) = some 1)
    (g off dLen dCap : Nat) (ad : Addr) (sLen sCap : Nat) (hd : a.eval d = .slice (some ⟨g, off, none⟩) dLen dCap) (hs : a.eval s = .slice (some ad) sLen sCap)
    (hg : IB T w g L) (m : List Int) (hn : m.length = Nat.min sLen dLen) (hsrc : ∀ j v, (cells1 m)[j]? = some v → w.cell? (ad.add j) = some v) (hfit : off + m.length ≤ L.length)
    (h : ∀ w', IB T w' g (splice L off m) → w'.heap.size = w.heap.size → (∀ k, k ≠ g → w'.heap[k]? = w.heap[k]?) → (∀ B, B ≤ g → Below B w w') → wpList P ops Q rest (a.put o.dst (goInt m.length)) w') : wpList P ops Q (o :: rest) a w := by
  have hl : (cells1 m).length = m.length := by simp [cells1]
  refine wpList_copy_own hgd d s dT sT ho elem hu hsz g off dLen dCap ad sLen sCap hd hs (cellsA L) T hg (cells1 m) (by rw [hl, hn]) hsrc (by rw [hl, cellsA_size]; exact hfit) (cells1_one m) ?_
  rw [hl]
  have e : (((cellsA L).toList.take off ++ (cells1 m ++ (cellsA L).toList.drop (off + m.length))).toArray) = cellsA (splice L off m) := by
    show _ = (cells1 (splice L off m)).toArray
    rw [← splice_cells]
    simp only [splice, hl, cellsA]
  rw [e]
  refine h _ ?_ ?_ ?_ ?_
  · exact setRow_heap w g _ _ T _ hg
  · simp [World.setRow]
  · intro k hk; exact setRow_other w g k _ hk
  · intro B hB; exact below_setRow (Below.refl B w) hB _
/-- The result of a function that lies in a variable. -/
theorem results_box {fn : Func} {p : Tmp} (h : fn.results = #[.cell p T]) (tmps : Array Value) (g : Nat) (hp : tmps.getD p undef = .pointer (some ⟨g, 0, none⟩)) {n : Nat} {Z : List Int} (hT : BoxT P T n Z)
    {fs : Array Field} (hu : P.underlying T = some (.struct fs)) (hg : IB T w g L) (hL : L.length = n) : (results fn tmps).run P w = .ok (.agg (cellsA L)) w := by
  obtain ⟨i, hi, _, hs⟩ := hT.parts
  exact results_cell_row h tmps w g T (cellsA L) (0, 0) _ hp hg hu rfl (by rw [hi, cellsA_size, hL]; simp [hs])
theorem ret_box {fn : Func} {p : Tmp} {R : Ending → World → Prop} (h : fn.results = #[.cell p T]) {n : Nat} {Z : List Int} (hT : BoxT P T n Z) {fs : Array Field} (hu : P.underlying T = some (.struct fs)) (hd : a.defers = [])
    (g : Nat) (hp : a.tmps.getD p undef = .pointer (some ⟨g, 0, none⟩)) (hg : IB T w g L) (hL : L.length = n) (hR : R (.returned (.agg (cellsA L))) w) : bodyPost P fn R .ret a w :=
  ⟨hd, _, results_box h a.tmps g hp hT hu hg hL, hR⟩
theorem ret_box2 {fn : Func} {p q : Tmp} {R : Ending → World → Prop} (h : fn.results = #[.cell p T, .tmp q]) {n : Nat} {Z : List Int} (hT : BoxT P T n Z) {fs : Array Field} (hu : P.underlying T = some (.struct fs)) (hd : a.defers = [])
    (g : Nat) (hp : a.tmps.getD p undef = .pointer (some ⟨g, 0, none⟩)) (hg : IB T w g L) (hL : L.length = n) (hR : R (.returned (.tuple #[.agg (cellsA L), a.tmps.getD q undef])) w) : bodyPost P fn R .ret a w := by
  obtain ⟨i, hi, _, hs⟩ := hT.parts
  refine ⟨hd, _, ?_, hR⟩
  rw [results_cell_tmp h]
  have hl : (loadVar T ⟨g, 0, none⟩).run P w = .ok (.agg (cellsA L)) w := run_loadVar_row w g T T (cellsA L) (0, 0) _ hg hu rfl (by rw [hi, cellsA_size, hL]; simp [hs])
  rw [hp]
  simp [asAddr, hl, Result.andThen]
/-- A slice of the call's own, out of its block. -/
theorem iown_block {E : TypeId} {B : Nat} (hE : E = 3) (h : IB E w b L) (hB : B ≤ b) (hm : L.length ≤ maxLen) : IOwn w B (.slice (some ⟨b, 0, none⟩) L.length L.length) L := by
  subst hE
  refine ⟨cells1_length L, .inr ⟨b, L.length, cellsA L, rfl, hB, h, Nat.le_refl _, hm, ?_, ?_⟩⟩
  · rw [cellsA_size, Nat.mul_one]
  · show (cellsA L).toList.take (L.length * 1) = cells1 L
    rw [Nat.mul_one]
    exact List.take_of_length_le (by simp [cellsA, cells1])
theorem own_block {B g n : Nat} (h : IOwn w B (.slice (some ⟨g, 0, none⟩) n n) L) (hn : L.length = n) : IB 3 w g L ∧ B ≤ g := by
  obtain ⟨h1, h2⟩ := h
  rcases h2 with ⟨h2, _⟩ | ⟨g', cap, cur, hv, hB, hg, _, _, hs, ht⟩
  · cases h2
  · simp only [Value.slice.injEq, Option.some.injEq, Addr.mk.injEq, and_true] at hv
    obtain ⟨rfl, _, rfl⟩ := hv
    refine ⟨?_, hB⟩
    have e : cur = cellsA L := by
      rw [List.take_of_length_le (by simp [hs, hn])] at ht
      show cur = (cells1 L).toArray
      rw [← ht]
    rw [e] at hg
    exact hg
end Go.Proofs.Ythhdpjkmjebjhab
