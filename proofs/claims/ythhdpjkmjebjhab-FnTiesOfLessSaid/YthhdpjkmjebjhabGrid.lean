/- Slices of slices of integers that a call makes itself, each in a block of its own: read, written, grown. No program in it but its types. -/
import Derived.Test.YthhdpjkmjebjhabInts
import Derived.Test.YthhdpjkmjebjhabBox
namespace Go.Proofs.Ythhdpjkmjebjhab
open Go.RowKit

/-- A row of m integers: the whole of block g. -/
abbrev rowV (m g : Nat) : Value := .slice (some ⟨g, 0, none⟩) m m
/-- A slice of rows of m integers. -/
structure Grid (w : World) (B : Nat) (v : Value) (m : Nat) (gs : List Nat) (f : Nat → Nat → Int) : Prop where
  own : w.ownsRow B 47 1 v gs.length (gs.map (rowV m))
  row : ∀ i (h : i < gs.length), IB 3 w gs[i] ((List.range m).map (f i))
  low : ∀ g ∈ gs, B ≤ g
  apart : gs.Nodup
theorem Grid.lt {w : World} {B m : Nat} {v : Value} {gs : List Nat} {f : Nat → Nat → Int} (h : Grid w B v m gs f) : ∀ g ∈ gs, g < w.heap.size := by
  intro g hg
  obtain ⟨i, hi, rfl⟩ := List.getElem_of_mem hg
  exact (h.row i hi).lt
theorem Grid.same {w w' : World} {B m : Nat} {v : Value} {gs : List Nat} {f : Nat → Nat → Int} (h : Grid w B v m gs f) (k : ∀ b, b < w.heap.size → B ≤ b → w'.heap[b]? = w.heap[b]?) : Grid w' B v m gs f := by
  refine ⟨⟨h.own.1, ?_⟩, fun i hi => ?_, h.low, h.apart⟩
  · rcases h.own.2 with hn | ⟨g, cap, cur, rfl, hb, hgg, rest⟩
    · exact .inl hn
    · exact .inr ⟨g, cap, cur, rfl, hb, (k g (Array.getElem?_eq_some_iff.1 hgg).1 hb).trans hgg, rest⟩
  · exact (k _ (h.row i hi).lt (h.low _ (List.getElem_mem hi))).trans (h.row i hi)
theorem Grid.grow {w w' : World} {B m : Nat} {v : Value} {gs : List Nat} {f : Nat → Nat → Int} (h : Grid w B v m gs f) (k : Below w.heap.size w w') : Grid w' B v m gs f :=
  h.same fun b hb _ => k.block b hb
theorem Grid.mono {w : World} {B B' m : Nat} {v : Value} {gs : List Nat} {f : Nat → Nat → Int} (h : Grid w B v m gs f) (k : B' ≤ B) : Grid w B' v m gs f := by
  refine ⟨⟨h.own.1, ?_⟩, h.row, fun g hg => Nat.le_trans k (h.low g hg), h.apart⟩
  rcases h.own.2 with hn | ⟨g, cap, cur, rfl, hb, rest⟩
  · exact .inl hn
  · exact .inr ⟨g, cap, cur, rfl, Nat.le_trans k hb, rest⟩
theorem Grid.congr {w : World} {B m : Nat} {v : Value} {gs : List Nat} {f f' : Nat → Nat → Int} (h : Grid w B v m gs f) (e : ∀ i k, i < gs.length → k < m → f i k = f' i k) : Grid w B v m gs f' := by
  refine ⟨h.own, fun i hi => ?_, h.low, h.apart⟩
  have : (List.range m).map (f' i) = (List.range m).map (f i) := by
    apply List.map_congr_left
    intro k hk
    exact (e i k hi (List.mem_range.1 hk)).symm
  rw [this]; exact h.row i hi
/-- The slice of the rows lies in a block of its own. -/
theorem Grid.at {w : World} {B m : Nat} {v : Value} {gs : List Nat} {f : Nat → Nat → Int} (h : Grid w B v m gs f) (h0 : 0 < gs.length) :
    ∃ gv c, v = .slice (some ⟨gv, 0, none⟩) gs.length c ∧ gs.length ≤ c ∧ c ≤ maxLen ∧ B ≤ gv ∧ gv < w.heap.size ∧ (∀ i (hi : i < gs.length), w.cell? ⟨gv, i, none⟩ = some (rowV m gs[i])) ∧ gv ∉ gs := by
  have h' := h.own
  have hlt := World.ownsRow.lt h'
  rcases h.own.2 with ⟨_, hn⟩ | ⟨g, cap, cur, rfl, hb, hgg, hn, hm, hs, ht⟩
  · omega
  · refine ⟨g, cap, rfl, hn, hm, hb, (hlt g rfl).2, fun i hi => ?_, fun hg => ?_⟩
    · exact (World.ownsRow.cellAt h' i (by omega)).trans (by simp [hi])
    · obtain ⟨i, hi, e⟩ := List.getElem_of_mem hg
      have r := h.row i hi
      rw [e] at r
      have r' : w.heap[g]? = some (.cells (cellsA ((List.range m).map (f i))) 3 (0, 0)) := r
      rw [hgg] at r'
      simp at r'
theorem Grid.cell {w : World} {B m : Nat} {v : Value} {gs : List Nat} {f : Nat → Nat → Int} (h : Grid w B v m gs f) (i : Nat) (hi : i < gs.length) (k : Nat) (hk : k < m) : w.cell? ⟨gs[i], k, none⟩ = some (.int .i64 (f i k)) := by
  have := (h.row i hi).cell k (by simpa using hk)
  simpa using this
theorem Grid.froz {w : World} {B m : Nat} {v : Value} {gs : List Nat} {f : Nat → Nat → Int} (h : Grid w B v m gs f) (i : Nat) (hi : i < gs.length) (k : Nat) : w.frozen? ⟨gs[i], k, none⟩ = false := (h.row i hi).froz k
theorem Grid.set {w : World} {B m : Nat} {v : Value} {gs : List Nat} {f : Nat → Nat → Int} (h : Grid w B v m gs f) (i : Nat) (hi : i < gs.length) (k : Nat) (x : Int) : Grid (w.setCell ⟨gs[i], k, none⟩ (.int .i64 x)) B v m gs (fun i' k' => if i' = i ∧ k' = k then x else f i' k') := by
  refine ⟨⟨h.own.1, ?_⟩, fun j hj => ?_, h.low, h.apart⟩
  · obtain ⟨gv, c, e, _, _, _, _, _, hno⟩ := h.at (by omega)
    rcases h.own.2 with hn | ⟨g, cap, cur, e2, hb, hgg, rest⟩
    · exact .inl hn
    · rw [e] at e2
      simp only [Value.slice.injEq, Option.some.injEq, Addr.mk.injEq, and_true] at e2
      obtain ⟨rfl, _, rfl⟩ := e2
      exact .inr ⟨gv, c, cur, e, hb, (Below.heap_setCell w ⟨gs[i], k, none⟩ _ gv (fun e => hno (by rw [e]; exact List.getElem_mem hi))).trans hgg, rest⟩
  · by_cases e : j = i
    · subst e
      have := (h.row j hj).set k x
      refine Eq.trans this ?_
      have e3 : ((List.range m).map (f j)).set k x = (List.range m).map ((fun i' k' => if i' = j ∧ k' = k then x else f i' k') j) := by
        apply List.ext_getElem
        · simp
        · intro n h1 h2
          simp only [List.getElem_set, List.getElem_map, List.getElem_range, true_and]
          by_cases c : k = n
          · rw [if_pos c, if_pos c.symm]
          · rw [if_neg c, if_neg fun d => c d.symm]
      rw [e3]
    · have hp := List.pairwise_iff_getElem.1 h.apart
      have hne : gs[j] ≠ gs[i] := by
        rcases Nat.lt_or_ge j i with c | c
        · exact hp j i hj hi c
        · exact fun d => hp i j hi hj (by omega) d.symm
      have := (h.row j hj).other (i := k) hne (.int .i64 x)
      have e3 : (List.range m).map ((fun i' k' => if i' = i ∧ k' = k then x else f i' k') j) = (List.range m).map (f j) := by
        apply List.map_congr_left
        intro n _
        simp [e]
      rw [e3]; exact this
theorem Grid.store {w : World} {B m : Nat} {v : Value} {gs : List Nat} {f : Nat → Nat → Int} (h : Grid w B v m gs f) (i : Nat) (hi : i < gs.length) (k : Nat) (x : Value) : Below B w (w.setCell ⟨gs[i], k, none⟩ x) :=
  (Below.refl B w).setCell (p := ⟨gs[i], k, none⟩) (h.low _ (List.getElem_mem hi)) x
theorem grid_new {w : World} {B : Nat} (h : B ≤ w.heap.size) (m : Nat) (f : Nat → Nat → Int) : Grid (w.alloc (.cells #[] 47)) B (.slice (some ⟨w.heap.size, 0, none⟩) 0 0) m [] f :=
  ⟨World.ownsRow_made _ _ 0 h (by unfold maxLen; omega) rfl, fun i hi => by simp at hi, fun g hg => by simp at hg, List.nodup_nil⟩
theorem sliceInfo : (Try.prog.info? 47).map (fun i => (i.zero, i.size, i.bytes)) = some (some (.slice none 0 0), 1, 24) := by kernel_rfl
theorem sinfo_parts : ∃ i, Try.prog.info? 47 = some i ∧ i.zero = some (.slice none 0 0) ∧ i.size = 1 ∧ i.bytes = 24 := by
  have h := sliceInfo
  cases hq : Try.prog.info? 47 with
  | none => simp [hq] at h
  | some i => simp [hq] at h; exact ⟨i, rfl, h.1, h.2.1, h.2.2⟩
/-- One row more: the block g, which is none of the others. -/
theorem gappend {w : World} {ops : Array Oper} {rest : List Oper} {o : Oper} {a : Act} {Q : Exit → Act → World → Prop} (hgd : o.guard = none) (s x : Operand)
    (ho : o.op = .call { callee := .builtin .append, args := #[s, x], argTypes := #[116, 116] }) {B m : Nat} (v : Value) (gs : List Nat) (f : Nat → Nat → Int) (hs : a.eval s = v) (hown : Grid w B v m gs f)
    (ad : Addr) (g : Nat) (hx : a.eval x = .slice (some ad) 1 1) (h0 : w.cell? (ad.add 0) = some (rowV m g)) (hg : IB 3 w g ((List.range m).map (f gs.length))) (hlow : B ≤ g) (hnew : g ∉ gs) (hm : gs.length ≤ 1000000) (hB : B ≤ w.heap.size)
    (h : ∀ v' w', Grid w' B v' m (gs ++ [g]) f → Below B w w' → wpList Try.prog ops Q rest (a.put o.dst v') w') : wpList Try.prog ops Q (o :: rest) a w := by
  obtain ⟨i0, hi, hz0, hz1, hz2⟩ := sinfo_parts
  refine wpList_append_own w hgd s x 116 ho B 47 i0 (.slice none 0 0) 1 24 Try.underlying116 hi hz0 hz1 hz2 rfl (by decide) v gs.length (gs.map (rowV m)) hs hown.own
    ad 1 1 [rowV m g] hx rfl (fun j u hj => by
      match j, hj with
      | 0, hj => cases hj; exact h0) (by simp [Value.oneCell']) (by unfold maxLen; omega) (by omega) hB ?_
  intro v' w' h2 h3 _
  have hno : ∀ b, v.ownBlock = some b → ∀ T L, w.heap[b]? = some (.cells (cellsA L) T (0, 0)) → T = 47 := by
    intro b hb T L hL
    rcases hown.own.2 with ⟨e, _⟩ | ⟨g', cap, cur, e, _, hgg, _⟩
    · rw [e] at hb; cases hb
    · rw [e] at hb
      simp only [Value.ownBlock, Option.some.injEq] at hb
      rw [← hb, hgg] at hL
      simp only [Option.some.injEq, Obj.cells.injEq] at hL
      exact hL.2.1.symm
  have keep : ∀ b L, IB 3 w b L → IB 3 w' b L := fun b L hL =>
    (h3.block b hL.lt fun e => by have := hno b e.symm _ _ hL; simp at this).trans hL
  refine h v' w' ⟨?_, fun i hi => ?_, fun g' hg' => ?_, ?_⟩ ((Below.refl _ _).grown h3 hB fun k hk => (World.ownsRow.lt hown.own k hk).1)
  · rw [List.map_append, List.length_append]; exact h2
  · rw [List.length_append, List.length_singleton] at hi
    by_cases c : i < gs.length
    · rw [List.getElem_append_left c]; exact keep _ _ (hown.row i c)
    · obtain rfl : i = gs.length := by omega
      rw [List.getElem_append_right (Nat.le_refl _)]
      simp only [Nat.sub_self, List.getElem_singleton]
      exact keep _ _ hg
  · rcases List.mem_append.1 hg' with k | k
    · exact hown.low _ k
    · simp only [List.mem_singleton] at k; rw [k]; exact hlow
  · rw [List.nodup_append]
    exact ⟨hown.apart, by simp, fun a ha b hb => by simp only [List.mem_singleton] at hb; subst hb; intro e; subst e; exact hnew ha⟩
end Go.Proofs.Ythhdpjkmjebjhab
