/- Two lists of pairs that grow side by side, each in a block of its own. -/
import Derived.Test.YtcemgdekcfdfhaaDoorPair
import Derived.ArgAppend
namespace Go.Proofs.YtcemgdekcfdfhaaDoor
open Go.RowKit

/-- Not in one block. -/
def Apt (v u : Value) : Prop := ∀ b, v.ownBlock = some b → u.ownBlock ≠ some b
theorem Apt.symm {v u : Value} (h : Apt v u) : Apt u v := fun b hb hv => h b hv hb
/-- .. and in a block. -/
structure Blk (T : TypeId) (w : World) (B : Nat) (v : Value) (l : List Pc) : Prop where
  own : Own T w B v l
  blk : ∃ g, v.ownBlock = some g
variable {T S : TypeId} {w w' : World} {B : Nat} {v u : Value} {l m : List Pc}
theorem Blk.grow (h : Blk T w B v l) (k : Below w.heap.size w w') : Blk T w' B v l := ⟨h.own.grow k, h.blk⟩
theorem blk_new (T : TypeId) (h : B ≤ w.heap.size) : Blk T (w.alloc (.cells #[] T)) B (.slice (some ⟨w.heap.size, 0, none⟩) 0 0) [] := ⟨own_new T h, _, rfl⟩
/-- The other list stays. -/
theorem Blk.stays (h : Blk T w B v l) (k : w.grownBy w' u.ownBlock) (a : Apt v u) : Blk T w' B v l :=
  ⟨h.own.same fun b hb => k.block b (h.own.lt b hb).2 (fun e => a b hb e.symm), h.blk⟩
/-- One pair more: in the same block, or in a new one. -/
theorem append_blk (PT : PairT T S) {w : World} {ops : Array Oper} {rest : List Oper} {o : Oper} {a : Act} {Q : Exit → Act → World → Prop} (hgd : o.guard = none) (s x : Operand)
    (ho : o.op = .call { callee := .builtin .append, args := #[s, x], argTypes := #[S, S] }) {B : Nat} (v : Value) (m : List Pc) (hs : a.eval s = v) (hown : Blk T w B v m)
    (ad : Addr) (p : Pc) (hx : a.eval x = .slice (some ad) 1 1) (h0 : w.cell? (ad.add 0) = some (.int .i64 p.1)) (h1 : w.cell? (ad.add 1) = some (.int .i64 p.2)) (hm : m.length ≤ 1000000) (hB : B ≤ w.heap.size)
    (h : ∀ v' w', Blk T w' B v' (m ++ [p]) → w.grownBy w' v.ownBlock → (v'.ownBlock = v.ownBlock ∨ ∀ k, v'.ownBlock = some k → w.heap.size ≤ k) → wpList Tryd.prog ops Q rest (a.put o.dst v') w') : wpList Tryd.prog ops Q (o :: rest) a w := by
  obtain ⟨own, g0, hg0⟩ := hown
  have own' := own
  rcases own.2 with ⟨e, _⟩ | ⟨g, cap, cur, rfl, hb, hgg, hn, hmx, hsz, ht⟩
  · rw [e] at hg0; cases hg0
  · obtain ⟨i0, hi, hz0, hz1, hz2⟩ := info_parts PT.info
    have news : ∀ j u, ([.int .i64 p.1, .int .i64 p.2] : List Value)[j]? = some u → w.cell? (ad.add j) = some u := fun j u hj => by
      match j, hj with
      | 0, hj => cases hj; exact h0
      | 1, hj => cases hj; exact h1
    by_cases hc : m.length + 1 ≤ cap
    · refine wpList_append_fits w hgd s x S ho B T i0 2 PT.slice hi hz1 g m.length cap (cells2 m) hs own' ad 1 1 [.int .i64 p.1, .int .i64 p.2] hx rfl news (by simp [Value.oneCell']) hc ?_
      intro w' h2 h3
      refine h _ w' ⟨?_, g, rfl⟩ h3 (.inl rfl)
      show World.ownsRow _ _ _ _ _ _ _
      rw [cells2_append, List.length_append]
      exact h2
    · refine wpList_append_grows w hgd s x S ho T i0 (.agg #[.int .i64 0, .int .i64 0]) 2 16 PT.slice hi hz0 hz1 hz2 rfl (by decide) (some ⟨g, 0, none⟩) m.length cap (cells2 m) hs (fun e => by cases e) (cells2_length m)
        (fun b hb j u hu => by cases hb; exact World.ownsRow.cells own' rfl _ _ hu) ad 1 1 [.int .i64 p.1, .int .i64 p.2] hx rfl news (by simp [Value.oneCell']) (by omega) (by unfold maxLen; omega) (by omega) ?_
      intro v' w' h2 h3
      have o2 : Own T w' w.heap.size v' (m ++ [p]) := by
        show World.ownsRow _ _ _ _ _ _ _
        rw [cells2_append, List.length_append]
        exact h2
      refine h v' w' ⟨o2.mono hB, ?_⟩ ⟨h3.os, h3.tape, h3.output, h3.size, fun i hi _ => h3.block i hi (by simp)⟩ (.inr fun k hk => (o2.lt k hk).1)
      rcases o2.2 with ⟨_, hn0⟩ | ⟨g', _, _, rfl, _⟩
      · simp at hn0
      · exact ⟨g', rfl⟩
theorem Apt.new {v v' u : Value} {w : World} (a : Apt v u) (hu : ∀ k, u.ownBlock = some k → k < w.heap.size) (h : v'.ownBlock = v.ownBlock ∨ ∀ k, v'.ownBlock = some k → w.heap.size ≤ k) : Apt v' u := by
  intro b hb hu'
  rcases h with h | h
  · exact a b (h ▸ hb) hu'
  · have := h b hb; have := hu b hu'; omega
theorem Own.keep' {w w' : World} {B : Nat} {v : Value} {l : List Pc} (h : Own T w B v l) {b : Nat} (k : ∀ g, g < w.heap.size → g ≠ b → w'.heap[g]? = w.heap[g]?) (hb : b < B) : Own T w' B v l :=
  h.same fun g hg => k g (h.lt g hg).2 (by have := (h.lt g hg).1; omega)
end Go.Proofs.YtcemgdekcfdfhaaDoor
