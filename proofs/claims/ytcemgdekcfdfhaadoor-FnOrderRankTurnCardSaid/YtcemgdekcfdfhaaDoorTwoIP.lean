/- Two lists of numbers that grow side by side: one number more, in a region that draws no order; where a store turns one of them. -/
import Derived.Test.YtcemgdekcfdfhaaDoorTwoI
namespace Go.Proofs.YtcemgdekcfdfhaaDoor
open Go.RowKit
variable {S : TypeId}
theorem iappend_blk (PT : IntT S) {w : World} {ops : Array Oper} {rest : List Oper} {o : Oper} {a : Act} {Q : Exit → Act → World → Prop} (hgd : o.guard = none) (s x : Operand)
    (ho : o.op = .call { callee := .builtin .append, args := #[s, x], argTypes := #[S, S] }) {B : Nat} (v : Value) (m : List Int) (hs : a.eval s = v) (hown : IBlk w B v m)
    (ad : Addr) (p : Int) (hx : a.eval x = .slice (some ad) 1 1) (h0 : w.cell? (ad.add 0) = some (.int .i64 p)) (hm : m.length ≤ 2000000) (hB : B ≤ w.heap.size)
    (h : ∀ v' w', IBlk w' B v' (m ++ [p]) → w.grownBy w' v.ownBlock → (v'.ownBlock = v.ownBlock ∨ ∀ k, v'.ownBlock = some k → w.heap.size ≤ k) → wpList Tryd.prog ops Q rest (a.put o.dst v') w') : wpList Tryd.prog ops Q (o :: rest) a w := by
  obtain ⟨own, g0, hg0⟩ := hown
  have own' := own
  rcases own.2 with ⟨e, _⟩ | ⟨g, cap, cur, rfl, hb, hgg, hn, hmx, hsz, ht⟩
  · rw [e] at hg0; cases hg0
  · obtain ⟨i0, hi, hz0, hz1, hz2⟩ := info_parts intInfo
    have news : ∀ j u, ([.int .i64 p] : List Value)[j]? = some u → w.cell? (ad.add j) = some u := fun j u hj => by
      match j, hj with
      | 0, hj => cases hj; exact h0
    by_cases hc : m.length + 1 ≤ cap
    · refine wpList_append_fits w hgd s x S ho B 3 i0 1 PT hi hz1 g m.length cap (cells1 m) hs own' ad 1 1 [.int .i64 p] hx rfl news (by simp [Value.oneCell']) hc ?_
      intro w' h2 h3
      refine h _ w' ⟨?_, g, rfl⟩ h3 (.inl rfl)
      show World.ownsRow _ _ _ _ _ _ _
      rw [cells1_append, List.length_append]
      exact h2
    · refine wpList_append_grows w hgd s x S ho 3 i0 (.int .i64 0) 1 8 PT hi hz0 hz1 hz2 rfl (by decide) (some ⟨g, 0, none⟩) m.length cap (cells1 m) hs (fun e => by cases e) (cells1_length m)
        (fun b hb j u hu => by cases hb; exact World.ownsRow.cells own' rfl _ _ hu) ad 1 1 [.int .i64 p] hx rfl news (by simp [Value.oneCell']) (by omega) (by unfold maxLen; omega) (by omega) ?_
      intro v' w' h2 h3
      have o2 : IOwn w' w.heap.size v' (m ++ [p]) := by
        show World.ownsRow _ _ _ _ _ _ _
        rw [cells1_append, List.length_append]
        exact h2
      refine h v' w' ⟨o2.mono hB, ?_⟩ ⟨h3.os, h3.tape, h3.output, h3.size, fun i hi _ => h3.block i hi (by simp)⟩ (.inr fun k hk => (o2.lt k hk).1)
      rcases o2.2 with ⟨_, hn0⟩ | ⟨g', _, _, rfl, _⟩
      · simp at hn0
      · exact ⟨g', rfl⟩
theorem IOwn.keep' {w w' : World} {B : Nat} {v : Value} {l : List Int} (h : IOwn w B v l) {b : Nat} (k : ∀ g, g < w.heap.size → g ≠ b → w'.heap[g]? = w.heap[g]?) (hb : b < B) : IOwn w' B v l :=
  h.same fun g hg => k g (h.lt g hg).2 (by have := (h.lt g hg).1; omega)
end Go.Proofs.YtcemgdekcfdfhaaDoor
