/- Two lists of numbers that grow side by side, each in a block of its own. -/
import Derived.Test.YtcemgdekcfdfhaaDoorInts
import Derived.Test.YtcemgdekcfdfhaaDoorTwoGrow
import Derived.ArgAppend
import Derived.Deep.RegionLawGrows
import Derived.Lib.AppendZerosOnto
import Derived.Lib.SliceRun
import Derived.Lib.Walk
namespace Go.Proofs.YtcemgdekcfdfhaaDoor
open Go.RowKit

structure IBlk (w : World) (B : Nat) (v : Value) (l : List Int) : Prop where
  own : IOwn w B v l
  blk : ∃ g, v.ownBlock = some g
variable {S : TypeId} {w w' : World} {B : Nat} {v u : Value} {l m : List Int}
theorem IBlk.grow (h : IBlk w B v l) (k : Below w.heap.size w w') : IBlk w' B v l := ⟨h.own.grow k, h.blk⟩
theorem iblk_new (h : B ≤ w.heap.size) : IBlk (w.alloc (.cells #[] 3)) B (.slice (some ⟨w.heap.size, 0, none⟩) 0 0) [] := ⟨iown_new h, _, rfl⟩
/-- The other list stays. -/
theorem IBlk.stays (h : IBlk w B v l) (k : w.grownBy w' u.ownBlock) (a : Apt v u) : IBlk w' B v l :=
  ⟨h.own.same fun b hb => k.block b (h.own.lt b hb).2 (fun e => a b hb e.symm), h.blk⟩
/-- One number more, in the same block or in a new one: at a step of a region that draws its order. -/
theorem step_iblk (PT : IntT S) {w : World} {ops : Array Oper} {o : Oper} {a : Act} {K : Act → World → Prop} {Q : Exit → Act → World → Prop} {E : Prop} (hgd : o.guard = none) (s x : Operand)
    (ho : o.op = .call { callee := .builtin .append, args := #[s, x], argTypes := #[S, S] }) {B : Nat} (v : Value) (m : List Int) (hs : a.eval s = v) (hown : IBlk w B v m)
    (ad : Addr) (p : Int) (hx : a.eval x = .slice (some ad) 1 1) (h0 : w.cell? (ad.add 0) = some (.int .i64 p)) (hm : m.length ≤ 1000000) (hB : B ≤ w.heap.size)
    (h : ∀ v' w', IBlk w' B v' (m ++ [p]) → w.grownBy w' v.ownBlock → (v'.ownBlock = v.ownBlock ∨ ∀ k, v'.ownBlock = some k → w.heap.size ≤ k) → K (a.put o.dst v') w') : if Region.wanted o (yielded ops a.tmps) = true then Oper.wp Tryd.prog o a w K Q else E := by
  obtain ⟨own, g0, hg0⟩ := hown
  have own' := own
  rcases own.2 with ⟨e, _⟩ | ⟨g, cap, cur, rfl, hb, hgg, hn, hmx, hsz, ht⟩
  · rw [e] at hg0; cases hg0
  · obtain ⟨i0, hi, hz0, hz1, hz2⟩ := info_parts intInfo
    have news : ∀ j u, ([.int .i64 p] : List Value)[j]? = some u → w.cell? (ad.add j) = some u := fun j u hj => by
      match j, hj with
      | 0, hj => cases hj; exact h0
    by_cases hc : m.length + 1 ≤ cap
    · obtain ⟨w', hr, h2, h3⟩ := run_append_fits (P := Tryd.prog) w B S o.type 3 i0 1 PT hi hz1 g m.length cap (cells1 m) own' ad 1 1 [.int .i64 p] rfl news (by simp [Value.oneCell']) hc
      have hw : Region.wanted o (yielded ops a.tmps) = true := by simp [Region.wanted, hgd]
      rw [if_pos hw]
      refine Lib.wp_append_run w s x S S ho _ _ hs hx _ _ hr (h _ w' ⟨?_, g, rfl⟩ h3 (.inl rfl))
      show World.ownsRow _ _ _ _ _ _ _
      rw [cells1_append, List.length_append]
      exact h2
    · refine step_append_grows hgd s x S ho 3 i0 (.int .i64 0) 1 8 PT hi hz0 hz1 hz2 rfl (by decide) (some ⟨g, 0, none⟩) m.length cap (cells1 m) hs (fun e => by cases e) (cells1_length m)
        (fun b hb j u hu => by cases hb; exact World.ownsRow.cells own' rfl _ _ hu) ad 1 1 [.int .i64 p] hx rfl news (by simp [Value.oneCell']) (by omega) (by unfold maxLen; omega) (by omega) ?_
      intro v' w' h2 h3
      have o2 : IOwn w' w.heap.size v' (m ++ [p]) := by
        show World.ownsRow _ _ _ _ _ _ _
        rw [cells1_append, List.length_append]
        exact h2
      refine h v' w' ⟨o2.mono hB, ?_⟩ ⟨h3.os, h3.tape, h3.output, h3.size, fun i hi _ => h3.block i hi (by simp)⟩ (.inr fun k hk => (o2.lt k hk).1)
      rcases o2.2 with ⟨_, hn0⟩ | ⟨g', _, _, rfl, _⟩
      · simp at hn0
      · exact ⟨g', rfl⟩
end Go.Proofs.YtcemgdekcfdfhaaDoor
