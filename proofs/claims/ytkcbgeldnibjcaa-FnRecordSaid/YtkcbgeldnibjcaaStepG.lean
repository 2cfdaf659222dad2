import Derived.Test.YtkcbgeldnibjcaaLawM
namespace Go.Proofs.Ytkcbgeldnibjcaa
open Go.RowKit

theorem step_iappend_list_g {S : TypeId} (PT : IntT S) {w : World} {ops : Array Oper} {o : Oper} {a : Act} {K : Act → World → Prop} {Q : Exit → Act → World → Prop} {E : Prop} (hw : Region.wanted o (yielded ops a.tmps) = true) (s x : Operand)
    (ho : o.op = .call { callee := .builtin .append, args := #[s, x], argTypes := #[S, S] }) {B : Nat} (v : Value) (m : List Int) (hs : a.eval s = v) (hown : IOwn w B v m)
    (ad : Addr) (n c : Nat) (ms : List Int) (hx : a.eval x = .slice (some ad) n c) (hn : ms.length = n) (hnews : ∀ j u, (cells1 ms)[j]? = some u → w.cell? (ad.add j) = some u) (hm : m.length + n ≤ 1100000) (hB : B ≤ w.heap.size)
    (h : ∀ v' w', IOwn w' B v' (m ++ ms) → w.grownBy w' v.ownBlock → K (a.put o.dst v') w') : if Region.wanted o (yielded ops a.tmps) = true then Oper.wp Try.prog o a w K Q else E := by
  obtain ⟨i0, hi, hz0, hz1, hz2⟩ := info_parts intInfo
  rw [if_pos hw]
  refine wp_append_own w s x S ho B 3 i0 (.int .i64 0) 1 8 PT hi hz0 hz1 hz2 rfl (by decide) v m.length (cells1 m) hs hown
    ad n c (cells1 ms) hx (by rw [cells1_length, hn]) hnews (cells1_one ms) (by unfold maxLen; omega) (by omega) hB ?_
  intro v' w' h2 h3 _
  refine h v' w' ?_ h3
  show w'.ownsRow B _ 1 v' (m ++ ms).length (cells1 (m ++ ms))
  rw [cells1_append, List.length_append, hn]
  exact h2
end Go.Proofs.Ytkcbgeldnibjcaa
