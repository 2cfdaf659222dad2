/- What FnWindows' walk names besides: lists that are no windows and steps, an append of a list inside a region. -/
import Derived.Test.YtanfalkpmmkklaaLawWP
namespace Go.Proofs.Ytanfalkpmmkklaa
open Go Go.RowKit

theorem win_more {l s : List Wn} (h : IsWin l s) (p : Wn) : isWin l (s ++ [p]) = false := by
  cases c : isWin l (s ++ [p])
  · rfl
  · have := (isWin_iff.1 c).len
    have := h.len
    rw [List.length_append, List.length_singleton] at *
    omega
theorem win_neg {l s : List Wn} {q : Nat} (hq : q < l.length) (y : Int) : isWin (l.set q (-1, y)) s = false := by
  cases c : isWin (l.set q (-1, y)) s
  · rfl
  · have h := (isWin_iff.1 c).okl q (by rw [List.length_set]; exact hq)
    rw [gW_get (by rw [List.length_set]; exact hq), List.getElem_set_self] at h
    have := h.1
    simp only at this
    omega
theorem step_row_g {T S : TypeId} (PT : PairT T S) {w : World} {ops : Array Oper} {o : Oper} {a : Act} {K : Act → World → Prop} {Q : Exit → Act → World → Prop} {E : Prop} (hw : Region.wanted o (yielded ops a.tmps) = true) (s x : Operand)
    (ho : o.op = .call { callee := .builtin .append, args := #[s, x], argTypes := #[S, S] }) {B : Nat} (v : Value) (m : List Pc) (hs : a.eval s = v) (hown : Own T w B v m)
    (u : Value) (l : List Pc) (hx : a.eval x = u) (hu : Row w u l) (hm : m.length + l.length ≤ 1100000) (hB : B ≤ w.heap.size)
    (h : ∀ v' w', Own T w' B v' (m ++ l) → w.grownBy w' v.ownBlock → K (a.put o.dst v') w') : if Region.wanted o (yielded ops a.tmps) = true then Oper.wp Try.prog o a w K Q else E := by
  obtain ⟨i0, hi, hz0, hz1, hz2⟩ := info_parts PT.info
  rw [if_pos hw]
  obtain ⟨ad, c, rfl, h1, h2, h4⟩ := hu.parts
  cases ad with
  | none =>
    have hl : l = [] := by
      rcases h4 with h4 | ⟨g, o, e, _⟩
      · exact h4
      · cases e
    subst hl
    exact Lib.wp_append_run w s x S S ho _ _ hs hx _ _ (append_nil_run PT hown _ c) (h v w (by rw [List.append_nil]; exact hown) ⟨rfl, rfl, rfl, Nat.le_refl _, fun _ _ _ => rfl⟩)
  | some ad =>
    refine wp_append_own w s x S ho B T i0 (.agg #[.int .i64 0, .int .i64 0]) 2 16 PT.slice hi hz0 hz1 hz2 rfl (by decide) v m.length (cells2 m) hs hown
      ad l.length c (cells2 l) hx (by rw [cells2_length]) (by
        rcases h4 with h4 | ⟨g, o, e, h5⟩
        · subst h4; intro j u hu; simp [cells2] at hu
        · cases e; exact lies_news h5) (cells2_one l) (by unfold maxLen; omega) (by omega) hB ?_
    intro v' w' h2 h3 _
    have ow : Own T w' B v' (m ++ l) := by
      show w'.ownsRow B _ 2 v' (m ++ l).length (cells2 (m ++ l))
      rw [cells2_append, List.length_append]
      exact h2
    exact h v' w' ow h3
end Go.Proofs.Ytanfalkpmmkklaa
