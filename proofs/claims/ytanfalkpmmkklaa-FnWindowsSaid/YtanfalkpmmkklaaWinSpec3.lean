/- The contracts of the model's functions on windows, third part: ages that fit, the least and the greatest ones, what is left. -/
import Derived.Test.YtanfalkpmmkklaaWinSpec2
import Derived.Test.YtanfalkpmmkklaaGrw
namespace Go.Proofs.Ytanfalkpmmkklaa
open Go.RowKit

/-- A list of numbers of the call's own, and whether there is one. -/
def ILB (w : World) (o : Option (List Int)) (e : Ending) (w' : World) : Prop :=
  ∃ v, e = .returned (.tuple #[v, .bool o.isSome]) ∧ IOwn w' w.heap.size v (o.getD []) ∧ Below w.heap.size w w'
theorem inT : IntT 34 := Try.underlying34
theorem inW_in (w : Wn) (x : Int) : inW w x = isIn x w.1 w.2 := by
  rw [Bool.eq_iff_iff]; simp only [inW, isIn, Bool.and_eq_true, decide_eq_true_eq]
def chkW (l s : List Wn) (a : List Int) (i : Nat) : Bool := inW (gW l i) (gI a i) && (i == 0 || inW (gW s (i - 1)) (gI a i - gI a (i - 1)))
theorem fitB_chk (l s : List Wn) (a : List Int) : fitB l s a = (isWin l s && decide (a.length = l.length) && (List.range l.length).all (chkW l s a)) := rfl
theorem chk_all {l s : List Wn} {a : List Int} (hw : isWin l s = true) (hl : a.length = l.length) (h : ∀ i, i < l.length → chkW l s a i = true) : fitB l s a = true := by
  rw [fitB_chk, hw, decide_eq_true hl]
  simp only [Bool.true_and, List.all_eq_true, List.mem_range]
  exact h
theorem chk_not {l s : List Wn} {a : List Int} {i : Nat} (hi : i < l.length) (h : chkW l s a i = false) : fitB l s a = false := by
  rw [fitB_chk]
  have : (List.range l.length).all (chkW l s a) = false := by
    cases c : (List.range l.length).all (chkW l s a)
    · rfl
    · rw [List.all_eq_true] at c
      have := c i (List.mem_range.2 hi); rw [h] at this; cases this
  rw [this, Bool.and_false]
theorem fit_invalid {l s : List Wn} {a : List Int} (h : isWin l s = false ∨ a.length ≠ l.length) : fitB l s a = false := by
  rw [fitB_chk]; rcases h with h | h
  · rw [h]; rfl
  · rw [decide_eq_false h]; simp
theorem tight_len {l s : List Wn} : ((tightOf l s).getD []).length ≤ 12 := by
  cases c : tightOf l s with
  | none => simp
  | some t => have := (tightOf_some c).len; have := (tightOf_some c).win.most; simp; omega
end Go.Proofs.Ytanfalkpmmkklaa
