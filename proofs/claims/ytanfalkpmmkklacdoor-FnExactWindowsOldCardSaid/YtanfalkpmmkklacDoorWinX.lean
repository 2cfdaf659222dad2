/- What the exact laws on windows name: how long the answers are, lists of numbers that a call answers. -/
import Derived.Test.YtanfalkpmmkklacDoorPcG
import Derived.Test.YtanfalkpmmkklacDoorWinSpec3
namespace Go.Proofs.YtanfalkpmmkklacDoor
open Go.RowKit

theorem young_len (l s : List Wn) : ((youngOf l s).getD []).length ≤ 12 := by
  unfold youngOf
  cases c : tightOf l s with
  | none => simp
  | some t => have := (tightOf_some c).len; have := (tightOf_some c).win.most; simp; omega
theorem old_len (l s : List Wn) : ((oldOf l s).getD []).length ≤ 12 := by
  unfold oldOf
  cases c : tightOf l s with
  | none => simp
  | some t => have := (tightOf_some c).len; have := (tightOf_some c).win.most; simp; omega
theorem tight12 (l s : List Wn) : ((tightOf l s).getD []).length ≤ 12 := tight_len
theorem ilb_gen {P : Program} {f : FuncId} {a : Array Value} {w : World} {b : Bool} {o : Option (List Int)} {m : List Int} (h : Calls P f a w fun e w' => ILB w o e w') (h1 : o.getD [] = m) (h2 : o.isSome = b) :
    Calls P f a w fun e w' => ∃ v, e = .returned (.tuple #[v, .bool b]) ∧ IOwn w' w.heap.size v m ∧ Below w.heap.size w w' := by
  subst h1 h2; exact h
end Go.Proofs.YtanfalkpmmkklacDoor
