/- The exact laws on cuts: what the walks name. -/
import Derived.Test.YtihgfhddljicaacIntM
import Derived.Test.YtihgfhddljicaacCutBestI
namespace Go.Proofs.Ytihgfhddljicaac
open Go.RowKit

variable {P : Program} {f : FuncId} {a : Array Value} {w : World} {b : Bool}
theorem same_below' {X : Ending → Prop} (h : Calls P f a w fun e w' => X e ∧ w = w') : Calls P f a w fun e w' => X e ∧ Below w.heap.size w w' :=
  h.mono fun e w' ⟨he, hw⟩ => ⟨he, by subst hw; exact Below.refl _ _⟩
theorem int_gen {r x : Int} (h : Calls P f a w fun e w' => e = .returned (.int .i64 r) ∧ Below w.heap.size w w') (h1 : r = x) :
    Calls P f a w fun e w' => e = .returned (.int .i64 x) ∧ Below w.heap.size w w' := by
  subst h1; exact h
theorem bool_gen {r x : Bool} (h : Calls P f a w fun e w' => e = .returned (.bool r) ∧ Below w.heap.size w w') (h1 : r = x) :
    Calls P f a w fun e w' => e = .returned (.bool x) ∧ Below w.heap.size w w' := by
  subst h1; exact h
theorem listB_gen {o : Option (List Int)} {m : List Int} (h : Calls P f a w fun e w' => ListB w o e w') (h1 : o.getD [] = m) (h2 : o.isSome = b) :
    Calls P f a w fun e w' => ∃ v, e = .returned (.tuple #[v, .bool b]) ∧ IOwn w' w.heap.size v m ∧ Below w.heap.size w w' := by
  subst h1 h2; exact h
theorem best20 (c : List Int) (lo mo : Int) : ((bestB c lo mo).getD []).length ≤ 1000 := by
  cases h : bestB c lo mo with
  | none => simp
  | some l =>
    obtain ⟨x, y, _, _, k⟩ := bestB_some h
    have := k.toAllowed.size; have := k.toAllowed.len
    simp only [Option.getD_some]; omega
end Go.Proofs.Ytihgfhddljicaac
