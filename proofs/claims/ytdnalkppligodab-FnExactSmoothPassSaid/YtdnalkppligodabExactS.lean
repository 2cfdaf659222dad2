/- The exact laws on rows: what the walks name. -/
import Derived.Test.YtdnalkppligodabIntM
import Derived.Test.YtdnalkppligodabRowImpl3
namespace Go.Proofs.Ytdnalkppligodab
open Go.RowKit

variable {P : Program} {f : FuncId} {a : Array Value} {w : World} {l : List Int} {b : Bool}
theorem same_below {X : Ending → Prop} (h : Calls P f a w fun e w' => X e ∧ w = w') : Calls P f a w fun e w' => X e ∧ Below w.heap.size w w' :=
  h.mono fun e w' ⟨he, hw⟩ => ⟨he, by subst hw; exact Below.refl _ _⟩
theorem num_gen {o : Option Int} {x : Int} (h : Calls P f a w fun e w' => NumB o e ∧ Below w.heap.size w w') (h1 : o.getD 0 = x) (h2 : o.isSome = b) :
    Calls P f a w fun e w' => e = .returned (.tuple #[.int .i64 x, .bool b]) ∧ Below w.heap.size w w' := by
  subst h1 h2; exact h
theorem range_gen {o : Option (Int × Int)} {x y : Int} (h : Calls P f a w fun e w' => RangeB o e ∧ Below w.heap.size w w') (h1 : (o.getD (0, 0)).1 = x) (h2 : (o.getD (0, 0)).2 = y) (h3 : o.isSome = b) :
    Calls P f a w fun e w' => e = .returned (.tuple #[.int .i64 x, .int .i64 y, .bool b]) ∧ Below w.heap.size w w' := by
  subst h1 h2 h3; exact h
theorem int_gen {r x : Int} (h : Calls P f a w fun e w' => e = .returned (.int .i64 r) ∧ Below w.heap.size w w') (h1 : r = x) :
    Calls P f a w fun e w' => e = .returned (.int .i64 x) ∧ Below w.heap.size w w' := by
  subst h1; exact h
theorem listB_gen {o : Option (List Int)} {m : List Int} (h : Calls P f a w fun e w' => ListB w o e w') (h1 : o.getD [] = m) (h2 : o.isSome = b) :
    Calls P f a w fun e w' => ∃ v, e = .returned (.tuple #[v, .bool b]) ∧ IOwn w' w.heap.size v m ∧ Below w.heap.size w w' := by
  subst h1 h2; exact h
theorem many20 (l : List Int) (n : Int) : ((manyOf l n).getD []).length ≤ 1000 := by
  unfold manyOf
  split
  · rename_i h
    have := isRow_iff.1 (manyOk_iff.1 h).1
    simp only [Option.getD_some, passN_length]; omega
  · simp
theorem pass20 (l : List Int) : ((passOf l).getD []).length ≤ 1000 := by
  unfold passOf
  split
  · rename_i h
    have := isRow_iff.1 h
    simp only [Option.getD_some, pass_length]; omega
  · simp
end Go.Proofs.Ytdnalkppligodab
