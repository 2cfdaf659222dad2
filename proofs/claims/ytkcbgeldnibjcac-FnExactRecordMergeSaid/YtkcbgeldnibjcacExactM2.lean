/- The exact law on merged records: what its walk names. -/
import Derived.Test.YtkcbgeldnibjcacIntM
import Derived.Test.YtkcbgeldnibjcacSpecMerge
namespace Go.Proofs.Ytkcbgeldnibjcac
open Go.RowKit

theorem merge20 (l m : List Int) (k : Int) : (((mergeOf l m k).map Prod.fst).getD []).length ≤ 1000 ∧ (((mergeOf l m k).map Prod.snd).getD []).length ≤ 1000 := by
  cases h : mergeOf l m k with
  | none => simp
  | some p =>
    obtain ⟨j, _, hr, hj, _, rfl⟩ := mergeOf_is h
    have := rec_len hr
    simp only [Option.map_some, Option.getD_some]
    rw [mergedE_length (by omega), mergedA_length hj]; omega
theorem mergeB_gen {P : Program} {f : FuncId} {x : Array Value} {w : World} {o : Option (List Int × List Int)} {me ma : List Int} {ob : Bool} (h : Calls P f x w fun e w' => MergeB w o e w') (e1 : (o.map Prod.fst).getD [] = me) (e2 : (o.map Prod.snd).getD [] = ma) (e3 : o.isSome = ob) :
    Calls P f x w fun e w' => ∃ v u, e = .returned (.tuple #[v, u, .bool ob]) ∧ TwoOwn w' w.heap.size v u me ma ∧ Below w.heap.size w w' := by
  subst e1 e2 e3; exact h
end Go.Proofs.Ytkcbgeldnibjcac
