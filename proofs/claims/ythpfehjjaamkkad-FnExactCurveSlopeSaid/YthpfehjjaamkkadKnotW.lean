/- The exact laws of knots: what the walks name. -/
import Derived.Test.YthpfehjjaamkkadKnotM
import Derived.Test.YthpfehjjaamkkadKnotI
namespace Go.Proofs.Ythpfehjjaamkkad
open Go.RowKit

theorem lst_own {P : Program} {f : FuncId} {a : Array Value} {w : World} {m m' : List Pc} (h : Calls P f a w fun e w' => Lst 37 w m e w') (e : m = m') :
    Calls P f a w fun e w' => ∃ v, e = .returned v ∧ Owned w' w.heap.size w'.heap.size v m' ∧ Below w.heap.size w w' := by
  subst e; exact h.mono fun e w' ⟨v, h1, h2, h3⟩ => ⟨v, h1, h2.owned, h3⟩
theorem lstb_own {P : Program} {f : FuncId} {a : Array Value} {w : World} {o : Option (List Pc)} {m : List Pc} {b : Bool} (h : Calls P f a w fun e w' => LstB 37 w o e w') (e : o.getD [] = m) (e2 : o.isSome = b) :
    Calls P f a w fun e w' => ∃ v, e = .returned (.tuple #[v, .bool b]) ∧ Owned w' w.heap.size w'.heap.size v m ∧ Below w.heap.size w w' := by
  subst e; subst e2; exact h.mono fun e w' ⟨v, h1, h2, h3⟩ => ⟨v, h1, h2.owned, h3⟩
theorem Owned.low {w : World} {L U B : Nat} {v : Value} {l : List Pc} (h : Owned w L U v l) (hB : B ≤ L) : ∀ k, v.ownBlock = some k → B ≤ k := fun k hk => by
  have := (h.1.lt k hk).1; omega

end Go.Proofs.Ythpfehjjaamkkad
