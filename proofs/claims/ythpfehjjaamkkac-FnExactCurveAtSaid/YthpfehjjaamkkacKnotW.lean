/- The exact laws of knots: what the walks name. -/
import Derived.Test.YthpfehjjaamkkacKnotM
import Derived.Test.YthpfehjjaamkkacKnotI
namespace Go.Proofs.Ythpfehjjaamkkac
open Go.RowKit

theorem lst_own {P : Program} {f : FuncId} {a : Array Value} {w : World} {m m' : List Pc} (h : Calls P f a w fun e w' => Lst 29 w m e w') (e : m = m') :
    Calls P f a w fun e w' => ∃ v, e = .returned v ∧ Owned w' w.heap.size w'.heap.size v m' ∧ Below w.heap.size w w' := by
  subst e; exact h.mono fun e w' ⟨v, h1, h2, h3⟩ => ⟨v, h1, h2.owned, h3⟩
theorem lstb_own {P : Program} {f : FuncId} {a : Array Value} {w : World} {o : Option (List Pc)} {m : List Pc} {b : Bool} (h : Calls P f a w fun e w' => LstB 29 w o e w') (e : o.getD [] = m) (e2 : o.isSome = b) :
    Calls P f a w fun e w' => ∃ v, e = .returned (.tuple #[v, .bool b]) ∧ Owned w' w.heap.size w'.heap.size v m ∧ Below w.heap.size w w' := by
  subst e; subst e2; exact h.mono fun e w' ⟨v, h1, h2, h3⟩ => ⟨v, h1, h2.owned, h3⟩
theorem mark_is {w : World} {L U : Nat} {v : Value} {l : List Pc} {x : Int} (h : Owned w L U v l) (hl : l.length ≤ 1048576) (hx : 1 + 2 * (l.length : Int) = x) :
    Calls Try.prog 34 #[v, .int .i64 1] w fun e w' => e = .returned (.int .i64 x) ∧ Owned w' L U v (marks l.length) ∧ Chg v w w' := by
  subst hx; exact (mark_any h.1 hl).mono fun e w' ⟨h1, h2, h3⟩ => ⟨h1, ⟨h2, h.2⟩, h3⟩
theorem held_is {w : World} {L U : Nat} {v : Value} {n : Nat} {x : Int} (h : Owned w L U v (marks n)) (hl : n ≤ 1048576) (hx : 1 + 2 * (n : Int) = x) :
    Calls Try.prog 35 #[v, .int .i64 1] w fun e w' => e = .returned (.int .i64 x) ∧ w = w' := by
  subst hx; exact held_any h.1 hl
theorem Owned.low {w : World} {L U B : Nat} {v : Value} {l : List Pc} (h : Owned w L U v l) (hB : B ≤ L) : ∀ k, v.ownBlock = some k → B ≤ k := fun k hk => by
  have := (h.1.lt k hk).1; omega

end Go.Proofs.Ythpfehjjaamkkac
