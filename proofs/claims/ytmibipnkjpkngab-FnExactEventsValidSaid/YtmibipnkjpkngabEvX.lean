/- The exact laws on events: what the walks name. -/
import Derived.Test.YtmibipnkjpkngabEvI
import Derived.Test.YtmibipnkjpkngabEvM
import Derived.Test.YtmibipnkjpkngabEventI
namespace Go.Proofs.Ytmibipnkjpkngab
open Go.RowKit

variable {P : Program} {f : FuncId} {a : Array Value} {w : World} {b : Bool}
theorem val_gen {r x : Value} (h : Calls P f a w fun e w' => Val w r e w') (h1 : r = x) : Calls P f a w fun e w' => e = .returned x ∧ Below w.heap.size w w' := by
  subst h1; exact h
theorem bestE_gen {o : Option (List Int)} {m : List Int} (h : Calls P f a w fun e w' => BestE w o e w') (h1 : o.getD [] = m) (h2 : o.isSome = b) :
    Calls P f a w fun e w' => ∃ v, e = .returned (.tuple #[v, .bool b]) ∧ IOwn w' w.heap.size v m ∧ Below w.heap.size w w' := by
  subst h1 h2; exact h
theorem best8 (a b : List Ev) (tol : Int) : ((bestEB a b tol).getD []).length ≤ 1000 := by
  have := (best_got (a := a) (b := b) (tol := tol)).1.1; omega
theorem sz_any (a : Option Addr) (n c : Nat) (x : Int) (h0 : 0 ≤ x) (h1 : x ≤ 1048576) (hn : n ≤ 9223372036854775807) (w : World) :
    Calls Try.prog 24 #[.slice a n c, .int .i64 x] w fun e w' => e = .returned (.int .i64 (if x - n < 0 then -1 else x - n)) ∧ w = w' := by
  by_cases h : x - (n : Int) < 0
  · have R : Hid ((if x - (n : Int) < 0 then (-1 : Int) else x - n) = -1) := Lib.hid (if_pos h)
    have e1 : IntKind.i64.wrap (x - (n : Int)) = x - n := IntWalk.i64_in _ (by omega)
    go_enter Try.func24, Try.ntmps24
    go_wp2
    go_ret
    exact ⟨by first | rfl | (rw [R.out]; rfl), rfl⟩
  · have R : Hid ((if x - (n : Int) < 0 then (-1 : Int) else x - n) = x - n) := Lib.hid (if_neg h)
    have e1 : IntKind.i64.wrap (x - (n : Int)) = x - n := IntWalk.i64_in _ (by omega)
    go_enter Try.func24, Try.ntmps24
    go_wp2
    go_ret
    exact ⟨by first | rfl | (rw [R.out]; rfl), rfl⟩
theorem sz_is {a : Option Addr} {n c : Nat} {x y : Int} (h0 : 0 ≤ x) (h1 : x ≤ 1048576) (hn : n ≤ 9223372036854775807) (h : (if x - (n : Int) < 0 then (-1 : Int) else x - n) = y) (w : World) :
    Calls Try.prog 24 #[.slice a n c, .int .i64 x] w fun e w' => e = .returned (.int .i64 y) ∧ Below w.heap.size w w' :=
  (sz_any a n c x h0 h1 hn w).mono fun e w' ⟨he, hw⟩ => ⟨by rw [he, h], by subst hw; exact Below.refl _ _⟩
end Go.Proofs.Ytmibipnkjpkngab
