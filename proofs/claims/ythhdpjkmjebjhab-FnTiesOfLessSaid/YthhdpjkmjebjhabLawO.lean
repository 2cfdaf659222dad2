/- What the walk of the law on fewer pairs names besides. -/
import Derived.Test.YthhdpjkmjebjhabInts
import Derived.Test.YthhdpjkmjebjhabEvent
namespace Go.Proofs.Ythhdpjkmjebjhab
open Go.RowKit

variable {w : World} {v : Value}
theorem len_n {l : List Int} (h : IRow w v l) : ∃ a c, v = .slice a l.length c ∧ l.length ≤ c ∧ c ≤ 9223372036854775807 := by
  obtain ⟨a, c, e, h1, h2⟩ := h.len
  unfold maxLen at h2
  exact ⟨a, c, e, h1, by omega⟩
/-- A list of the call's own, copied behind nothing. -/
theorem iappend_copy {S : TypeId} (PT : IntT S) {w : World} {ops : Array Oper} {rest : List Oper} {o : Oper} {a : Act} {Q : Exit → Act → World → Prop} (hgd : o.guard = none) (s x : Operand)
    (ho : o.op = .call { callee := .builtin .append, args := #[s, x], argTypes := #[S, S] }) {B B' : Nat} (v : Value) (hs : a.eval s = v) (hown : IOwn w B v []) (u : Value) (m : List Int) (hx : a.eval x = u) (hu : IOwn w B' u m) (hm : m.length ≤ 1000) (hB : B ≤ w.heap.size)
    (h : ∀ v' w', IOwn w' B v' m → Below B w w' → wpList Try.prog ops Q rest (a.put o.dst v') w') : wpList Try.prog ops Q (o :: rest) a w := by
  rcases hu.2 with ⟨e, hn⟩ | ⟨g, cap, cur, e, hb, hgg, rest'⟩
  · subst e
    obtain rfl : m = [] := List.eq_nil_of_length_eq_zero hn
    exact iappend_none PT hgd s x ho v [] hs hown hx (h v w hown (Below.refl _ _))
  · subst e
    exact iappend_list PT hgd s x ho v [] hs hown ⟨g, 0, none⟩ m.length cap m hx rfl (fun j y hj => World.ownsRow.cells hu rfl _ _ hj) (by simp; omega) hB (fun v' w' h2 h3 => h v' w' (by simpa using h2) (hown.below h3 hB))
end Go.Proofs.Ythhdpjkmjebjhab
