/- What the walks of the laws on ties name. -/
import Derived.Test.YthhdpjkmjebjhabTieI
import Derived.Test.YthhdpjkmjebjhabTieSpec2
import Derived.Test.YthhdpjkmjebjhabTieDraws
import Derived.Test.YthhdpjkmjebjhabSameXTies
namespace Go.Proofs.Ythhdpjkmjebjhab
open Go.RowKit

/-- A list of the call's own, and true. -/
def GotT (T : TypeId) (w : World) (m : List Pc) (e : Ending) (w' : World) : Prop := ∃ v, e = .returned (.tuple #[v, .bool true]) ∧ Own T w' w.heap.size v m ∧ Below w.heap.size w w'
/-- .. none, and false. -/
def NoT (T : TypeId) (w : World) (e : Ending) (w' : World) : Prop := ∃ v, e = .returned (.tuple #[v, .bool false]) ∧ Own T w' w.heap.size v [] ∧ Below w.heap.size w w'
theorem lst_yes {T : TypeId} {P : Program} {f : FuncId} {a : Array Value} {w : World} {o : Option (List Pc)} {m : List Pc} (h : Calls P f a w fun e w' => LstB T w o e w') (ho : o = some m) : Calls P f a w fun e w' => GotT T w m e w' := by
  subst ho; exact h
theorem lst_no {T : TypeId} {P : Program} {f : FuncId} {a : Array Value} {w : World} {o : Option (List Pc)} (h : Calls P f a w fun e w' => LstB T w o e w') (ho : o = none) : Calls P f a w fun e w' => NoT T w e w' := by
  subst ho; exact h
variable {w : World} {v u : Value} {a b : List Ti} {c : Bool}
theorem tiesI_is (h : Row w v a) (hc : isTies a = c) : Calls Try.prog 34 #[v] w fun e w' => Val w (.bool c) e w' := by
  have := implTies_any h; rwa [hc] at this
theorem fitI_is (h : Row w v a) (k : Row w u b) (hc : fitT a b = c) : Calls Try.prog 29 #[v, u] w fun e w' => Val w (.bool c) e w' := by
  have := implFit_any h k; rwa [hc] at this
theorem fitSB (h : Row w v a) (k : Row w u b) (hc : fitT a b = c) : Calls Try.prog 52 #[v, u] w fun e w' => Val w (.bool c) e w' := by
  have := specFit_any h k; rwa [hc] at this
theorem tlen_n {l : List Ti} (h : Row w v l) : ∃ a c, v = .slice a l.length c ∧ l.length ≤ c ∧ c ≤ 9223372036854775807 := by
  obtain ⟨a, c, e, h1, h2⟩ := h.len
  unfold maxLen at h2
  exact ⟨a, c, e, h1, by omega⟩
theorem tknown_n {l : List Ti} (h : Row w v l) (h0 : 0 < l.length) : ∃ g o c, v = .slice (some ⟨g, o, none⟩) l.length c ∧ l.length ≤ c ∧ c ≤ 9223372036854775807 := by
  obtain ⟨g, o, c, e, h1, h2⟩ := h.known h0
  unfold maxLen at h2
  exact ⟨g, o, c, e, h1, by omega⟩
theorem own_base {T : TypeId} {B : Nat} {s : Option Addr} {n c : Nat} {l : List Ti} (h : Own T w B (.slice s n c) l) : (s = none ∧ n = 0 ∧ c = 0 ∧ l = []) ∨ ∃ g, s = some ⟨g, 0, none⟩ ∧ n = l.length := by
  have hl := h.1
  rcases h.2 with ⟨e, hn⟩ | ⟨g, cap, cur, e, rest⟩
  · simp only [Value.slice.injEq] at e
    exact .inl ⟨e.1, e.2.1, e.2.2, List.eq_nil_of_length_eq_zero hn⟩
  · simp only [Value.slice.injEq] at e
    exact .inr ⟨g, e.1, e.2.1⟩
theorem row_none (w : World) : Row w (.slice none 0 0) [] := row_empty none (Nat.zero_le _)
theorem row_past {w : World} {l : List Ti} (g q : Nat) (h : q = l.length) : Row w (.slice (some ⟨g, 0, none⟩) 0 0) (l.drop q) := by
  subst h; rw [List.drop_length]; exact row_empty _ (Nat.zero_le _)
theorem tcopy {T S : TypeId} (PT : PairT T S) {w : World} {ops : Array Oper} {rest : List Oper} {o : Oper} {a : Act} {Q : Exit → Act → World → Prop} (hgd : o.guard = none) (s x : Operand)
    (ho : o.op = .call { callee := .builtin .append, args := #[s, x], argTypes := #[S, S] }) {B B' : Nat} (v : Value) (hs : a.eval s = v) (hown : Own T w B v []) (u : Value) (m : List Pc) (hx : a.eval x = u) (hu : Own T w B' u m) (hm : m.length ≤ 1000) (hB : B ≤ w.heap.size)
    (h : ∀ v' w', Own T w' B v' m → Below B w w' → wpList Try.prog ops Q rest (a.put o.dst v') w') : wpList Try.prog ops Q (o :: rest) a w := by
  rcases hu.2 with ⟨e, hn⟩ | ⟨g, cap, cur, e, hb, hgg, rest'⟩
  · subst e
    obtain rfl : m = [] := List.eq_nil_of_length_eq_zero hn
    exact append_none PT hgd s x ho v [] hs hown hx (h v w hown (Below.refl _ _))
  · subst e
    exact append_list PT hgd s x ho v [] hs hown ⟨g, 0, none⟩ m.length cap m hx rfl (fun j y hj => World.ownsRow.cells hu rfl _ _ hj) (by simp; omega) hB (fun v' w' h2 h3 => h v' w' (by simpa using h2) (hown.below h3 hB))
end Go.Proofs.Ythhdpjkmjebjhab
