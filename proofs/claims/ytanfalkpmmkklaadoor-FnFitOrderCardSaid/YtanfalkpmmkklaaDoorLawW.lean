/- What the walks of the laws on windows name. (WinI: the program's contracts.) -/
import Derived.Test.YtanfalkpmmkklaaDoorWinI
import Derived.Test.YtanfalkpmmkklaaDoorWinSpec3
import Derived.Test.YtanfalkpmmkklaaDoorWinDraws
import Derived.Test.YtanfalkpmmkklaaDoorSameXWindows
import Derived.Test.YtanfalkpmmkklaaDoorSameI
namespace Go.Proofs.YtanfalkpmmkklaaDoor
open Go.RowKit

/-- A list of the call's own, and true. -/
def GotT (T : TypeId) (w : World) (m : List Pc) (e : Ending) (w' : World) : Prop := ∃ v, e = .returned (.tuple #[v, .bool true]) ∧ Own T w' w.heap.size v m ∧ Below w.heap.size w w'
/-- .. none, and false. -/
def NoT (T : TypeId) (w : World) (e : Ending) (w' : World) : Prop := ∃ v, e = .returned (.tuple #[v, .bool false]) ∧ Own T w' w.heap.size v [] ∧ Below w.heap.size w w'
theorem lst_yes {T : TypeId} {P : Program} {f : FuncId} {a : Array Value} {w : World} {o : Option (List Pc)} {m : List Pc} (h : Calls P f a w fun e w' => LstB T w o e w') (ho : o = some m) : Calls P f a w fun e w' => GotT T w m e w' := by
  subst ho; exact h
theorem lst_no {T : TypeId} {P : Program} {f : FuncId} {a : Array Value} {w : World} {o : Option (List Pc)} (h : Calls P f a w fun e w' => LstB T w o e w') (ho : o = none) : Calls P f a w fun e w' => NoT T w e w' := by
  subst ho; exact h
/-- .. of numbers. -/
def GotI (w : World) (m : List Int) (e : Ending) (w' : World) : Prop := ∃ v, e = .returned (.tuple #[v, .bool true]) ∧ IOwn w' w.heap.size v m ∧ Below w.heap.size w w'
def NoI (w : World) (e : Ending) (w' : World) : Prop := ∃ v, e = .returned (.tuple #[v, .bool false]) ∧ IOwn w' w.heap.size v [] ∧ Below w.heap.size w w'
theorem il_yes {P : Program} {f : FuncId} {a : Array Value} {w : World} {o : Option (List Int)} {m : List Int} (h : Calls P f a w fun e w' => ILB w o e w') (ho : o = some m) : Calls P f a w fun e w' => GotI w m e w' := by
  subst ho; exact h
theorem il_no {P : Program} {f : FuncId} {a : Array Value} {w : World} {o : Option (List Int)} (h : Calls P f a w fun e w' => ILB w o e w') (ho : o = none) : Calls P f a w fun e w' => NoI w e w' := by
  subst ho; exact h
theorem valw_is {P : Program} {f : FuncId} {a : Array Value} {w : World} {x y : Value} (h : Calls P f a w fun e w' => Val w x e w') (ho : x = y) : Calls P f a w fun e w' => Val w y e w' := by
  subst ho; exact h
theorem tight_drop {l s t : List Wn} (h : Tgt l s t) : youngOf l s = some (t.map Prod.fst) ∧ oldOf l s = some (t.map Prod.snd) ∧ wideOf l s = widths t := by
  have e := tightOf_is h
  unfold youngOf oldOf wideOf; rw [e]; exact ⟨rfl, rfl, rfl⟩
theorem tlen_n {w : World} {v : Value} {l : List Pc} (h : Row w v l) : ∃ a c, v = .slice a l.length c ∧ l.length ≤ c ∧ c ≤ 9223372036854775807 := by
  obtain ⟨a, c, e, h1, h2⟩ := h.len
  unfold maxLen at h2
  exact ⟨a, c, e, h1, by omega⟩
theorem len_n {w : World} {v : Value} {l : List Int} (h : IRow w v l) : ∃ a c, v = .slice a l.length c ∧ l.length ≤ c ∧ c ≤ 9223372036854775807 := by
  obtain ⟨a, c, e, h1, h2⟩ := h.len
  unfold maxLen at h2
  exact ⟨a, c, e, h1, by omega⟩
theorem iappend_copy {S : TypeId} (PT : IntT S) {w : World} {ops : Array Oper} {rest : List Oper} {o : Oper} {a : Act} {Q : Exit → Act → World → Prop} (hgd : o.guard = none) (s x : Operand)
    (ho : o.op = .call { callee := .builtin .append, args := #[s, x], argTypes := #[S, S] }) {B B' : Nat} (v : Value) (hs : a.eval s = v) (hown : IOwn w B v []) (u : Value) (m : List Int) (hx : a.eval x = u) (hu : IOwn w B' u m) (hm : m.length ≤ 1000) (hB : B ≤ w.heap.size)
    (h : ∀ v' w', IOwn w' B v' m → Below B w w' → wpList Tryd.prog ops Q rest (a.put o.dst v') w') : wpList Tryd.prog ops Q (o :: rest) a w := by
  rcases hu.2 with ⟨e, hn⟩ | ⟨g, cap, cur, e, hb, hgg, rest'⟩
  · subst e
    obtain rfl : m = [] := List.eq_nil_of_length_eq_zero hn
    exact iappend_none PT hgd s x ho v [] hs hown hx (h v w hown (Below.refl _ _))
  · subst e
    exact iappend_list PT hgd s x ho v [] hs hown ⟨g, 0, none⟩ m.length cap m hx rfl (fun j y hj => World.ownsRow.cells hu rfl _ _ hj) (by simp; omega) hB (fun v' w' h2 h3 => h v' w' (by simpa using h2) (hown.below h3 hB))
theorem tcopy {T S : TypeId} (PT : PairT T S) {w : World} {ops : Array Oper} {rest : List Oper} {o : Oper} {a : Act} {Q : Exit → Act → World → Prop} (hgd : o.guard = none) (s x : Operand)
    (ho : o.op = .call { callee := .builtin .append, args := #[s, x], argTypes := #[S, S] }) {B B' : Nat} (v : Value) (hs : a.eval s = v) (hown : Own T w B v []) (u : Value) (m : List Pc) (hx : a.eval x = u) (hu : Own T w B' u m) (hm : m.length ≤ 1000) (hB : B ≤ w.heap.size)
    (h : ∀ v' w', Own T w' B v' m → Below B w w' → wpList Tryd.prog ops Q rest (a.put o.dst v') w') : wpList Tryd.prog ops Q (o :: rest) a w := by
  rcases hu.2 with ⟨e, hn⟩ | ⟨g, cap, cur, e, hb, hgg, rest'⟩
  · subst e
    obtain rfl : m = [] := List.eq_nil_of_length_eq_zero hn
    exact append_none PT hgd s x ho v [] hs hown hx (h v w hown (Below.refl _ _))
  · subst e
    exact append_list PT hgd s x ho v [] hs hown ⟨g, 0, none⟩ m.length cap m hx rfl (fun j y hj => World.ownsRow.cells hu rfl _ _ hj) (by simp; omega) hB (fun v' w' h2 h3 => h v' w' (by simpa using h2) (hown.below h3 hB))
theorem own_base {w : World} {T : TypeId} {B : Nat} {s : Option Addr} {n c : Nat} {l : List Pc} (h : Own T w B (.slice s n c) l) : (s = none ∧ n = 0 ∧ c = 0 ∧ l = []) ∨ ∃ g, s = some ⟨g, 0, none⟩ ∧ n = l.length := by
  have hl := h.1
  rcases h.2 with ⟨e, hn⟩ | ⟨g, cap, cur, e, rest⟩
  · simp only [Value.slice.injEq] at e
    exact .inl ⟨e.1, e.2.1, e.2.2, List.eq_nil_of_length_eq_zero hn⟩
  · simp only [Value.slice.injEq] at e
    exact .inr ⟨g, e.1, e.2.1⟩
theorem row_none (w : World) : Row w (.slice none 0 0) [] := row_empty none (Nat.zero_le _)
theorem isame_is {w : World} {v u : Value} {l m : List Int} {c : Bool} (h : IRow w v l) (k : IRow w u m) (e : decide (l = m) = c) : Calls Tryd.prog 17 #[v, u] w fun e w' => e = .returned (.bool c) ∧ Below w.heap.size w w' := by
  have := sameInts_any h k
  rwa [e] at this
end Go.Proofs.YtanfalkpmmkklaaDoor
