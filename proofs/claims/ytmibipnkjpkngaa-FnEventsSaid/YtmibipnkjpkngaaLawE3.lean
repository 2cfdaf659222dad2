/- What some walks of the laws on events name besides: events that are copied though there may be none. -/
import Derived.Test.YtmibipnkjpkngaaLawE
namespace Go.Proofs.Ytmibipnkjpkngaa
open Go.RowKit

/-- A list of the call's own, copied behind nothing. -/
theorem append_copy {T S : TypeId} (PT : PairT T S) {w : World} {ops : Array Oper} {rest : List Oper} {o : Oper} {a : Act} {Q : Exit → Act → World → Prop} (hgd : o.guard = none) (s x : Operand)
    (ho : o.op = .call { callee := .builtin .append, args := #[s, x], argTypes := #[S, S] }) {B B' : Nat} (v : Value) (hs : a.eval s = v) (hown : Own T w B v []) (u : Value) (m : List Pc) (hx : a.eval x = u) (hu : Own T w B' u m) (hm : m.length ≤ 1000) (hB : B ≤ w.heap.size)
    (h : ∀ v' w', Own T w' B v' m → Below B w w' → wpList Try.prog ops Q rest (a.put o.dst v') w') : wpList Try.prog ops Q (o :: rest) a w := by
  rcases hu.2 with ⟨e, hn⟩ | ⟨g, cap, cur, e, hb, hgg, rest'⟩
  · subst e
    obtain rfl : m = [] := List.eq_nil_of_length_eq_zero hn
    exact append_none PT hgd s x ho v [] hs hown hx (h v w hown (Below.refl _ _))
  · subst e
    exact append_list PT hgd s x ho v [] hs hown ⟨g, 0, none⟩ m.length cap m hx rfl (fun j y hj => World.ownsRow.cells hu rfl _ _ hj) (by simp; omega) hB (fun v' w' h2 h3 => h v' w' (by simpa using h2) (hown.below h3 hB))
def DrewPairO (w : World) (e : Ending) (w' : World) : Prop := ∃ (v u : Value) (l k : List Pc) (t : Int), e = .returned (.tuple #[v, u, .int .i64 t]) ∧ Row w' v l ∧ Own 27 w' w.heap.size u k ∧ Bd 100000 6 l ∧ Bd 100000 6 k ∧ (-1 ≤ t ∧ t ≤ 1001) ∧ Below w.heap.size w w'
theorem DrawMatchMostO_any {w : World} {a : Option Addr} {len cap : Nat} (h : Bytes w a len cap) :
    Calls Try.prog 23 #[.slice a len cap] w fun e w' => DrewPairO w e w' := by
  go_enter Try.func23, Try.ntmps23
  go_wp2_with fail
  refine (open_any h).mono ?_
  rintro e w1 ⟨rfl, a1, b1, s1⟩
  go_wp2_with fail
  refine (l92Pair_any a1 (by omega)).mono ?_
  rintro e w2 ⟨v, u, l, k, t, rfl, o1, o2, d1, d2, ht, a2, k2⟩
  have BB := Lib.hid (k2.below b1 (Nat.le_refl _) (by omega))
  have O1 := Lib.hid o1.row; have O2 := Lib.hid (o2.mono (B' := w.heap.size) (by omega)); have D1 := Lib.hid d1; have D2 := Lib.hid d2; have HT := Lib.hid ht
  clear o1 o2 d1 d2 a2 k2 ht
  go_wp2_with fail
  go_returns
  exact ⟨_, _, l, k, t, rfl, O1.out, O2.out, D1.out, D2.out, HT.out, BB.out⟩
end Go.Proofs.Ytmibipnkjpkngaa
