/- What some walks of the laws on events name besides: a match that is copied though it may be empty. -/
import Derived.Test.YtmibipnkjpkngaaLawE
namespace Go.Proofs.Ytmibipnkjpkngaa
open Go.RowKit

/-- A list of the call's own, copied behind nothing. -/
theorem iappend_copy {S : TypeId} (PT : IntT S) {w : World} {ops : Array Oper} {rest : List Oper} {o : Oper} {a : Act} {Q : Exit → Act → World → Prop} (hgd : o.guard = none) (s x : Operand)
    (ho : o.op = .call { callee := .builtin .append, args := #[s, x], argTypes := #[S, S] }) {B B' : Nat} (v : Value) (hs : a.eval s = v) (hown : IOwn w B v []) (u : Value) (m : List Int) (hx : a.eval x = u) (hu : IOwn w B' u m) (hm : m.length ≤ 1000) (hB : B ≤ w.heap.size)
    (h : ∀ v' w', IOwn w' B v' m → Below B w w' → wpList Try.prog ops Q rest (a.put o.dst v') w') : wpList Try.prog ops Q (o :: rest) a w := by
  rcases hu.2 with ⟨e, hn⟩ | ⟨g, cap, cur, e, hb, hgg, rest'⟩
  · subst e
    obtain rfl : m = [] := List.eq_nil_of_length_eq_zero hn
    exact iappend_none PT hgd s x ho v [] hs hown hx (h v w hown (Below.refl _ _))
  · subst e
    exact iappend_list PT hgd s x ho v [] hs hown ⟨g, 0, none⟩ m.length cap m hx rfl (fun j y hj => World.ownsRow.cells hu rfl _ _ hj) (by simp; omega) hB (fun v' w' h2 h3 => h v' w' (by simpa using h2) (hown.below h3 hB))
def DrewMatchO (w : World) (e : Ending) (w' : World) : Prop := ∃ (v u x : Value) (l k : List Pc) (t : Int) (L : List Int), e = .returned (.tuple #[v, u, .int .i64 t, x]) ∧ Row w' v l ∧ Row w' u k ∧ IOwn w' w.heap.size x L ∧ Bd 100000 6 l ∧ Bd 100000 6 k ∧ (-1 ≤ t ∧ t ≤ 1001) ∧ IBd 20 9 L ∧ Below w.heap.size w w'
theorem DrawMatchOkO_any {w : World} {a : Option Addr} {len cap : Nat} (h : Bytes w a len cap) :
    Calls Try.prog 15 #[.slice a len cap] w fun e w' => DrewMatchO w e w' := by
  go_enter Try.func15, Try.ntmps15
  go_wp2_with fail
  refine (open_any h).mono ?_
  rintro e w1 ⟨rfl, a1, b1, s1⟩
  go_wp2_with fail
  refine (l92Match_any a1 (by omega)).mono ?_
  rintro e w2 ⟨v, u, x, l, k, t, L, rfl, o1, o2, o3, d1, d2, ht, dl, a2, k2⟩
  have BB := Lib.hid (k2.below b1 (Nat.le_refl _) (by omega))
  have O1 := Lib.hid o1.row; have O2 := Lib.hid o2.row; have O3 := Lib.hid (o3.mono (B' := w.heap.size) (by omega)); have D1 := Lib.hid d1; have D2 := Lib.hid d2; have HT := Lib.hid ht; have DL := Lib.hid dl
  clear o1 o2 o3 d1 d2 a2 k2 ht dl
  go_wp2_with fail
  go_returns
  exact ⟨_, _, _, l, k, t, L, rfl, O1.out, O2.out, O3.out, D1.out, D2.out, HT.out, DL.out, BB.out⟩
end Go.Proofs.Ytmibipnkjpkngaa
