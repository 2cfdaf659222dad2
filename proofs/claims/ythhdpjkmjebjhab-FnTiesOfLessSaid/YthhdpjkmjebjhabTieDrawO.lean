/- The draw of a matching for ties. -/
import Derived.Test.YthhdpjkmjebjhabTieDraws
import Derived.Test.YthhdpjkmjebjhabEventDraws
namespace Go.Proofs.Ythhdpjkmjebjhab
open Go.RowKit

def DrewOf (w : World) (e : Ending) (w' : World) : Prop := ∃ (v u x : Value) (l k : List Pc) (t : Int) (L : List Int), e = .returned (.tuple #[v, u, .int .i64 t, x]) ∧ Own 77 w' w.heap.size v l ∧ Own 77 w' w.heap.size u k ∧ IOwn w' w.heap.size x L ∧ Bd 100000 6 l ∧ Bd 100000 6 k ∧ (-1 ≤ t ∧ t ≤ 1001) ∧ IBd 20 9 L ∧ Below w.heap.size w w'
theorem DrawTiesOf_any {w : World} {a : Option Addr} {len cap : Nat} (h : Bytes w a len cap) :
    Calls Try.prog 25 #[.slice a len cap] w fun e w' => DrewOf w e w' := by
  go_enter Try.func25, Try.ntmps25
  go_wp2_with fail
  refine (open_any h).mono ?_
  rintro e w1 ⟨rfl, a1, b1, s1⟩
  go_wp2_with fail
  refine (l92Match_any a1 (by omega)).mono ?_
  rintro e w2 ⟨v, u, x, l, k, t, L, rfl, o1, o2, o3, d1, d2, ht, dl, a2, k2⟩
  have BB := Lib.hid (k2.below b1 (Nat.le_refl _) (by omega))
  have O1 := Lib.hid (o1.mono (B' := w.heap.size) (by omega)); have O2 := Lib.hid (o2.mono (B' := w.heap.size) (by omega)); have O3 := Lib.hid (o3.mono (B' := w.heap.size) (by omega)); have D1 := Lib.hid d1; have D2 := Lib.hid d2; have HT := Lib.hid ht; have DL := Lib.hid dl
  clear o1 o2 o3 d1 d2 a2 k2 ht dl
  go_wp2_with fail
  go_returns
  exact ⟨_, _, _, l, k, t, L, rfl, O1.out, O2.out, O3.out, D1.out, D2.out, HT.out, DL.out, BB.out⟩
end Go.Proofs.Ythhdpjkmjebjhab
