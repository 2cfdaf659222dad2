/- The draws of the laws on orders. -/
import Derived.Test.YtcemgdekcfdfhabOrdDraw
import Derived.Test.YtcemgdekcfdfhabOrdRank
namespace Go.Proofs.Ytcemgdekcfdfhab
open Go.RowKit

/-- Two lists of numbers of layers. -/
structure Drawn2 (w w' : World) (v u : Value) (l s : List Int) : Prop where
  one : IOwn w' w.heap.size v l
  two : IOwn w' w.heap.size u s
  l1 : 1 ≤ l.length
  l3 : l.length ≤ 3
  s1 : 1 ≤ s.length
  s4 : s.length ≤ 4
  bl : Lay7 l
  bs : Lay7 s
def DrewO (w : World) (e : Ending) (w' : World) : Prop := ∃ v u l s, e = .returned (.tuple #[v, u]) ∧ Drawn2 w w' v u l s ∧ Below w.heap.size w w'
/-- .. and two numbers. -/
def DrewO2 (w : World) (e : Ending) (w' : World) : Prop := ∃ v u l s i k, e = .returned (.tuple #[v, u, .int .i64 i, .int .i64 k]) ∧ Drawn2 w w' v u l s ∧ -1 ≤ i ∧ i ≤ 5 ∧ 0 ≤ k ∧ k ≤ 5 ∧ Below w.heap.size w w'
/-- .. and a rank. -/
def DrewO1 (w : World) (e : Ending) (w' : World) : Prop := ∃ v u l s n, e = .returned (.tuple #[v, u, .int .i64 n]) ∧ Drawn2 w w' v u l s ∧ -1 ≤ n ∧ n ≤ 728933458176 ∧ Below w.heap.size w w'
theorem DrawOrderCount_any {w : World} {a : Option Addr} {len cap : Nat} (h : Bytes w a len cap) :
    Calls Try.prog 15 #[.slice a len cap] w fun e w' => DrewO w e w' := by
  go_enter Try.func15, Try.ntmps15
  go_wp2_with fail
  refine (open_any h).mono ?_
  rintro e w1 ⟨rfl, a1, b1, s1⟩
  go_wp2_with fail
  refine (l92Parts_any a1 (by omega)).mono ?_
  rintro e w2 ⟨v, u, l, s, rfl, o1, o2, -, l1, l3, m1, m4, d1, d2, a2, k2⟩
  have BB := Lib.hid (k2.below b1 (Nat.le_refl _) (by omega))
  have O1 := Lib.hid (o1.own.mono (B' := w.heap.size) (by omega)); have O2 := Lib.hid (o2.own.mono (B' := w.heap.size) (by omega)); have D1 := Lib.hid d1; have D2 := Lib.hid d2
  clear o1 o2 a2 k2 d1 d2
  go_wp2_with fail
  go_ret2
  exact ⟨v, u, l, s, rfl, ⟨O1.out, O2.out, l1, l3, m1, m4, D1.out, D2.out⟩, BB.out⟩
set_option maxHeartbeats 1600000 in
theorem DrawOrderBetween_any {w : World} {a : Option Addr} {len cap : Nat} (h : Bytes w a len cap) :
    Calls Try.prog 10 #[.slice a len cap] w fun e w' => DrewO2 w e w' := by
  go_enter Try.func10, Try.ntmps10
  go_wp2_with fail
  refine (open_any h).mono ?_
  rintro e w1 ⟨rfl, a1, b1, s1⟩
  go_wp2_with fail
  refine (l92Parts_any a1 (by omega)).mono ?_
  rintro e w2 ⟨v, u, l, s, rfl, o1, o2, -, l1, l3, m1, m4, d1, d2, a2, k2⟩
  have B2 := Lib.hid (k2.below b1 (Nat.le_refl _) (by omega))
  have O1 := Lib.hid (o1.own.mono (B' := w.heap.size + 1) (by omega)); have O2 := Lib.hid (o2.own.mono (B' := w.heap.size + 1) (by omega)); have D1 := Lib.hid d1; have D2 := Lib.hid d2; have A2 := Lib.hid a2
  clear o1 o2 a2 k2 d1 d2
  go_wp2_with fail
  refine (pick_at 6 A2.out (by omega)).mono ?_
  rintro e w3 ⟨x, rfl, p1, q1, _, a3, k3⟩
  replace q1 := q1 (by decide)
  have A3 := Lib.hid a3; have B3 := Lib.hid (k3.below B2.out (Nat.le_refl _) B2.out.size); have O3 := Lib.hid (O1.out.keep' k3.block (by omega)); have U3 := Lib.hid (O2.out.keep' k3.block (by omega))
  clear a3 k3 A2 B2 O1 O2
  go_wp2_with fail
  refine (pick_at 20 A3.out (by omega)).mono ?_
  rintro e w4 ⟨y, rfl, p2, q2, _, a4, k4⟩
  replace q2 := q2 (by decide)
  have A4 := Lib.hid a4; have B4 := Lib.hid (k4.below B3.out (Nat.le_refl _) B3.out.size); have O4 := Lib.hid (O3.out.keep' k4.block (by omega)); have U4 := Lib.hid (U3.out.keep' k4.block (by omega))
  obtain ⟨z, hz⟩ : ∃ z, y.tdiv 19 = z := ⟨_, rfl⟩
  have zb : 0 ≤ z ∧ z ≤ 1 := by rw [← hz, Int.tdiv_eq_ediv_of_nonneg (by omega)]; omega
  have hz2 : y / 19 = z := by rw [← hz, Int.tdiv_eq_ediv_of_nonneg (by omega)]
  have e1 : IntKind.i64.wrap z = z := IntWalk.i64_in _ (by omega)
  have e2 : IntKind.i64.wrap (x - z) = x - z := IntWalk.i64_in _ (by omega)
  clear a4 k4 A3 B3 O3 U3
  go_wp2_with fail
  refine (pick_at 6 A4.out (by omega)).mono ?_
  rintro e w5 ⟨k, rfl, p3, q3, _, a5, k5⟩
  replace q3 := q3 (by decide)
  have B5 := Lib.hid (k5.below B4.out (Nat.le_refl _) B4.out.size); have O5 := Lib.hid (O4.out.keep' k5.block (by omega)); have U5 := Lib.hid (U4.out.keep' k5.block (by omega))
  clear a5 k5 A4 B4 O4 U4
  go_wp2_with fail
  go_returns
  exact ⟨v, u, l, s, x - z, k, rfl, ⟨O5.out.mono (by omega), U5.out.mono (by omega), l1, l3, m1, m4, D1.out, D2.out⟩, by omega, by omega, p3, by omega, B5.out⟩
end Go.Proofs.Ytcemgdekcfdfhab
