/- The draws of years, ages and numbers of eras. -/
import Derived.Test.YtkcnblojkdaboaaDoorDraw
import Derived.Deep.RegionWith
namespace Go.Proofs.YtkcnblojkdaboaaDoor
open Go.RowKit

/-- What a draw of a number comes to: it lies between lo and hi, the reader has read at most c bytes more. -/
def Drawn (lo hi : Int) (w w' : World) (b m : Nat) (e : Ending) : Prop :=
  ∃ y : Int, e = .returned (.int .i64 y) ∧ lo ≤ y ∧ y ≤ hi ∧ At w' b m ∧ Keep b w w'
theorem drawn_mk {lo hi y : Int} {w w' : World} {b m m' : Nat} (h1 : lo ≤ y) (h2 : y ≤ hi) (h3 : At w' b m') (h4 : m' ≤ m) (h5 : Keep b w w') : Drawn lo hi w w' b m (.returned (.int .i64 y)) :=
  ⟨y, rfl, h1, h2, h3.mono h4, h5⟩

theorem l91Year_any {w : World} {b m : Nat} (h : At w b m) (hm : m ≤ 900000) :
    Calls Tryd.prog 20 #[.pointer (some ⟨b, 0, none⟩)] w fun e w' => Drawn (-300000) 300000 w w' b (m + 4) e := by
  go_enter Tryd.func20, Tryd.ntmps20
  go_wp2_with fail
  refine (pick_at _ h (by omega)).mono ?_
  rintro e w1 ⟨r, rfl, r0, r1, _, a1, k1⟩
  replace r1 := r1 (by decide)
  by_cases z : r = 0
  · subst z
    go_wp2_with fail
    refine (pick_at _ (a1.alloc _) (by omega)).mono ?_
    rintro e w2 ⟨q, rfl, q0, q1, _, a2, k2⟩
    replace q1 := q1 (by decide)
    have hs := k2.size
    have c0 := k2.cell (p := ⟨w1.heap.size, 0, none⟩) (by simp) (by have := a1.lt; simp; omega)
    have c1 := k2.cell (p := ⟨w1.heap.size, 1, none⟩) (by simp) (by have := a1.lt; simp; omega)
    have c2 := k2.cell (p := ⟨w1.heap.size, 2, none⟩) (by simp) (by have := a1.lt; simp; omega)
    have c3 := k2.cell (p := ⟨w1.heap.size, 3, none⟩) (by simp) (by have := a1.lt; simp; omega)
    simp at c0 c1 c2 c3
    have hq : q = 0 ∨ q = 1 ∨ q = 2 ∨ q = 3 := by omega
    have kk := (k1.trans (Keep.alloc b w1 (.cells #[.int .i64 200000, .int .i64 (-200000), .int .i64 200001, .int .i64 (-200001)] 3))).trans k2
    rcases hq with rfl | rfl | rfl | rfl
    all_goals
      go_wp2
      go_ret
      exact drawn_mk (by decide) (by decide) a2 (by omega) kk
  · by_cases z1 : r ≤ 3
    · have z2 : r = 1 ∨ r = 2 ∨ r = 3 := by omega
      clear z z1
      rcases z2 with rfl | rfl | rfl
      all_goals
        go_wp2_with fail
        refine (pick_at _ a1 (by omega)).mono ?_
        rintro e w2 ⟨q, rfl, q0, q1, _, a2, k2⟩
        replace q1 := q1 (by decide)
        go_wp2
        go_ret
        exact drawn_mk (by omega) (by omega) a2 (by omega) (k1.trans k2)
    · have e0 : (r == 0) = false := by simp; omega
      have e1 : (r == 1) = false := by simp; omega
      have e2 : (r == 2) = false := by simp; omega
      have e3 : (r == 3) = false := by simp; omega
      go_wp2_with fail
      refine (pick_at _ a1 (by omega)).mono ?_
      rintro e w2 ⟨q, rfl, q0, q1, _, a2, k2⟩
      replace q1 := q1 (by decide)
      go_wp2_with fail
      refine (pick_at _ a2 (by omega)).mono ?_
      rintro e w3 ⟨s, rfl, s0, s1, _, a3, k3⟩
      replace s1 := s1 (by decide)
      go_wp2
      go_ret
      exact drawn_mk (by omega) (by omega) a3 (by omega) ((k1.trans k2).trans k3)

/-- What a draw of a number out of a code comes to. -/
def Drew (lo hi : Int) (w w' : World) (e : Ending) : Prop := ∃ y : Int, e = .returned (.int .i64 y) ∧ lo ≤ y ∧ y ≤ hi ∧ Below w.heap.size w w'
theorem drew_mk {lo hi y : Int} {w w' : World} (h1 : lo ≤ y) (h2 : y ≤ hi) (h3 : Below w.heap.size w w') : Drew lo hi w w' (.returned (.int .i64 y)) := ⟨y, rfl, h1, h2, h3⟩
theorem DrawYearText_any {w : World} {a : Option Addr} {len cap : Nat} (h : Bytes w a len cap) :
    Calls Tryd.prog 10 #[.slice a len cap] w fun e w' => Drew (-300000) 300000 w w' e := by
  go_enter Tryd.func10, Tryd.ntmps10
  go_wp2_with fail
  refine (open_any h).mono ?_
  rintro e w1 ⟨rfl, a1, b1, s1⟩
  go_wp2_with fail
  refine (l91Year_any a1 (by omega)).mono ?_
  rintro e w2 ⟨y, rfl, y0, y1, a2, k2⟩
  go_wp2
  go_ret
  exact drew_mk y0 y1 (k2.below b1 (Nat.le_refl _) (by omega))
theorem DrawYearOf_any {w : World} {a : Option Addr} {len cap : Nat} (h : Bytes w a len cap) :
    Calls Tryd.prog 16 #[.slice a len cap] w fun e w' => Drew (-500000) 500000 w w' e := by
  go_enter Tryd.func16, Tryd.ntmps16
  go_wp2_with fail
  refine (open_any h).mono ?_
  rintro e w1 ⟨rfl, a1, b1, s1⟩
  go_wp2_with fail
  refine (pick_at _ a1 (by omega)).mono ?_
  rintro e w2 ⟨r, rfl, r0, r1, _, a2, k2⟩
  replace r1 := r1 (by decide)
  by_cases z : r = 0
  · subst z
    go_wp2_with fail
    refine (pick_at _ (a2.alloc _) (by omega)).mono ?_
    rintro e w3 ⟨q, rfl, q0, q1, _, a3, k3⟩
    replace q1 := q1 (by decide)
    have hs := k3.size
    have hlt := a2.lt
    have c0 := k3.cell (p := ⟨w2.heap.size, 0, none⟩) (by simp) (by simp; omega)
    have c1 := k3.cell (p := ⟨w2.heap.size, 1, none⟩) (by simp) (by simp; omega)
    have c2 := k3.cell (p := ⟨w2.heap.size, 2, none⟩) (by simp) (by simp; omega)
    have c3 := k3.cell (p := ⟨w2.heap.size, 3, none⟩) (by simp) (by simp; omega)
    simp at c0 c1 c2 c3
    have hq : q = 0 ∨ q = 1 ∨ q = 2 ∨ q = 3 := by omega
    have kk := (k2.trans (Keep.alloc _ w2 (.cells #[.int .i64 (-400001), .int .i64 400001, .int .i64 202000, .int .i64 202001] 3))).trans k3
    rcases hq with rfl | rfl | rfl | rfl
    all_goals
      go_wp2
      go_ret
      exact drew_mk (by decide) (by decide) (kk.below b1 (Nat.le_refl _) (by omega))
  · have e0 : (r == 0) = false := by simp; omega
    go_wp2_with fail
    refine (l91Year_any a2 (by omega)).mono ?_
    rintro e w3 ⟨y, rfl, y0, y1, a3, k3⟩
    go_wp2
    go_ret
    exact drew_mk (by omega) (by omega) ((k2.trans k3).below b1 (Nat.le_refl _) (by omega))

/-- What a draw of two numbers out of a code comes to. -/
def DrewTwo (lo hi : Int) (w w' : World) (e : Ending) : Prop := ∃ x y : Int, e = .returned (.tuple #[.int .i64 x, .int .i64 y]) ∧ lo ≤ x ∧ x ≤ hi ∧ lo ≤ y ∧ y ≤ hi ∧ Below w.heap.size w w'
theorem drewTwo_mk {lo hi x y : Int} {w w' : World} (h1 : lo ≤ x) (h2 : x ≤ hi) (h3 : lo ≤ y) (h4 : y ≤ hi) (h5 : Below w.heap.size w w') : DrewTwo lo hi w w' (.returned (.tuple #[.int .i64 x, .int .i64 y])) := ⟨x, y, rfl, h1, h2, h3, h4, h5⟩
end Go.Proofs.YtkcnblojkdaboaaDoor
