/- The program's table read: how many orders begin with a layer of the first core (beside the ranks). -/
import Derived.Test.YtcemgdekcfdfhaaDoorOrdI2
namespace Go.Proofs.YtcemgdekcfdfhaaDoor
open Go.RowKit

set_option maxHeartbeats 1600000 in
theorem begR_any {w : World} {g : Nat} (h : Tab w g) (a b : Nat) (ha : a < 7) (hb : b < 7) :
    Calls Tryd.prog 38 #[.pointer (some ⟨g, 0, none⟩), .agg #[.int .i64 a, .int .i64 b]] w fun e w' => e = .returned (.int .i64 (begN a b : Nat)) ∧ Below w.heap.size w w' := by
  obtain ⟨n1, n2, nb⟩ := new_pt w a b
  have NB := Lib.hid nb
  by_cases a0 : a = 0
  · have R : Hid (begN a b = 0) := Lib.hid (by unfold begN; rw [if_pos a0])
    have e0 : ((a : Int) == 0) = true := by simpa using a0
    clear a0 nb h
    go_enter Tryd.func38, Tryd.ntmps38
    go_wp2_with fail
    go_ret
    exact ⟨by rw [R.out]; rfl, NB.out⟩
  · have e0 : ((a : Int) == 0) = false := by simpa using a0
    have R : Hid (begN a b = ch (a - 1) b) := Lib.hid (by unfold begN; rw [if_neg a0])
    obtain ⟨p, hp⟩ : ∃ p, a - 1 = p := ⟨_, rfl⟩
    have t := h.cell p b (by omega) hb
    have t1 := (nb.cell (cell_below t)).trans t
    have w1 : IntKind.i64.wrap ((a : Int) - 1) = (p : Int) := by rw [show (a : Int) - 1 = (p : Int) by omega]; exact IntWalk.i64_in _ (by omega)
    have i1 : (p : Int) < 7 := by omega
    have i2 : (b : Int) < 7 := by omega
    rw [hp] at R
    obtain ⟨c, hc⟩ : ∃ c, ch p b = c := ⟨_, rfl⟩
    rw [hc] at t1 R
    clear t hc h nb hp a0
    go_enter Tryd.func38, Tryd.ntmps38
    go_wp2_with fail
    go_quiet (fail)
    go_wp2_with fail
    go_ret
    exact ⟨by rw [R.out]; rfl, below_drews NB.out _⟩
theorem begR_is {w : World} {g : Nat} (h : Tab w g) {x y : Int} {n : Nat} (hx : 0 ≤ x ∧ x ≤ 6) (hy : 0 ≤ y ∧ y ≤ 6) (hn : begN x.toNat y.toNat = n) :
    Calls Tryd.prog 38 #[.pointer (some ⟨g, 0, none⟩), .agg #[.int .i64 x, .int .i64 y]] w fun e w' => e = .returned (.int .i64 n) ∧ Below w.heap.size w w' := by
  have k := begR_any h x.toNat y.toNat (by omega) (by omega)
  rw [hn, Int.toNat_of_nonneg hx.1, Int.toNat_of_nonneg hy.1] at k
  exact k
end Go.Proofs.YtcemgdekcfdfhaaDoor
