/- sameInts of the laws. -/
import Derived.Test.YtcemgdekcfdfhaaDoorInts
import Derived.Test.YtcemgdekcfdfhaaDoorRegion
namespace Go.Proofs.YtcemgdekcfdfhaaDoor
open Go.RowKit

theorem isame_take {l m : List Int} {j : Nat} (h : l.take j = m.take j) (hl : j < l.length) (hm : j < m.length) (e : l[j] = m[j]) : l.take (j + 1) = m.take (j + 1) := by
  rw [List.take_succ_eq_append_getElem hl, List.take_succ_eq_append_getElem hm, h, e]
set_option maxHeartbeats 800000 in
theorem sameInts_any {w : World} {v u : Value} {l m : List Int} (h : IRow w v l) (k : IRow w u m) :
    Calls Tryd.prog 12 #[v, u] w fun e w' => e = .returned (.bool (decide (l = m))) ∧ Below w.heap.size w w' := by
  obtain ⟨a, n, c, rfl, hl, h1, h2, hlie⟩ := h
  obtain ⟨a', n', c', rfl, hl', h1', h2', hlie'⟩ := k
  have hm : n ≤ maxLen := by omega
  have hm' : n' ≤ maxLen := by omega
  unfold maxLen at hm hm'
  by_cases hnn : n = n'
  rotate_left
  · have hb : ((n : Int) != (n' : Int)) = true := by rw [bne_iff_ne]; omega
    have R : Hid (decide (l = m) = false) := Lib.hid (decide_eq_false (fun e => by subst e; omega))
    clear hnn
    go_enter Tryd.func12, Tryd.ntmps12
    go_wp2_with fail
    go_ret
    exact ⟨by rw [R.out]; rfl, Below.refl _ _⟩
  subst hnn
  go_enter Tryd.func12, Tryd.ntmps12
  go_wp2_with fail
  go_loopg [5] n (fun k x wr => ∃ j : Nat, x = .int .i64 j ∧ j + k = n ∧ l.take j = m.take j ∧ Below w.heap.size w wr)
  case atStart => exact ⟨0, rfl, by omega, rfl, Below.refl _ _⟩
  case round =>
    obtain ⟨j, rfl, hk, hs, hb⟩ := hrel
    have K := Lib.hid hk; have S := Lib.hid hs; have B := Lib.hid hb
    have hjn : j ≤ n := by omega
    clear hk hs hb
    by_cases hlt : j < n
    · obtain ⟨g, o, rfl, c1⟩ := ilies_cell hlie j (by omega)
      obtain ⟨g', o', rfl, c3⟩ := ilies_cell hlie' j (by omega)
      have d1 := (B.out.cell (cell_below c1)).trans c1
      have d3 := (B.out.cell (cell_below c3)).trans c3
      clear c1 c3 hlie hlie'
      have s3 : (0 : Int) ≤ (j : Int) := Int.natCast_nonneg _
      have s4 : (j : Int) < (n : Int) := by omega
      by_cases he : l[j] = m[j]
      · have HE := Lib.hid he
        have f1 : (l[j] != m[j]) = false := by simpa using he
        clear he
        go_wp2_with fail
        go_quiet (fail)
        go_wp2_with fail
        go_roundg (gk - 1)
        case measure => have := K.out; omega
        case rel => exact ⟨j + 1, by go_num, by have := K.out; omega, isame_take S.out (by omega) (by omega) HE.out, below_drews B.out _⟩
      · have R : Hid (decide (l = m) = false) := Lib.hid (decide_eq_false (fun e => he (by subst e; rfl)))
        have f1 : (l[j] != m[j]) = true := by simpa using he
        clear he
        go_wp2_with fail
        go_quiet (fail)
        go_wp2_with fail
        go_ret
        exact ⟨by rw [R.out]; rfl, below_drews B.out _⟩
    · have R : Hid (decide (l = m) = true) := Lib.hid (decide_eq_true (by have := S.out; rwa [List.take_of_length_le (by omega), List.take_of_length_le (by omega)] at this))
      go_wp2_with fail
      go_ret
      exact ⟨by rw [R.out]; rfl, B.out⟩
theorem isame_yes {w : World} {v u : Value} {l m : List Int} (h : IRow w v l) (k : IRow w u m) (e : l = m) : Calls Tryd.prog 12 #[v, u] w fun e w' => e = .returned (.bool true) ∧ Below w.heap.size w w' := by
  have := sameInts_any h k
  rwa [decide_eq_true e] at this
end Go.Proofs.YtcemgdekcfdfhaaDoor
