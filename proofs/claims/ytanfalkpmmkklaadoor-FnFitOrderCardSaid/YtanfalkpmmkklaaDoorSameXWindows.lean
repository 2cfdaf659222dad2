/- The laws' own comparison of two lists of Windows (structs of two integers). -/
import Derived.Test.YtanfalkpmmkklaaDoorPair
import Derived.Test.YtanfalkpmmkklaaDoorRegion
namespace Go.Proofs.YtanfalkpmmkklaaDoor
open Go.RowKit

theorem take_sameWindows {l m : List Pc} {j : Nat} (h : l.take j = m.take j) (hl : j < l.length) (hm : j < m.length) (e : l[j] = m[j]) : l.take (j + 1) = m.take (j + 1) := by
  rw [List.take_succ_eq_append_getElem hl, List.take_succ_eq_append_getElem hm, h, e]
theorem take_differWindows {l m : List Pc} {j : Nat} (hl : j < l.length) (hm : j < m.length) (e : l[j] ≠ m[j]) : l ≠ m := by
  intro h; subst h; exact e rfl
theorem pair_neWindows {p q : Pc} : (p = q) ↔ (p.1 = q.1 ∧ p.2 = q.2) := Prod.ext_iff

set_option maxHeartbeats 400000 in
theorem sameWindows_any {w : World} {v u : Value} {l m : List Pc} (h : Row w v l) (k : Row w u m) :
    Calls Tryd.prog 20 #[v, u] w fun e w' => Val w (.bool (decide (l = m))) e w' := by
  obtain ⟨a, n, c, rfl, hl, h1, h2, hlie⟩ := h
  obtain ⟨a', n', c', rfl, hl', h1', h2', hlie'⟩ := k
  have hm : n ≤ maxLen := by omega
  have hm' : n' ≤ maxLen := by omega
  unfold maxLen at hm hm'
  by_cases hnn : n = n'
  rotate_left
  · have hb : ((n : Int) != (n' : Int)) = true := by rw [bne_iff_ne]; omega
    have R : Hid (decide (l = m) = false) := Lib.hid (decide_eq_false (fun e => by subst e; omega))
    clear hnn
    go_enter Tryd.func20, Tryd.ntmps20
    go_wp2_with fail
    go_ret
    exact ⟨by rw [R.out]; rfl, Below.refl _ _⟩
  subst hnn
  go_enter Tryd.func20, Tryd.ntmps20
  go_wp2_with fail
  go_loopg [5] n (fun k x wr => ∃ j : Nat, x = .int .i64 j ∧ j + k = n ∧ l.take j = m.take j ∧ Below w.heap.size w wr)
  case atStart => exact ⟨0, rfl, by omega, rfl, Below.refl _ _⟩
  case round =>
    obtain ⟨j, rfl, hk, hs, hb⟩ := hrel
    have K := Lib.hid hk; have S := Lib.hid hs; have B := Lib.hid hb
    have hjn : j ≤ n := by omega
    clear hk hs hb
    by_cases hlt : j < n
    · obtain ⟨g, o, rfl, c1, c2⟩ := lies_cell hlie j (by omega)
      obtain ⟨g', o', rfl, c3, c4⟩ := lies_cell hlie' j (by omega)
      have d1 := (B.out.cell (cell_below c1)).trans c1
      have d2 := (B.out.cell (cell_below c2)).trans c2
      have d3 := (B.out.cell (cell_below c3)).trans c3
      have d4 := (B.out.cell (cell_below c4)).trans c4
      clear c1 c2 c3 c4 hlie hlie'
      by_cases e1 : l[j].1 = m[j].1
      · by_cases e2 : l[j].2 = m[j].2
        · have E := Lib.hid (pair_neWindows.2 ⟨e1, e2⟩)
          have f1 : (l[j].1 == m[j].1) = true := by simpa using e1
          have f2 : (l[j].2 == m[j].2) = true := by simpa using e2
          clear e1 e2
          go_wp2_with fail
          go_quiet (fail)
          go_wp2_with fail
          go_roundg (gk - 1)
          case measure => have := K.out; omega
          case rel => exact ⟨j + 1, by go_num, by have := K.out; omega, take_sameWindows S.out (by omega) (by omega) E.out, below_drews B.out _⟩
        · have R : Hid (decide (l = m) = false) := Lib.hid (decide_eq_false (take_differWindows (j := j) (by omega) (by omega) (fun e => e2 (pair_neWindows.1 e).2)))
          have f1 : (l[j].1 == m[j].1) = true := by simpa using e1
          have f2 : (l[j].2 == m[j].2) = false := by simpa using e2
          clear e1 e2
          go_wp2_with fail
          go_quiet (fail)
          go_wp2_with fail
          go_ret
          exact ⟨by rw [R.out]; rfl, below_drews B.out _⟩
      · have R : Hid (decide (l = m) = false) := Lib.hid (decide_eq_false (take_differWindows (j := j) (by omega) (by omega) (fun e => e1 (pair_neWindows.1 e).1)))
        have f1 : (l[j].1 == m[j].1) = false := by simpa using e1
        clear e1
        go_wp2_with fail
        go_quiet (fail)
        go_wp2_with fail
        go_ret
        exact ⟨by rw [R.out]; rfl, below_drews B.out _⟩
    · have R : Hid (decide (l = m) = true) := Lib.hid (decide_eq_true (by have := S.out; rwa [List.take_of_length_le (by omega), List.take_of_length_le (by omega)] at this))
      go_wp2_with fail
      go_ret
      exact ⟨by rw [R.out]; rfl, B.out⟩

theorem sameWindows_yes {w : World} {v u : Value} {l m : List Pc} (h : Row w v l) (k : Row w u m) (e : l = m) : Calls Tryd.prog 20 #[v, u] w fun e w' => Val w (.bool true) e w' :=
  val_is (sameWindows_any h k) (by rw [decide_eq_true e])
theorem sameWindows_no {w : World} {v u : Value} {l m : List Pc} (h : Row w v l) (k : Row w u m) (e : l ≠ m) : Calls Tryd.prog 20 #[v, u] w fun e w' => Val w (.bool false) e w' :=
  val_is (sameWindows_any h k) (by rw [decide_eq_false e])
end Go.Proofs.YtanfalkpmmkklaaDoor
