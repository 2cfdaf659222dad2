/- The exact laws' own functions on lists of integers, and how such an argument is opened. -/
import Derived.Test.YtcemgdekcfdfhacDoorInts
import Derived.Test.YtcemgdekcfdfhacDoorRegion
import Derived.Deep.Slices
import Derived.Deep.Fields
namespace Go.Proofs.YtcemgdekcfdfhacDoor
open Go.RowKit

theorem spot_none {w : World} {a : Addr} {u : Value} (h : w.cell? a = some u) : a.spot = none := by
  unfold World.cell? at h
  split at h
  · split at h
    · cases h
    · rename_i hs; simpa using hs
  · cases h
/-- A slice of integers that came in: a row. -/
theorem irow_of {w : World} {a : Option Addr} {len cap : Nat} {zs : List Int}
    (h : (a = none ∧ len = 0 ∧ cap = 0 ∧ zs = []) ∨
      ∃ x, a = some x ∧ len ≤ cap ∧ cap ≤ maxLen ∧ zs.length = cap ∧ (∀ i, i < zs.length → w.cell? (x.add i) = some (.int .i64 (zs.getD i 0))) ∧ ∀ n ∈ zs, (Lit.int .i64 n).wf = true) : ∃ l, IRow w (.slice a len cap) l ∧ l.length = len := by
  rcases h with ⟨rfl, rfl, rfl, _⟩ | ⟨x, rfl, h2, h3, h4, h5, _⟩
  · exact ⟨[], irow_empty none (Nat.zero_le _), rfl⟩
  · have hl : (zs.take len).length = len := by rw [List.length_take]; omega
    refine ⟨zs.take len, ⟨_, len, cap, rfl, hl, h2, h3, ?_⟩, hl⟩
    by_cases h0 : len = 0
    · left; rw [h0]; rfl
    · have hs := spot_none (h5 0 (by omega))
      obtain ⟨b, o, s⟩ := x
      simp [Addr.add] at hs
      subst hs
      refine .inr ⟨b, o, rfl, fun i hi => ?_⟩
      have hi' : i < len := by omega
      have := h5 i (by omega)
      rw [Addr.add_lit] at this
      rw [this, List.getElem_take, List.getD_eq_getElem?_getD, List.getElem?_eq_getElem (by omega)]; rfl
theorem fill_next1 {l : List Int} {i n : Nat} (hl : l.length = n) (hi : i < n) : (l.take i ++ List.replicate (n - i) (0 : Int)).set i l[i] = l.take (i + 1) ++ List.replicate (n - (i + 1)) 0 := by
  have h1 : (l.take i).length = i := by rw [List.length_take]; omega
  rw [List.set_append_right _ _ (by omega), h1, Nat.sub_self, show n - i = (n - (i + 1)) + 1 by omega, List.replicate_succ, List.set_cons_zero, List.take_succ_eq_append_getElem (i := i) (by omega), List.append_assoc]
  rfl
theorem itake_eq {l m : List Int} {j : Nat} (h : l.take j = m.take j) (hl : j < l.length) (hm : j < m.length) (e : l[j] = m[j]) : l.take (j + 1) = m.take (j + 1) := by
  rw [List.take_succ_eq_append_getElem hl, List.take_succ_eq_append_getElem hm, h, e]
set_option maxHeartbeats 800000 in
theorem eqIntS_any {w : World} {v u : Value} {l m : List Int} (h : IRow w v l) (k : IRow w u m) :
    Calls Tryd.prog 7 #[v, u] w fun e w' => e = .returned (.bool (decide (l = m))) ∧ Below w.heap.size w w' := by
  obtain ⟨a, n, c, rfl, hl, h1, h2, hlie⟩ := h
  obtain ⟨a', n', c', rfl, hl', h1', h2', hlie'⟩ := k
  have hm : n ≤ maxLen := by omega
  have hm' : n' ≤ maxLen := by omega
  unfold maxLen at hm hm'
  by_cases hnn : n = n'
  rotate_left
  · have hb : ((n : Int) != (n' : Int)) = true := by rw [bne_iff_ne]; omega
    have R : Hid (decide (l = m) = false) := Lib.hid (decide_eq_false (fun e => by subst e; omega))
    clear hnn
    go_enter Tryd.func7, Tryd.ntmps7
    go_wp2_with fail
    go_ret
    exact ⟨by rw [R.out]; rfl, Below.refl _ _⟩
  subst hnn
  go_enter Tryd.func7, Tryd.ntmps7
  go_wp2_with fail
  go_loopg [5] n (fun k x wr => ∃ j : Nat, x = .int .i64 j ∧ j + k = n ∧ l.take j = m.take j ∧ Below w.heap.size w wr)
  case atStart => exact ⟨0, rfl, by omega, rfl, Below.refl _ _⟩
  case round =>
    obtain ⟨j, rfl, hk, hs, hb⟩ := hrel
    have K := Lib.hid hk; have S := Lib.hid hs; have B := Lib.hid hb
    have hjn : j ≤ n := by omega
    clear hk hs hb
    by_cases hlt : j < n
    · obtain ⟨g, o, rfl, c1⟩ := ilies_cell hlie j (by omega)
      obtain ⟨g', o', rfl, c3⟩ := ilies_cell hlie' j (by omega)
      have d1 := (B.out.cell (cell_below c1)).trans c1
      have d3 := (B.out.cell (cell_below c3)).trans c3
      clear c1 c3 hlie hlie'
      have s3 : (0 : Int) ≤ (j : Int) := Int.natCast_nonneg _
      have s4 : (j : Int) < (n : Int) := by omega
      by_cases he : l[j] = m[j]
      · have HE := Lib.hid he
        have f1 : (l[j] != m[j]) = false := by simpa using he
        clear he
        go_wp2_with fail
        go_quiet (fail)
        go_wp2_with fail
        go_roundg (gk - 1)
        case measure => have := K.out; omega
        case rel => exact ⟨j + 1, by go_num, by have := K.out; omega, itake_eq S.out (by omega) (by omega) HE.out, below_drews B.out _⟩
      · have R : Hid (decide (l = m) = false) := Lib.hid (decide_eq_false (fun e => he (by subst e; rfl)))
        have f1 : (l[j] != m[j]) = true := by simpa using he
        clear he
        go_wp2_with fail
        go_quiet (fail)
        go_wp2_with fail
        go_ret
        exact ⟨by rw [R.out]; rfl, below_drews B.out _⟩
    · have R : Hid (decide (l = m) = true) := Lib.hid (decide_eq_true (by have := S.out; rwa [List.take_of_length_le (by omega), List.take_of_length_le (by omega)] at this))
      go_wp2_with fail
      go_ret
      exact ⟨by rw [R.out]; rfl, B.out⟩
theorem ieqs_yes {w : World} {v u : Value} {l m : List Int} (h : IRow w v l) (k : IRow w u m) (e : l = m) : Calls Tryd.prog 7 #[v, u] w fun e w' => e = .returned (.bool true) ∧ Below w.heap.size w w' := by
  have := eqIntS_any h k
  rwa [decide_eq_true e] at this
end Go.Proofs.YtcemgdekcfdfhacDoor
