/- What the walks of the laws on records in other bins name. -/
import Derived.Test.YtkcbgeldnibjcabLawR
import Derived.Test.YtkcbgeldnibjcabRebSpec
namespace Go.Proofs.Ytkcbgeldnibjcab
open Go.RowKit

theorem take_same {l m : List Pc} {j : Nat} (h : l.take j = m.take j) (hl : j < l.length) (hm : j < m.length) (e : l[j] = m[j]) : l.take (j + 1) = m.take (j + 1) := by
  rw [List.take_succ_eq_append_getElem hl, List.take_succ_eq_append_getElem hm, h, e]
theorem take_differ {l m : List Pc} {j : Nat} (hl : j < l.length) (hm : j < m.length) (e : l[j] ≠ m[j]) : l ≠ m := by
  intro h; subst h; exact e rfl
theorem pair_ne {p q : Pc} : (p = q) ↔ (p.1 = q.1 ∧ p.2 = q.2) := Prod.ext_iff
/-- A list of fractions, and whether there is any. -/
def FRes (w : World) (rs : List Rat) (b : Bool) (e : Ending) (w' : World) : Prop := ∃ v, e = .returned (.tuple #[v, .bool b]) ∧ Row w' v (rs.map pr) ∧ Below w.heap.size w w'
theorem reb_some {P : Program} {f : FuncId} {x : Array Value} {w : World} {o : Option (List Rat)} {rs : List Rat} (h : Calls P f x w fun e w' => RebB w o e w') (ho : o = some rs) : Calls P f x w fun e w' => FRes w rs true e w' := by
  subst ho; exact h.mono fun e w' ⟨v, he, hw, hb⟩ => ⟨v, he, hw.row, hb⟩
theorem reb_none {P : Program} {f : FuncId} {x : Array Value} {w : World} {o : Option (List Rat)} (h : Calls P f x w fun e w' => RebB w o e w') (ho : o = none) : Calls P f x w fun e w' => FRes w [] false e w' := by
  subst ho; exact h.mono fun e w' ⟨v, he, hw, hb⟩ => ⟨v, he, hw.row, hb⟩
set_option maxHeartbeats 800000 in
theorem sameFracs_any {w : World} {v u : Value} {l m : List Pc} (h : Row w v l) (k : Row w u m) :
    Calls Try.prog 32 #[v, u] w fun e w' => Val w (.bool (decide (l = m))) e w' := by
  obtain ⟨a, n, c, rfl, hl, h1, h2, hlie⟩ := h
  obtain ⟨a', n', c', rfl, hl', h1', h2', hlie'⟩ := k
  have hm : n ≤ maxLen := by omega
  have hm' : n' ≤ maxLen := by omega
  unfold maxLen at hm hm'
  by_cases hnn : n = n'
  rotate_left
  · have hb : ((n : Int) != (n' : Int)) = true := by rw [bne_iff_ne]; omega
    have R : Hid (decide (l = m) = false) := Lib.hid (decide_eq_false (fun e => by subst e; omega))
    clear hnn
    go_enter Try.func32, Try.ntmps32
    go_wp2_with fail
    go_ret
    exact ⟨by rw [R.out]; rfl, Below.refl _ _⟩
  subst hnn
  go_enter Try.func32, Try.ntmps32
  go_wp2_with fail
  go_loopg [5] n (fun k x wr => ∃ j : Nat, x = .int .i64 j ∧ j + k = n ∧ l.take j = m.take j ∧ Below w.heap.size w wr)
  case atStart => exact ⟨0, rfl, by omega, rfl, Below.refl _ _⟩
  case round =>
    obtain ⟨j, rfl, hk, hs, hb⟩ := hrel
    have K := Lib.hid hk; have S := Lib.hid hs; have B := Lib.hid hb
    have hjn : j ≤ n := by omega
    clear hk hs hb
    by_cases hlt : j < n
    · obtain ⟨g, o, rfl, c1, c2⟩ := lies_cell hlie j (by omega)
      obtain ⟨g', o', rfl, c3, c4⟩ := lies_cell hlie' j (by omega)
      have d1 := (B.out.cell (cell_below c1)).trans c1
      have d2 := (B.out.cell (cell_below c2)).trans c2
      have d3 := (B.out.cell (cell_below c3)).trans c3
      have d4 := (B.out.cell (cell_below c4)).trans c4
      clear c1 c2 c3 c4 hlie hlie'
      by_cases e1 : l[j].1 = m[j].1
      · by_cases e2 : l[j].2 = m[j].2
        · have E := Lib.hid (pair_ne.2 ⟨e1, e2⟩)
          have f1 : (l[j].1 == m[j].1) = true := by simpa using e1
          have f2 : (l[j].2 == m[j].2) = true := by simpa using e2
          clear e1 e2
          go_wp2_with fail
          go_quiet (fail)
          go_wp2_with fail
          go_roundg (gk - 1)
          case measure => have := K.out; omega
          case rel => exact ⟨j + 1, by go_num, by have := K.out; omega, take_same S.out (by omega) (by omega) E.out, below_drews B.out _⟩
        · have R : Hid (decide (l = m) = false) := Lib.hid (decide_eq_false (take_differ (j := j) (by omega) (by omega) (fun e => e2 (pair_ne.1 e).2)))
          have f1 : (l[j].1 == m[j].1) = true := by simpa using e1
          have f2 : (l[j].2 == m[j].2) = false := by simpa using e2
          clear e1 e2
          go_wp2_with fail
          go_quiet (fail)
          go_wp2_with fail
          go_ret
          exact ⟨by rw [R.out]; rfl, below_drews B.out _⟩
      · have R : Hid (decide (l = m) = false) := Lib.hid (decide_eq_false (take_differ (j := j) (by omega) (by omega) (fun e => e1 (pair_ne.1 e).1)))
        have f1 : (l[j].1 == m[j].1) = false := by simpa using e1
        clear e1
        go_wp2_with fail
        go_quiet (fail)
        go_wp2_with fail
        go_ret
        exact ⟨by rw [R.out]; rfl, below_drews B.out _⟩
    · have R : Hid (decide (l = m) = true) := Lib.hid (decide_eq_true (by have := S.out; rwa [List.take_of_length_le (by omega), List.take_of_length_le (by omega)] at this))
      go_wp2_with fail
      go_ret
      exact ⟨by rw [R.out]; rfl, B.out⟩

theorem fsame_yes {w : World} {v u : Value} {l m : List Pc} (h : Row w v l) (k : Row w u m) (e : l = m) : Calls Try.prog 32 #[v, u] w fun e w' => Val w (.bool true) e w' :=
  val_is (sameFracs_any h k) (by rw [decide_eq_true e])
theorem addL_fits {s x : Rat} {rs : List Rat} (h : addL s rs = some x) (hs : fits s = true) : fits x = true := by
  induction rs generalizing s with
  | nil => simp only [addL, Option.some.injEq] at h; subst h; exact hs
  | cons r rs ih =>
    simp only [addL] at h
    split at h
    · rename_i hf; exact ih h hf
    · cases h
/-- The sum of the amounts in other bins is the amount between their ends. -/
theorem reb_sum_is {l m o : List Int} {rs : List Rat} {x y : Rat} {n : Nat} (h : rebOf l m o = some rs) (hn : o.length = n + 1) (hx : addL 0 rs = some x) (hy : bet l m (o[0]'(by omega)) (o[n]'(by omega)) = some y) : x = y := by
  have h1 := (rebOf_sum h (by omega)).2
  rw [addL_is hx, h1, (bet_is hy).1]
  simp only [show o.length - 1 = n by omega]
  grind
theorem reb_len {l m o : List Int} {rs : List Rat} {n : Nat} (h : rebOf l m o = some rs) (hn : o.length = n + 1) : rs.length = n := by
  have := (rebOf_sum h (by omega)).1
  omega
theorem reb_edges {l m o : List Int} {rs : List Rat} (h : rebOf l m o = some rs) : isRec l m = true ∧ isEdges o = true := by
  obtain ⟨t, o', _, h1, h2, _⟩ := rebOf_is h
  exact ⟨h1, h2⟩
end Go.Proofs.Ytkcbgeldnibjcab
