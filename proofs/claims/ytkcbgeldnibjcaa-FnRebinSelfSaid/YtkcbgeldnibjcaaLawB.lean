/- What the walks of the laws on records in other bins name. -/
import Derived.Test.YtkcbgeldnibjcaaLawR
import Derived.Test.YtkcbgeldnibjcaaRebSpec
namespace Go.Proofs.Ytkcbgeldnibjcaa
open Go.RowKit

theorem take_same {l m : List Pc} {j : Nat} (h : l.take j = m.take j) (hl : j < l.length) (hm : j < m.length) (e : l[j] = m[j]) : l.take (j + 1) = m.take (j + 1) := by
  rw [List.take_succ_eq_append_getElem hl, List.take_succ_eq_append_getElem hm, h, e]
theorem take_differ {l m : List Pc} {j : Nat} (hl : j < l.length) (hm : j < m.length) (e : l[j] ≠ m[j]) : l ≠ m := by
  intro h; subst h; exact e rfl
theorem pair_ne {p q : Pc} : (p = q) ↔ (p.1 = q.1 ∧ p.2 = q.2) := Prod.ext_iff
/-- A list of fractions, and whether there is any. -/
def FRes (w : World) (rs : List Rat) (b : Bool) (e : Ending) (w' : World) : Prop := ∃ v, e = .returned (.tuple #[v, .bool b]) ∧ Row w' v (rs.map pr) ∧ Below w.heap.size w w'
theorem reb_some {P : Program} {f : FuncId} {x : Array Value} {w : World} {o : Option (List Rat)} {rs : List Rat} (h : Calls P f x w fun e w' => RebB w o e w') (ho : o = some rs) : Calls P f x w fun e w' => FRes w rs true e w' := by
  subst ho; exact h.mono fun e w' ⟨v, he, hw, hb⟩ => ⟨v, he, hw.row, hb⟩
theorem reb_none {P : Program} {f : FuncId} {x : Array Value} {w : World} {o : Option (List Rat)} (h : Calls P f x w fun e w' => RebB w o e w') (ho : o = none) : Calls P f x w fun e w' => FRes w [] false e w' := by
  subst ho; exact h.mono fun e w' ⟨v, he, hw, hb⟩ => ⟨v, he, hw.row, hb⟩
set_option maxHeartbeats 800000 in
theorem sameFracs_any {w : World} {v u : Value} {l m : List Pc} (h : Row w v l) (k : Row w u m) :
    Calls Try.prog 29 #[v, u] w fun e w' => Val w (.bool (decide (l = m))) e w' := by
  obtain ⟨a, n, c, rfl, hl, h1, h2, hlie⟩ := h
  obtain ⟨a', n', c', rfl, hl', h1', h2', hlie'⟩ := k
  have hm : n ≤ maxLen := by omega
  have hm' : n' ≤ maxLen := by omega
  unfold maxLen at hm hm'
  by_cases hnn : n = n'
  rotate_left
  · have hb : ((n : Int) != (n' : Int)) = true := by rw [bne_iff_ne]; omega
    have R : Hid (decide (l = m) = false) := Lib.hid (decide_eq_false (fun e => by subst e; omega))
    clear hnn
    go_enter Try.func29, Try.ntmps29
    go_wp2_with fail
    go_ret
    exact ⟨by rw [R.out]; rfl, Below.refl _ _⟩
  subst hnn
  go_enter Try.func29, Try.ntmps29
  go_wp2_with fail
  go_loopg [5] n (fun k x wr => ∃ j : Nat, x = .int .i64 j ∧ j + k = n ∧ l.take j = m.take j ∧ Below w.heap.size w wr)
  case atStart => exact ⟨0, rfl, by omega, rfl, Below.refl _ _⟩
  case round =>
    obtain ⟨j, rfl, hk, hs, hb⟩ := hrel
    have K := Lib.hid hk; have S := Lib.hid hs; have B := Lib.hid hb
    have hjn : j ≤ n := by omega
    clear hk hs hb
    by_cases hlt : j < n
    · obtain ⟨g, o, rfl, c1, c2⟩ := lies_cell hlie j (by omega)
      obtain ⟨g', o', rfl, c3, c4⟩ := lies_cell hlie' j (by omega)
      have d1 := (B.out.cell (cell_below c1)).trans c1
      have d2 := (B.out.cell (cell_below c2)).trans c2
      have d3 := (B.out.cell (cell_below c3)).trans c3
      have d4 := (B.out.cell (cell_below c4)).trans c4
      clear c1 c2 c3 c4 hlie hlie'
      by_cases e1 : l[j].1 = m[j].1
      · by_cases e2 : l[j].2 = m[j].2
        · have E := Lib.hid (pair_ne.2 ⟨e1, e2⟩)
          have f1 : (l[j].1 == m[j].1) = true := by simpa using e1
          have f2 : (l[j].2 == m[j].2) = true := by simpa using e2
          clear e1 e2
          go_wp2_with fail
          go_quiet (fail)
          go_wp2_with fail
          go_roundg (gk - 1)
          case measure => have := K.out; omega
          case rel => exact ⟨j + 1, by go_num, by have := K.out; omega, take_same S.out (by omega) (by omega) E.out, below_drews B.out _⟩
        · have R : Hid (decide (l = m) = false) := Lib.hid (decide_eq_false (take_differ (j := j) (by omega) (by omega) (fun e => e2 (pair_ne.1 e).2)))
          have f1 : (l[j].1 == m[j].1) = true := by simpa using e1
          have f2 : (l[j].2 == m[j].2) = false := by simpa using e2
          clear e1 e2
          go_wp2_with fail
          go_quiet (fail)
          go_wp2_with fail
          go_ret
          exact ⟨by rw [R.out]; rfl, below_drews B.out _⟩
      · have R : Hid (decide (l = m) = false) := Lib.hid (decide_eq_false (take_differ (j := j) (by omega) (by omega) (fun e => e1 (pair_ne.1 e).1)))
        have f1 : (l[j].1 == m[j].1) = false := by simpa using e1
        clear e1
        go_wp2_with fail
        go_quiet (fail)
        go_wp2_with fail
        go_ret
        exact ⟨by rw [R.out]; rfl, below_drews B.out _⟩
    · have R : Hid (decide (l = m) = true) := Lib.hid (decide_eq_true (by have := S.out; rwa [List.take_of_length_le (by omega), List.take_of_length_le (by omega)] at this))
      go_wp2_with fail
      go_ret
      exact ⟨by rw [R.out]; rfl, B.out⟩

theorem fsame_yes {w : World} {v u : Value} {l m : List Pc} (h : Row w v l) (k : Row w u m) (e : l = m) : Calls Try.prog 29 #[v, u] w fun e w' => Val w (.bool true) e w' :=
  val_is (sameFracs_any h k) (by rw [decide_eq_true e])
theorem addL_fits {s x : Rat} {rs : List Rat} (h : addL s rs = some x) (hs : fits s = true) : fits x = true := by
  induction rs generalizing s with
  | nil => simp only [addL, Option.some.injEq] at h; subst h; exact hs
  | cons r rs ih =>
    simp only [addL] at h
    split at h
    · rename_i hf; exact ih h hf
    · cases h
/-- The sum of the amounts in other bins is the amount between their ends. -/
theorem reb_sum_is {l m o : List Int} {rs : List Rat} {x y : Rat} {n : Nat} (h : rebOf l m o = some rs) (hn : o.length = n + 1) (hx : addL 0 rs = some x) (hy : bet l m (o[0]'(by omega)) (o[n]'(by omega)) = some y) : x = y := by
  have h1 := (rebOf_sum h (by omega)).2
  rw [addL_is hx, h1, (bet_is hy).1]
  simp only [show o.length - 1 = n by omega]
  grind
theorem reb_len {l m o : List Int} {rs : List Rat} {n : Nat} (h : rebOf l m o = some rs) (hn : o.length = n + 1) : rs.length = n := by
  have := (rebOf_sum h (by omega)).1
  omega
theorem reb_edges {l m o : List Int} {rs : List Rat} (h : rebOf l m o = some rs) : isRec l m = true ∧ isEdges o = true := by
  obtain ⟨t, o', _, h1, h2, _⟩ := rebOf_is h
  exact ⟨h1, h2⟩
theorem addL_next {s : Rat} {rs : List Rat} {j : Nat} (h : j < rs.length) : addL s (rs.drop j) = if fits (s + rs[j]) = true then addL (s + rs[j]) (rs.drop (j + 1)) else none := by
  rw [List.drop_eq_getElem_cons h]; rfl
set_option maxRecDepth 100000 in
set_option maxHeartbeats 1600000 in
theorem addFracs_any {w : World} {v : Value} {rs : List Rat} (h : Row w v (rs.map pr)) (hfit : ∀ r ∈ rs, fits r = true) (h20 : rs.length ≤ 20) :
    Calls Try.prog 30 #[v] w fun e w' => GotO (addL 0 rs) w w' e := by
  obtain ⟨a, c, rfl, k1, k2⟩ := h.len
  simp only [List.length_map] at k1 h ⊢
  have H := Lib.hid h; have HF0 := Lib.hid hfit
  clear h hfit
  go_enter Try.func30, Try.ntmps30
  go_wp2_with fail
  refine (frac_any _ _).mono ?_
  rintro e w1 ⟨rfl, b1⟩
  have S0 := (((St.start (Below.refl w.heap.size w)).alloc 0 0).next b1).alloc 0 1
  have hz := b1.size
  simp only [World.size_alloc] at hz
  have S0 := Lib.hid S0
  clear b1
  go_wp2_with fail
  go_loopg [5] rs.length (fun k x wr => ∃ (j : Nat) (n d : Int) (s : Rat), x = .int .i64 j ∧ j + k = rs.length ∧ fv n d = true ∧ fq n d = s ∧ addL 0 rs = addL s (rs.drop j) ∧ St w wr [(w1.heap.size, n, d), (w.heap.size, 0, 0)])
  case atStart => exact ⟨0, 0, 1, 0, rfl, by omega, fv_none, fq_none, rfl, S0.out⟩
  case round =>
    obtain ⟨wv1, rfl⟩ : ∃ x, x = wr := ⟨wr, rfl⟩
    obtain ⟨j, n, d, s, rfl, hk, hf, hq, hin, S⟩ := hrel
    have K := Lib.hid hk; have HF := Lib.hid hf; have HQ := Lib.hid hq; have IN := Lib.hid hin
    have hjl : j ≤ rs.length := by omega
    clear hk hf hq hin
    have r := S.holds
    simp only [Holds, and_true] at r
    by_cases hlt : j < rs.length
    · have R := Lib.hid (H.out.grow S.below)
      obtain ⟨g, of, cc, e', _, _⟩ := H.out.known (by simp; omega)
      simp only [Value.slice.injEq] at e'
      obtain ⟨rfl, -, rfl⟩ := e'
      have hjm : j < (rs.map pr).length := by simpa using hlt
      obtain ⟨px, py, hxy⟩ : ∃ x y, (rs.map pr)[j] = (x, y) := ⟨_, _, rfl⟩
      obtain ⟨d1, d2⟩ := R.out.cells j hjm
      rw [hxy] at d1 d2
      rw [List.getElem_map] at hxy
      unfold pr at hxy
      rw [Prod.mk.injEq] at hxy
      have FX : Hid (fv px py = true) := Lib.hid (by rw [← hxy.1, ← hxy.2]; exact fits_fv (HF0.out _ (List.getElem_mem hlt)))
      have QX : Hid (fq px py = rs[j]) := Lib.hid (by rw [← hxy.1, ← hxy.2]; exact fq_self _)
      clear hxy
      simp only at d1 d2
      have i1 : (j : Int) < (rs.length : Int) := by omega
      have i2 : (0 : Int) ≤ (j : Int) := by omega
      obtain ⟨⟨c1, c2, c3, c4, c5⟩, x0⟩ := r
      have r := x0
      go_upto_region 5 with fail
      go_cut [6, 7] (fun s0 s1 wx => TwoMid (fv n d && fv px py) (fq n d + fq px py) wv1 [] s0 s1 wx)
      case first =>
        have mkS : ∀ w' : World, Below wv1.heap.size wv1 w' → (Below wv1.heap.size wv1 w' ∧ w'.cell? ⟨g, of + j * 2, none⟩ = some (.int .i64 px) ∧ w'.cell? ⟨g, of + j * 2 + 1, none⟩ = some (.int .i64 py) ∧ w'.cell? ⟨w1.heap.size, 0, none⟩ = some (.int .i64 n) ∧ w'.cell? ⟨w1.heap.size, 1, none⟩ = some (.int .i64 d)) := fun w' b => ⟨b, (b.cell (cell_below d1)).trans d1, (b.cell (cell_below d2)).trans d2, (b.cell (cell_below c1)).trans c1, (b.cell (cell_below c2)).trans c2⟩
        have held : ∀ W w' : World, Below W.heap.size W w' → (Below wv1.heap.size wv1 W ∧ W.cell? ⟨g, of + j * 2, none⟩ = some (.int .i64 px) ∧ W.cell? ⟨g, of + j * 2 + 1, none⟩ = some (.int .i64 py) ∧ W.cell? ⟨w1.heap.size, 0, none⟩ = some (.int .i64 n) ∧ W.cell? ⟨w1.heap.size, 1, none⟩ = some (.int .i64 d)) → (Below wv1.heap.size wv1 w' ∧ w'.cell? ⟨g, of + j * 2, none⟩ = some (.int .i64 px) ∧ w'.cell? ⟨g, of + j * 2 + 1, none⟩ = some (.int .i64 py) ∧ w'.cell? ⟨w1.heap.size, 0, none⟩ = some (.int .i64 n) ∧ w'.cell? ⟨w1.heap.size, 1, none⟩ = some (.int .i64 d)) := fun W w' b h => mkS w' (h.1.trans (b.mono h.1.size))
        have heldSet : ∀ (W w' : World) (k' : Nat) (x y : Int), wv1.heap.size ≤ k' → w' = (W.setCell ⟨k', 0, none⟩ (.int .i64 x)).setCell ⟨k', 1, none⟩ (.int .i64 y) → (Below wv1.heap.size wv1 W ∧ W.cell? ⟨g, of + j * 2, none⟩ = some (.int .i64 px) ∧ W.cell? ⟨g, of + j * 2 + 1, none⟩ = some (.int .i64 py) ∧ W.cell? ⟨w1.heap.size, 0, none⟩ = some (.int .i64 n) ∧ W.cell? ⟨w1.heap.size, 1, none⟩ = some (.int .i64 d)) → (Below wv1.heap.size wv1 w' ∧ w'.cell? ⟨g, of + j * 2, none⟩ = some (.int .i64 px) ∧ w'.cell? ⟨g, of + j * 2 + 1, none⟩ = some (.int .i64 py) ∧ w'.cell? ⟨w1.heap.size, 0, none⟩ = some (.int .i64 n) ∧ w'.cell? ⟨w1.heap.size, 1, none⟩ = some (.int .i64 d)) := fun W w' k' x y hk e h => by
          subst e
          exact mkS _ ((h.1.setCell (p := ⟨k', 0, none⟩) hk _).setCell (p := ⟨k', 1, none⟩) hk _)
        have keep0 := mkS _ (Below.refl wv1.heap.size wv1).drew
        have keepY := mkS _ ((Below.refl wv1.heap.size wv1).alloc (Nat.le_refl _) (.cells #[.int .i64 0, .int .i64 0] 30)).drew
        have atR := fun (W : World) (h : (Below wv1.heap.size wv1 W ∧ W.cell? ⟨g, of + j * 2, none⟩ = some (.int .i64 px) ∧ W.cell? ⟨g, of + j * 2 + 1, none⟩ = some (.int .i64 py) ∧ W.cell? ⟨w1.heap.size, 0, none⟩ = some (.int .i64 n) ∧ W.cell? ⟨w1.heap.size, 1, none⟩ = some (.int .i64 d))) => R.out.grow h.1
        have tok0 : True := trivial
        go_region_held3 (fun w' => (Below wv1.heap.size wv1 w' ∧ w'.cell? ⟨g, of + j * 2, none⟩ = some (.int .i64 px) ∧ w'.cell? ⟨g, of + j * 2 + 1, none⟩ = some (.int .i64 py) ∧ w'.cell? ⟨w1.heap.size, 0, none⟩ = some (.int .i64 n) ∧ w'.cell? ⟨w1.heap.size, 1, none⟩ = some (.int .i64 d))) (first | exact keep0 | exact keepY | exact hs0 | (have _q := hs0; exact held _ _ ((Below.refl _ _).alloc (Nat.le_refl _) _) hs0) | (have _q := hs0; exact heldSet _ _ _ _ _ (by omega) rfl hs0)) (first | (go_at_call 23; refine (implFracAdd_any _ _ _ _ _).mono ?_; rintro e x0 ⟨n5, d5, ok5, rfl, hr5, b0⟩; have hs0 := held _ _ b0 (by assumption); have hz0 := hs0.1.size; (first | (have zz := top_two (u := .int .i64 0) (v := .int .i64 0) (t := 30) b0) | (have zz := top_two_drew (u := .int .i64 0) (v := .int .i64 0) (t := 30) b0) | (replace zz := later_two b0 zz) | (have zz := later_two (k := wv1.heap.size) (u := .int .i64 0) (v := .int .i64 0) b0 ⟨by go_cell, by go_cell, by go_simp, by go_simp, by simp; omega⟩) | skip); (try simp only [World.size_alloc] at zz)))
        all_goals
          clear keep0 keepY held heldSet
          have S5 : St wv1 x0 [] := ⟨hs0.1, trivial⟩
          first
            | (
                fail_if_success (have q := zz)
                go_wp2
                go_meet
                exact TwoMid.mk hr5 (S5.alloc _ _))
            | (
                go_wp2
                go_meet
                exact TwoMid.mk hr5 (St.put2 (St.put zz S5) (by omega) (by simp only [Apart]) _ _))
      case rest =>
        revert hcut
        revert wc
        intro wv2 hcut
        obtain ⟨k2, n9, d9, ok, rfl, rfl, hr, S5⟩ := hcut
        replace R := Lib.hid (R.out.grow S5.below)
        replace S := S.more S5
        clear S5
        clear r
        have r := S.holds
        simp only [Holds, and_true] at r
        try simp only [World.size_alloc] at r
        obtain ⟨⟨p0, p1, p2, p3, p4⟩, ⟨q0, q1, q2, q3, q4⟩, y0, y1, y2, y3, y4⟩ := r
        have ne1 : ¬ w1.heap.size = w.heap.size := by omega
        have ne2 : ¬ w.heap.size = w1.heap.size := by omega
        clear c1 c2 c3 c4 x0 d1 d2
        rcases hr with ⟨rfl, _, hf6, hq6⟩ | ⟨rfl, rfl, rfl, hno⟩
        · have HF6 := Lib.hid hf6; have HQ6 : Hid (fq n9 d9 = s + rs[j]) := Lib.hid (by rw [hq6, HQ.out, QX.out])
          have IN6 : Hid (addL 0 rs = addL (s + rs[j]) (rs.drop (j + 1))) := Lib.hid (by rw [IN.out, addL_next hlt, if_pos (by rw [← HQ6.out]; exact fq_fits HF6.out)])
          have S6 := Lib.hid (St.put2 S.tail (by omega) (by simp only [Apart, and_true]; omega) n9 d9)
          clear hf6 hq6 S
          go_wp2_with fail
          go_roundg (gk - 1)
          case measure => have := K.out; omega
          case rel => exact ⟨j + 1, n9, d9, _, by go_num, by have := K.out; omega, HF6.out, HQ6.out, IN6.out, S6.out⟩
        · have AE : Hid (addL 0 rs = none) := Lib.hid (by
            rw [IN.out, addL_next hlt, if_neg]
            rcases hno with hno | hno
            · rw [HF.out, FX.out] at hno; cases hno
            · rw [HQ.out, QX.out] at hno; rw [hno]; decide)
          have B3 := Lib.hid S.below
          clear hno S
          go_wp2_with fail
          refine back_frac 2 (x := .int .i64 0) (y := .int .i64 0) rfl rfl rfl (by go_cell) (by go_cell) rfl ?_
          exact gotO_no AE.out (by have := B3.out; go_grown)
    · have hj : j = rs.length := by omega
      have AE : Hid (addL 0 rs = some s) := Lib.hid (by rw [IN.out, hj, List.drop_length]; rfl)
      obtain ⟨⟨q0, q1, q2, q3, q4⟩, x0, x1, x2, x3, x4⟩ := r
      have ne1 : ¬ w1.heap.size = w.heap.size := by omega
      have ne2 : ¬ w.heap.size = w1.heap.size := by omega
      go_wp2_with fail
      refine back_frac 2 rfl rfl rfl (stored0 _ _ x0) (stored1 _ _ x1) rfl ?_
      exact gotO_yes AE.out HF.out HQ.out (by have := S.below; go_grown)
end Go.Proofs.Ytkcbgeldnibjcaa
