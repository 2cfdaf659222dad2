/- The contract of the model's CoreBetween. -/
import Derived.Test.YtdljfikgmhdedaaSpecGaps
import Derived.BigRegion
namespace Go.Proofs.Ytdljfikgmhdedaa
open Go.RowKit

theorem bt_append (t u : Int) (l m : List Pc) : bt t u (l ++ m) = bt t u l ++ bt t u m := by
  induction l with
  | nil => rfl
  | cons p l ih => simp only [List.cons_append, bt]; split <;> simp [ih]
theorem bt_take {t u : Int} {l : List Pc} {j : Nat} (hj : j < l.length) : bt t u (l.take (j + 1)) = bt t u (l.take j) ++ (if max l[j].1 t < min l[j].2 u then [(max l[j].1 t, min l[j].2 u)] else []) := by
  rw [List.take_succ_eq_append_getElem hj, bt_append]
  rfl

set_option maxHeartbeats 800000 in
theorem specCoreBetween_any {w : World} {v : Value} {l : List Pc} (t u : Int) (h : Row w v l) :
    Calls Try.prog 34 #[v, .int .i64 t, .int .i64 u] w fun e w' => LstB w (btOf t u l) e w' := by
  have CV := Lib.hid (specCoreValid_any (h.grow ((Below.refl _ _).alloc (Nat.le_refl _) (.cells #[] 27))))
  have O := Lib.hid (own_new (w := w) (B := w.heap.size) (Nat.le_refl _))
  have B0 := Lib.hid ((Below.refl w.heap.size w).alloc (Nat.le_refl _) (.cells #[] 27))
  obtain ⟨a, n, c, rfl, hl, h1, h2, hlie⟩ := h
  have hm : n ≤ maxLen := by omega
  unfold maxLen at hm
  have no : ∀ w1 : World, Below (w.alloc (.cells #[] 27)).heap.size (w.alloc (.cells #[] 27)) w1 → ¬ (isCore l = true ∧ 0 ≤ t ∧ t ≤ u ∧ u ≤ 30000) →
      LstB w (btOf t u l) (.returned (.tuple #[.slice (some ⟨w.heap.size, 0, none⟩) 0 0, .bool false])) w1 := fun w1 hb hn => by
    rw [btOf, if_neg hn]
    exact ⟨_, rfl, O.out.grow hb, B0.out.trans (hb.mono (by simp))⟩
  have NO := Lib.hid no
  clear no
  cases hv : isCore l
  · have cv := CV.out
    rw [hv] at cv
    have CV2 := Lib.hid cv
    have HN : Hid (¬ (isCore l = true ∧ 0 ≤ t ∧ t ≤ u ∧ u ≤ 30000)) := Lib.hid (fun h => by rw [hv] at h; exact absurd h.1 (by simp))
    clear cv hv
    go_enter Try.func34, Try.ntmps34
    go_wp2_with fail
    refine CV2.out.mono ?_
    rintro e w1 ⟨rfl, hb⟩
    have B1 := Lib.hid hb
    clear hb
    go_wp2_with fail
    go_ret2
    exact NO.out w1 B1.out HN.out
  have cv := CV.out
  rw [hv] at cv
  have CV2 := Lib.hid cv
  have HV := Lib.hid hv
  have hn20 : n ≤ 20 := by have := isCore_iff.1 hv; omega
  clear cv hv
  by_cases c1 : 0 ≤ t ∧ t ≤ 30000
  rotate_left
  · have d1 : (decide (0 ≤ t) && decide (t ≤ 30000)) = false := by simpa using c1
    have HN : Hid (¬ (isCore l = true ∧ 0 ≤ t ∧ t ≤ u ∧ u ≤ 30000)) := Lib.hid (fun h => c1 (by omega))
    have D1 := Lib.hid d1
    clear c1 d1
    go_enter Try.func34, Try.ntmps34
    go_wp2_with fail
    refine CV2.out.mono ?_
    rintro e w1 ⟨rfl, hb⟩
    have B1 := Lib.hid hb
    clear hb
    go_wp2_with fail
    refine (l6In_any _ _ _ _).mono ?_
    rintro e w2 ⟨rfl, rfl⟩
    rw [D1.out]
    go_wp2_with fail
    go_ret2
    exact NO.out w1 B1.out HN.out
  have d1 : (decide (0 ≤ t) && decide (t ≤ 30000)) = true := by simpa using c1
  have D1 := Lib.hid d1
  have C1 := Lib.hid c1
  clear c1 d1
  by_cases c2 : t ≤ u ∧ u ≤ 30000
  rotate_left
  · have d2 : (decide (t ≤ u) && decide (u ≤ 30000)) = false := by simpa using c2
    have HN : Hid (¬ (isCore l = true ∧ 0 ≤ t ∧ t ≤ u ∧ u ≤ 30000)) := Lib.hid (fun h => c2 (by omega))
    have D2 := Lib.hid d2
    clear c2 d2
    go_enter Try.func34, Try.ntmps34
    go_wp2_with fail
    refine CV2.out.mono ?_
    rintro e w1 ⟨rfl, hb⟩
    have B1 := Lib.hid hb
    clear hb
    go_wp2_with fail
    refine (l6In_any _ _ _ _).mono ?_
    rintro e w2 ⟨rfl, rfl⟩
    rw [D1.out]
    go_wp2_with fail
    refine (l6In_any _ _ _ _).mono ?_
    rintro e w2 ⟨rfl, rfl⟩
    rw [D2.out]
    go_wp2_with fail
    go_ret2
    exact NO.out w1 B1.out HN.out
  have d2 : (decide (t ≤ u) && decide (u ≤ 30000)) = true := by simpa using c2
  have D2 := Lib.hid d2
  have RES : Hid (btOf t u l = some (bt t u l)) := Lib.hid (if_pos ⟨HV.out, C1.out.1, c2.1, c2.2⟩)
  clear c2 d2
  go_enter Try.func34, Try.ntmps34
  go_wp2_with fail
  refine CV2.out.mono ?_
  rintro e w1 ⟨rfl, hb⟩
  have B1 := Lib.hid hb
  clear hb
  go_wp2_with fail
  refine (l6In_any _ _ _ _).mono ?_
  rintro e w2 ⟨rfl, rfl⟩
  rw [D1.out]
  go_wp2_with fail
  refine (l6In_any _ _ _ _).mono ?_
  rintro e w2 ⟨rfl, rfl⟩
  rw [D2.out]
  go_wp2_with fail
  go_loopg [8, 9] n (fun k x y wr => ∃ (j : Nat), y = .int .i64 j ∧ j + k = n ∧ Own wr w.heap.size x (bt t u (l.take j)) ∧ Below w.heap.size w wr)
  case atStart => exact ⟨0, rfl, by omega, O.out.grow B1.out, B0.out.trans (B1.out.mono (by simp))⟩
  case round =>
    obtain ⟨j, rfl, hk, ho, hb⟩ := hrel
    have K := Lib.hid hk; have OW := Lib.hid ho; have B2 := Lib.hid hb
    have hjn : j ≤ n := by omega
    have hml : (bt t u (l.take j)).length ≤ 20 := by have := bt_length t u (l.take j); have : (l.take j).length ≤ j := List.length_take_le _ _; omega
    have hw2 : w.heap.size ≤ wr.heap.size := hb.size
    clear hk ho hb
    by_cases hlt : j < n
    · obtain ⟨g, o, rfl, c1, c2⟩ := lies_cell hlie j (by omega)
      have d1 := (B2.out.cell (cell_below c1)).trans c1
      have d2 := (B2.out.cell (cell_below c2)).trans c2
      have hgl : g < wr.heap.size := by have : g < w.heap.size := cell_below c1; omega
      have HL := Lib.hid hlie
      clear hlie c1 c2
      have TK := Lib.hid (bt_take (t := t) (u := u) (l := l) (j := j) (by omega))
      obtain ⟨x, hx⟩ : ∃ x, (if l[j].1 < t then t else l[j].1) = x := ⟨_, rfl⟩
      obtain ⟨y, hy⟩ : ∃ y, (if u < l[j].2 then u else l[j].2) = y := ⟨_, rfl⟩
      have HX : Aside (max l[j].1 t = x) := by rw [← hx]; show _ = _; split <;> omega
      have HY : Aside (min l[j].2 u = y) := by rw [← hy]; show _ = _; split <;> omega
      by_cases c3 : x < y
      · go_wp2_with fail
        go_region
        have BW := Lib.hid ((((Below.refl wr.heap.size wr).alloc (Nat.le_refl _) (.cells #[.int .i64 x, .int .i64 y] 27)).alloc (by simp) (.cells #[.int .i64 x, .int .i64 y] 27)).drew)
        obtain ⟨n1, n2⟩ := new_two (wr.alloc (.cells #[.int .i64 x, .int .i64 y] 27)) (.int .i64 x) (.int .i64 y) 27
        rw [World.size_alloc] at n1 n2
        have A4 := Lib.hid n1; have A5 := Lib.hid n2
        clear n1 n2
        go_wp2_with (at_builtin; refine append_piece rfl _ _ rfl (B := w.heap.size) _ (bt t u (l.take j)) rfl (OW.out.grow BW.out) ⟨wr.heap.size + 1, 0, none⟩ (x, y) rfl A4.out A5.out (by omega) (by simp; omega) ?_; intro v' w1 hown' hg)
        have OW2 := Lib.hid hown'
        have B3 := Lib.hid ((B2.out.trans (BW.out.mono hw2)).trans ((OW.out.grow BW.out).below hg (by simp; omega)))
        clear hown' hg
        go_roundg (gk - 1)
        case measure => have := K.out; omega
        case rel => exact ⟨j + 1, by go_num, by have := K.out; omega, by rw [TK.out, HX.out, HY.out, if_pos c3]; exact OW2.out, B3.out⟩
      · go_wp2_with fail
        go_region
        go_wp2_with fail
        go_roundg (gk - 1)
        case measure => have := K.out; omega
        case rel => exact ⟨j + 1, by go_num, by have := K.out; omega, by rw [TK.out, HX.out, HY.out, if_neg (by omega), List.append_nil]; exact OW.out.grow (((Below.refl _ _).alloc (Nat.le_refl _) _).drew), (B2.out.alloc hw2 _).drew⟩
    · go_wp2_with fail
      go_ret2
      refine ⟨u8, by rw [RES.out]; rfl, ?_, B2.out⟩
      rw [RES.out]
      have := OW.out
      rwa [List.take_of_length_le (by omega)] at this
end Go.Proofs.Ytdljfikgmhdedaa
