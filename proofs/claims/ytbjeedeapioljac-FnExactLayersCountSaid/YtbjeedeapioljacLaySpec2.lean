/- The contracts of the model's functions on layers: numbers, ages, the depth of a number. -/
import Derived.Test.YtbjeedeapioljacLaySpec
namespace Go.Proofs.Ytbjeedeapioljac
open Go.RowKit

/-- Two numbers, or none. -/
def cntV (l : LL) (t b : Int) : Value := if cntOk l t b = true then .tuple #[.int .i64 (cntS t b l), .int .i64 (cntA t b l), .bool true] else .tuple #[.int .i64 0, .int .i64 0, .bool false]
theorem cntV_yes {l : LL} {t b : Int} (h : cntOk l t b = true) : cntV l t b = .tuple #[.int .i64 (cntS t b l), .int .i64 (cntA t b l), .bool true] := if_pos h
theorem cntV_no {l : LL} {t b : Int} (h : cntOk l t b = false) : cntV l t b = .tuple #[.int .i64 0, .int .i64 0, .bool false] := if_neg (by rw [h]; simp)
def halfV (l : LL) (t b : Int) : Value := if cntOk l t b = true then .tuple #[.int .i64 ((cntS t b l : Int) + cntA t b l), .bool true] else .tuple #[.int .i64 0, .bool false]
theorem halfV_yes {l : LL} {t b : Int} (h : cntOk l t b = true) : halfV l t b = .tuple #[.int .i64 ((cntS t b l : Int) + cntA t b l), .bool true] := if_pos h
theorem halfV_no {l : LL} {t b : Int} (h : cntOk l t b = false) : halfV l t b = .tuple #[.int .i64 0, .bool false] := if_neg (by rw [h]; simp)
def ageV (l : LL) (a d : Int) : Value := if ageOk l a d = true then .tuple #[.int .i64 (a + cntS 0 d l), .int .i64 (a + cntA 0 d l), .bool true] else .tuple #[.int .i64 0, .int .i64 0, .bool false]
theorem ageV_yes {l : LL} {a d : Int} (h : ageOk l a d = true) : ageV l a d = .tuple #[.int .i64 (a + cntS 0 d l), .int .i64 (a + cntA 0 d l), .bool true] := if_pos h
theorem ageV_no {l : LL} {a d : Int} (h : ageOk l a d = false) : ageV l a d = .tuple #[.int .i64 0, .int .i64 0, .bool false] := if_neg (by rw [h]; simp)
def dthV (l : LL) (n : Int) : Value := match dthOk l n with | some d => .tuple #[.int .i64 d, .bool true] | none => .tuple #[.int .i64 0, .bool false]
theorem dthV_yes {l : LL} {n d : Int} (h : dthOk l n = some d) : dthV l n = .tuple #[.int .i64 d, .bool true] := by rw [dthV, h]
theorem dthV_no {l : LL} {n : Int} (h : dthOk l n = none) : dthV l n = .tuple #[.int .i64 0, .bool false] := by rw [dthV, h]
theorem cntOk_in {l : LL} {t b : Int} (h : cntOk l t b = true) : isLay l = true ∧ isIn t 0 30000 = true ∧ isIn b t 30000 = true := by
  simp only [cntOk, spanOk, Bool.and_eq_true, decide_eq_true_eq] at h
  exact ⟨h.1, isIn_yes h.2.1.1 (by omega), isIn_yes h.2.1.2 h.2.2⟩
theorem cntOk_lay {l : LL} {t b : Int} (h : isLay l = false) : cntOk l t b = false := by rw [cntOk, h]; rfl
theorem cntOk_t {l : LL} {t b : Int} (h : isIn t 0 30000 = false) : cntOk l t b = false := by
  cases e : cntOk l t b
  · rfl
  · rw [(cntOk_in e).2.1] at h; cases h
theorem cntOk_b {l : LL} {t b : Int} (h : isIn b t 30000 = false) : cntOk l t b = false := by
  cases e : cntOk l t b
  · rfl
  · rw [(cntOk_in e).2.2] at h; cases h
theorem cntOk_all {l : LL} {t b : Int} (h1 : isLay l = true) (h2 : isIn t 0 30000 = true) (h3 : isIn b t 30000 = true) : cntOk l t b = true := by
  have := isIn_range h2; have := isIn_range h3
  simp only [cntOk, spanOk, h1, Bool.and_eq_true, decide_eq_true_eq, true_and]; omega
theorem cntOk_iff {l : LL} {t b : Int} : cntOk l t b = true ↔ isLay l = true ∧ 0 ≤ t ∧ t ≤ b ∧ b ≤ 30000 := by
  simp only [cntOk, spanOk, Bool.and_eq_true, decide_eq_true_eq, and_assoc]
theorem ageOk_iff {l : LL} {a d : Int} : ageOk l a d = true ↔ isLay l = true ∧ 0 ≤ d ∧ d ≤ 30000 ∧ -400000 ≤ a ∧ a ≤ 400000 := by
  simp only [ageOk, cntOk_iff, Bool.and_eq_true, decide_eq_true_eq]
  exact ⟨fun ⟨⟨h1, _, h2, h3⟩, h4, h5⟩ => ⟨h1, h2, h3, h4, h5⟩, fun ⟨h1, h2, h3, h4, h5⟩ => ⟨⟨h1, Int.le_refl 0, h2, h3⟩, h4, h5⟩⟩
theorem cnt_bounds {l : LL} (h : isLay l = true) (t b : Int) : cntS t b l ≤ 40 ∧ cntA t b l ≤ 40 ∧ cntS t b l ≤ cntA t b l := by
  have := lay_len h; have := cntA_le t b l; have := cntS_le t b l; omega
theorem cntA_no {t b : Int} {l : LL} {k : Nat} (hk : k < l.length) (h : l[k].1 < t ∨ b ≤ l[k].1) : cntA t b (l.take (k + 1)) = cntA t b (l.take k) ∧ cntS t b (l.take (k + 1)) = cntS t b (l.take k) := by
  have e : inS t b l[k] = false := by simp only [inS, Bool.and_eq_false_iff, decide_eq_false_iff_not]; omega
  exact ⟨by rw [cntA, cnt_step _ l k hk, e]; simp [cntA], by rw [cntS, cnt_step _ l k hk, e]; simp [cntS]⟩
theorem cntA_yes {t b : Int} {l : LL} {k : Nat} (hk : k < l.length) (h1 : t ≤ l[k].1) (h2 : l[k].1 < b) : cntA t b (l.take (k + 1)) = cntA t b (l.take k) + 1 ∧ cntS t b (l.take (k + 1)) = cntS t b (l.take k) + if l[k].2 = true then 1 else 0 := by
  have e : inS t b l[k] = true := by simp only [inS, Bool.and_eq_true, decide_eq_true_eq]; omega
  exact ⟨by rw [cntA, cnt_step _ l k hk, e]; simp [cntA], by rw [cntS, cnt_step _ l k hk, e]; simp [cntS]⟩
theorem cnt_small (t b : Int) {l : LL} (h : isLay l = true) (k : Nat) : cntS t b (l.take k) ≤ 40 ∧ cntA t b (l.take k) ≤ 40 := by
  have := cnt_bounds (lay_take k h) t b; omega

set_option maxRecDepth 100000 in
set_option maxHeartbeats 1600000 in
theorem specCount_any {w : World} {v : Value} {l : LL} (t b : Int) (h : LRow w v l) :
    Calls Try.prog 13 #[v, .int .i64 t, .int .i64 b] w fun e w' => e = .returned (cntV l t b) ∧ Below w.heap.size w w' := by
  have HV := Lib.hid h
  obtain ⟨a, c, rfl, h1, h2, hlie⟩ := h.parts
  have H := Lib.hid hlie
  unfold maxLen at h2
  clear h hlie
  cases hv : isLay l
  · have LV := Lib.hid hv
    clear hv
    go_enter Try.func13, Try.ntmps13
    go_wp2_with fail
    refine (specValid_is HV.out LV.out).mono ?_
    rintro e w1 ⟨rfl, b1⟩
    go_wp2_with fail
    go_ret3
    exact ⟨by rw [cntV_no (cntOk_lay LV.out)]; rfl, b1⟩
  have LV := Lib.hid hv
  clear hv
  cases hv : isIn t 0 30000
  · have TV := Lib.hid hv
    clear hv
    go_enter Try.func13, Try.ntmps13
    go_wp2_with fail
    refine (specValid_is HV.out LV.out).mono ?_
    rintro e w1 ⟨rfl, b1⟩
    go_wp2_with fail
    refine (l11Depth_is TV.out _).mono ?_
    rintro e w2 ⟨rfl, rfl⟩
    go_wp2_with fail
    go_ret3
    exact ⟨by rw [cntV_no (cntOk_t TV.out)]; rfl, b1⟩
  have TV := Lib.hid hv
  clear hv
  cases hv : isIn b t 30000
  · have BV := Lib.hid hv
    clear hv
    go_enter Try.func13, Try.ntmps13
    go_wp2_with fail
    refine (specValid_is HV.out LV.out).mono ?_
    rintro e w1 ⟨rfl, b1⟩
    go_wp2_with fail
    refine (l11Depth_is TV.out _).mono ?_
    rintro e w2 ⟨rfl, rfl⟩
    go_wp2_with fail
    refine (l6In_any _ _ _ _).mono ?_
    rintro e w2 ⟨rfl, rfl⟩
    rw [BV.out]
    go_wp2_with fail
    go_ret3
    exact ⟨by rw [cntV_no (cntOk_b BV.out)]; rfl, b1⟩
  have BV := Lib.hid hv
  clear hv
  have OK := Lib.hid (cntOk_all LV.out TV.out BV.out)
  go_enter Try.func13, Try.ntmps13
  go_wp2_with fail
  refine (specValid_is HV.out LV.out).mono ?_
  rintro e w1 ⟨rfl, b1⟩
  have B1 := Lib.hid b1
  clear b1
  go_wp2_with fail
  refine (l11Depth_is TV.out _).mono ?_
  rintro e w2 ⟨rfl, rfl⟩
  go_wp2_with fail
  refine (l6In_any _ _ _ _).mono ?_
  rintro e w2 ⟨rfl, rfl⟩
  rw [BV.out]
  go_wp2_with fail
  go_loopg [9, 10, 11] l.length (fun k x y z wr => ∃ (j m n : Nat), x = .int .i64 m ∧ y = .int .i64 n ∧ z = .int .i64 j ∧ j + k = l.length ∧ m = cntS t b (l.take j) ∧ n = cntA t b (l.take j) ∧ Below w.heap.size w wr)
  case atStart => exact ⟨0, 0, 0, rfl, rfl, rfl, by omega, rfl, rfl, B1.out⟩
  case round =>
    obtain ⟨j, m, n, rfl, rfl, rfl, hk, hm, hn, hb⟩ := hrel
    have K := Lib.hid hk; have M := Lib.hid hm; have N := Lib.hid hn; have B := Lib.hid hb
    have hjl : j ≤ l.length := by omega
    have hsm := cnt_small t b LV.out j
    rw [← hm, ← hn] at hsm
    obtain ⟨m40, n40⟩ := hsm
    clear hk hm hn hb
    by_cases hlt : j < l.length
    · obtain ⟨g, o, rfl, d1, d2⟩ := llies_cell H.out j hlt
      have e1 := (B.out.cell (cell_below d1)).trans d1
      have e2 := (B.out.cell (cell_below d2)).trans d2
      clear d1 d2
      by_cases q1 : t ≤ l[j].1
      · have q2 : decide (t ≤ l[j].1) = true := by simpa using q1
        by_cases q3 : l[j].1 < b
        · have q4 : decide (l[j].1 < b) = true := by simpa using q3
          have Y := Lib.hid (cntA_yes (t := t) (b := b) hlt q1 q3)
          cases hsv : l[j].2
          · rw [hsv] at e2
            have Z : Hid (cntS t b (l.take (j + 1)) = cntS t b (l.take j)) := Lib.hid (by rw [Y.out.2, hsv]; rfl)
            clear hsv
            go_wp2_with fail
            go_roundg (gk - 1)
            case measure => have := K.out; omega
            case rel => exact ⟨j + 1, m, n + 1, rfl, by go_num, by go_num, by have := K.out; omega, by rw [Z.out]; exact M.out, by rw [Y.out.1]; have := N.out; omega, B.out⟩
          · rw [hsv] at e2
            have Z : Hid (cntS t b (l.take (j + 1)) = cntS t b (l.take j) + 1) := Lib.hid (by rw [Y.out.2, hsv]; rfl)
            clear hsv
            go_wp2_with fail
            go_roundg (gk - 1)
            case measure => have := K.out; omega
            case rel => exact ⟨j + 1, m + 1, n + 1, by go_num, by go_num, by go_num, by have := K.out; omega, by rw [Z.out]; have := M.out; omega, by rw [Y.out.1]; have := N.out; omega, B.out⟩
        · have q4 : decide (l[j].1 < b) = false := by simpa using q3
          have Y := Lib.hid (cntA_no (t := t) (b := b) hlt (.inr (Int.not_lt.1 q3)))
          go_wp2_with fail
          go_roundg (gk - 1)
          case measure => have := K.out; omega
          case rel => exact ⟨j + 1, m, n, rfl, rfl, by go_num, by have := K.out; omega, by rw [Y.out.2]; exact M.out, by rw [Y.out.1]; exact N.out, B.out⟩
      · have q2 : decide (t ≤ l[j].1) = false := by simpa using q1
        have Y := Lib.hid (cntA_no (t := t) (b := b) hlt (.inl (Int.not_le.1 q1)))
        go_wp2_with fail
        go_roundg (gk - 1)
        case measure => have := K.out; omega
        case rel => exact ⟨j + 1, m, n, rfl, rfl, by go_num, by have := K.out; omega, by rw [Y.out.2]; exact M.out, by rw [Y.out.1]; exact N.out, B.out⟩
    · have R : Hid (cntS t b l = m ∧ cntA t b l = n) := Lib.hid (by
        have e : l.take j = l := List.take_of_length_le (by omega)
        have := M.out; have := N.out
        rw [e] at *; omega)
      go_wp2_with fail
      go_ret3
      exact ⟨by rw [cntV_yes OK.out, R.out.1, R.out.2]; rfl, B.out⟩
set_option maxHeartbeats 800000 in
theorem specHalf_any {w : World} {v : Value} {l : LL} (t b : Int) (h : LRow w v l) :
    Calls Try.prog 19 #[v, .int .i64 t, .int .i64 b] w fun e w' => e = .returned (halfV l t b) ∧ Below w.heap.size w w' := by
  have C := Lib.hid (specCount_any t b h)
  obtain ⟨a, c, rfl, h1, h2, _⟩ := h.parts
  clear h
  cases hv : cntOk l t b
  · have O := Lib.hid hv
    clear hv
    go_enter Try.func19, Try.ntmps19
    go_wp2_with fail
    refine C.out.mono ?_
    rw [cntV_no O.out]
    rintro e w1 ⟨rfl, b1⟩
    go_wp2_with fail
    go_ret2
    exact ⟨by rw [halfV_no O.out]; rfl, b1⟩
  · have O := Lib.hid hv
    obtain ⟨m40, n40, _⟩ := cnt_bounds (cntOk_iff.1 hv).1 t b
    clear hv
    go_enter Try.func19, Try.ntmps19
    go_wp2_with fail
    refine C.out.mono ?_
    rw [cntV_yes O.out]
    rintro e w1 ⟨rfl, b1⟩
    have e1 : IntKind.i64.wrap ((cntS t b l : Int) + cntA t b l) = (cntS t b l : Int) + cntA t b l := IntWalk.i64_in _ (by omega)
    go_wp2_with fail
    go_ret2
    exact ⟨by rw [halfV_yes O.out]; first | rfl | simp only [e1]; rfl, b1⟩
theorem age_no {l : LL} {a d : Int} (h : cntOk l 0 d = false) : ageOk l a d = false := by rw [ageOk, h]; rfl
theorem age_out {l : LL} {a d : Int} (h : isIn a (-400000) 400000 = false) : ageOk l a d = false := by
  cases e : ageOk l a d
  · rfl
  · have := ageOk_iff.1 e
    rw [isIn_yes this.2.2.2.1 this.2.2.2.2] at h; cases h
theorem age_in {l : LL} {a d : Int} (h : cntOk l 0 d = true) (k : isIn a (-400000) 400000 = true) : ageOk l a d = true := by
  have h1 := cntOk_iff.1 h; have := isIn_range k
  exact ageOk_iff.2 ⟨h1.1, by omega, by omega, by omega, by omega⟩
set_option maxHeartbeats 800000 in
theorem specAge_any {w : World} {v : Value} {l : LL} (x d : Int) (h : LRow w v l) :
    Calls Try.prog 21 #[v, .int .i64 x, .int .i64 d] w fun e w' => e = .returned (ageV l x d) ∧ Below w.heap.size w w' := by
  have C := Lib.hid (specCount_any 0 d h)
  obtain ⟨a, c, rfl, h1, h2, _⟩ := h.parts
  clear h
  cases hv : cntOk l 0 d
  · have O := Lib.hid hv
    clear hv
    go_enter Try.func21, Try.ntmps21
    go_wp2_with fail
    refine C.out.mono ?_
    rw [cntV_no O.out]
    rintro e w1 ⟨rfl, b1⟩
    go_wp2_with fail
    go_ret3
    exact ⟨by rw [ageV_no (age_no O.out)]; rfl, b1⟩
  · have O := Lib.hid hv
    obtain ⟨m40, n40, _⟩ := cnt_bounds (cntOk_iff.1 hv).1 0 d
    clear hv
    cases hx : isIn x (-400000) 400000
    · have X := Lib.hid hx
      clear hx
      go_enter Try.func21, Try.ntmps21
      go_wp2_with fail
      refine C.out.mono ?_
      rw [cntV_yes O.out]
      rintro e w1 ⟨rfl, b1⟩
      go_wp2_with fail
      refine (l6In_any _ _ _ _).mono ?_
      rintro e w2 ⟨rfl, rfl⟩
      rw [X.out]
      go_wp2_with fail
      go_ret3
      exact ⟨by rw [ageV_no (age_out X.out)]; rfl, b1⟩
    · have X := Lib.hid hx
      obtain ⟨x0, x1⟩ := isIn_range hx
      clear hx
      have e1 : IntKind.i64.wrap (x + cntS 0 d l) = x + cntS 0 d l := IntWalk.i64_in _ (by omega)
      have e2 : IntKind.i64.wrap (x + cntA 0 d l) = x + cntA 0 d l := IntWalk.i64_in _ (by omega)
      go_enter Try.func21, Try.ntmps21
      go_wp2_with fail
      refine C.out.mono ?_
      rw [cntV_yes O.out]
      rintro e w1 ⟨rfl, b1⟩
      go_wp2_with fail
      refine (l6In_any _ _ _ _).mono ?_
      rintro e w2 ⟨rfl, rfl⟩
      rw [X.out]
      go_wp2_with fail
      go_ret3
      exact ⟨by rw [ageV_yes (age_in O.out X.out)]; rfl, b1⟩
end Go.Proofs.Ytbjeedeapioljac
