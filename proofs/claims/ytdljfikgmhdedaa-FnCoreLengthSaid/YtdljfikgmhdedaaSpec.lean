/- The contracts of the model's functions on pieces: length, has, gaps. -/
import Derived.Test.YtdljfikgmhdedaaSpecV
namespace Go.Proofs.Ytdljfikgmhdedaa
open Go.RowKit

theorem lies_cell {w : World} {a : Option Addr} {l : List Pc} (h : Lies w a l) (k : Nat) (hk : k < l.length) :
    ∃ g o, a = some ⟨g, o, none⟩ ∧ w.cell? ⟨g, o + k * 2, none⟩ = some (.int .i64 l[k].1) ∧ w.cell? ⟨g, o + k * 2 + 1, none⟩ = some (.int .i64 l[k].2) := by
  rcases h with rfl | ⟨g, o, e, hc⟩
  · simp at hk
  · exact ⟨g, o, e, hc k hk⟩
theorem len_take_succ {l : List Pc} {k : Nat} (hk : k < l.length) : len (l.take (k + 1)) = len (l.take k) + (l[k].2 - l[k].1) := by
  rw [List.take_succ_eq_append_getElem hk, len_append]; simp [len]

set_option maxHeartbeats 400000 in
theorem specCoreLength_any {w : World} {v : Value} {l : List Pc} (h : Row w v l) :
    Calls Try.prog 17 #[v] w fun e w' => Val w (.int .i64 (lenOf l)) e w' := by
  have CV := Lib.hid (specCoreValid_any h)
  obtain ⟨a, n, c, rfl, hl, h1, h2, hlie⟩ := h
  have hm : n ≤ maxLen := by omega
  unfold maxLen at hm
  cases hv : isCore l
  · have HV := Lib.hid hv
    clear hv
    have cv := CV.out
    rw [HV.out] at cv
    have CV2 := Lib.hid cv
    clear cv
    go_enter Try.func17, Try.ntmps17
    go_wp2_with fail
    refine CV2.out.mono ?_
    rintro e w1 ⟨rfl, hb⟩
    go_wp2_with fail
    go_ret
    exact ⟨by rw [lenOf, if_neg (by rw [HV.out]; simp)]; rfl, hb⟩
  · have HV := Lib.hid hv
    have hcore := isCore_iff.1 hv
    have hlb := len_bound hcore.2 (by omega)
    have H0 := Lib.hid hcore
    have hn20 : n ≤ 20 := by omega
    clear hv hcore
    have cv := CV.out
    rw [HV.out] at cv
    have CV2 := Lib.hid cv
    clear cv
    go_enter Try.func17, Try.ntmps17
    go_wp2_with fail
    refine CV2.out.mono ?_
    rintro e w1 ⟨rfl, hb⟩
    have B1 := Lib.hid hb
    clear hb
    go_wp2_with fail
    go_loopg [3, 4] n (fun k x y wr => ∃ (j : Nat) (s : Int), x = .int .i64 s ∧ y = .int .i64 j ∧ j + k = n ∧ s = len (l.take j) ∧ Below w.heap.size w wr)
    case atStart => exact ⟨0, 0, rfl, rfl, by omega, by simp [len], B1.out⟩
    case round =>
      obtain ⟨j, s, rfl, rfl, hk, hs, hb⟩ := hrel
      have B2 := Lib.hid hb; have K := Lib.hid hk; have S := Lib.hid hs
      have hj : j ≤ n := by omega
      have hvt := H0.out.2.take j
      have s0 : 0 ≤ s := by have := len_ge hvt; omega
      have s1 : s ≤ 30000 := by have := len_bound hvt (by omega); omega
      clear hb hk hs hvt
      by_cases hlt : j < n
      · obtain ⟨g, o, rfl, c1, c2⟩ := lies_cell hlie j (by omega)
        have d1 := (B2.out.cell (cell_below c1)).trans c1
        have d2 := (B2.out.cell (cell_below c2)).trans c2
        obtain ⟨v1, v2, v3⟩ := H0.out.2.get j (by omega)
        have hs2 : s + (l[j].2 - l[j].1) ≤ 30000 := by have := len_bound (H0.out.2.take (j + 1)) (by omega); have := len_take_succ (l := l) (k := j) (by omega); have := S.out; omega
        have HL := Lib.hid hlie
        clear hlie c1 c2
        go_wp2_with fail
        go_quiet (fail)
        go_wp2_with fail
        go_roundg (gk - 1)
        case measure => have := K.out; omega
        case rel => exact ⟨j + 1, s + l[j].2 - l[j].1, rfl, by go_num, by have := K.out; omega, by have := len_take_succ (l := l) (k := j) (by omega); have := S.out; omega, below_drewN B2.out _⟩
      · go_wp2_with fail
        go_ret
        refine ⟨?_, B2.out⟩
        have := S.out
        rw [List.take_of_length_le (by omega)] at this
        rw [lenOf, if_pos HV.out, ← this]
        rfl

theorem ix_drop {d : Int} {l : List Pc} {k : Nat} (hk : k ≤ l.length) (h : ∀ i (_ : i < l.length), i < k → ¬ (l[i].1 ≤ d ∧ d < l[i].2)) : ix d l = if ix d (l.drop k) < 0 then -1 else (k : Int) + ix d (l.drop k) := by
  induction k generalizing l with
  | zero => have := ix_range d l; simp only [List.drop_zero]; split <;> omega
  | succ k ih =>
    cases l with
    | nil => simp at hk
    | cons p l =>
      have h0 := h 0 (by simp) (by omega)
      have := ih (l := l) (by simpa using hk) (fun i hi hik => h (i + 1) (by simpa using hi) (by omega))
      simp only [List.drop_succ_cons]
      have c := ix_cases d p l
      simp only [List.getElem_cons_zero] at h0
      split at this <;> split <;> omega
theorem none_next {d : Int} {l : List Pc} {j : Nat} (S : ∀ i (_ : i < l.length), i < j → ¬ (l[i].1 ≤ d ∧ d < l[i].2)) (hj : j < l.length) (h : ¬ (l[j].1 ≤ d ∧ d < l[j].2)) :
    ∀ i (_ : i < l.length), i < j + 1 → ¬ (l[i].1 ≤ d ∧ d < l[i].2) := by
  intro i hi hij
  by_cases e : i = j
  · subst e; exact h
  · exact S i hi (by omega)
theorem ix_here {d : Int} {l : List Pc} {k : Nat} (hk : k < l.length) (h : ∀ i (_ : i < l.length), i < k → ¬ (l[i].1 ≤ d ∧ d < l[i].2)) (hd : l[k].1 ≤ d ∧ d < l[k].2) : ix d l = k := by
  rw [ix_drop (by omega) h, List.drop_eq_getElem_cons hk]
  have c := ix_cases d l[k] (l.drop (k + 1))
  split <;> omega
theorem ix_nowhere {d : Int} {l : List Pc} (h : ∀ i (_ : i < l.length), ¬ (l[i].1 ≤ d ∧ d < l[i].2)) : ix d l = -1 := by
  rw [ix_drop (Nat.le_refl _) (fun i hi _ => h i hi)]
  simp [ix]

set_option maxHeartbeats 400000 in
theorem specCoreHas_any {w : World} {v : Value} {l : List Pc} (d : Int) (h : Row w v l) :
    Calls Try.prog 21 #[v, .int .i64 d] w fun e w' => Val w (.int .i64 (hasOf d l)) e w' := by
  have R := Lib.hid h
  obtain ⟨a, n, c, rfl, hl, h1, h2, hlie⟩ := h
  have hm : n ≤ maxLen := by omega
  unfold maxLen at hm
  cases hv : isCore l
  · have HV := Lib.hid hv
    have RES : Hid (hasOf d l = -1) := Lib.hid (if_neg (by rw [hv]; simp))
    clear hv
    by_cases h0 : 0 < n
    · go_enter Try.func21, Try.ntmps21
      go_wp2_with fail
      go_loopg [5] 0 (fun k y wr => y = .int .i64 0 ∧ w = wr)
      case atStart => exact ⟨rfl, rfl⟩
      case round =>
        obtain ⟨rfl, rfl⟩ := hrel
        have cv := specCoreValid_any R.out
        rw [HV.out] at cv
        have CV2 := Lib.hid cv
        clear cv
        go_wp2_with fail
        refine CV2.out.mono ?_
        rintro e w1 ⟨rfl, hb⟩
        go_wp2_with fail
        go_ret
        exact ⟨by rw [RES.out]; rfl, hb⟩
    · go_enter Try.func21, Try.ntmps21
      go_wp2_with fail
      go_loopg [5] 0 (fun k y wr => y = .int .i64 0 ∧ w = wr)
      case atStart => exact ⟨rfl, rfl⟩
      case round =>
        obtain ⟨rfl, rfl⟩ := hrel
        go_wp2_with fail
        go_ret
        exact ⟨by rw [RES.out]; rfl, Below.refl _ _⟩
  · have HV := Lib.hid hv
    have RES : Hid (hasOf d l = ix d l) := Lib.hid (if_pos hv)
    clear hv
    go_enter Try.func21, Try.ntmps21
    go_wp2_with fail
    go_loopg [5] n (fun k y wr => ∃ (j : Nat), y = .int .i64 j ∧ j + k = n ∧ (∀ i (_ : i < l.length), i < j → ¬ (l[i].1 ≤ d ∧ d < l[i].2)) ∧ Below w.heap.size w wr)
    case atStart => exact ⟨0, rfl, by omega, fun i _ hi => by omega, Below.refl _ _⟩
    case round =>
      obtain ⟨j, rfl, hk, hs, hb⟩ := hrel
      have B2 := Lib.hid hb; have K := Lib.hid hk; have S := Lib.hid hs
      have hj : j ≤ n := by omega
      have cv := specCoreValid_any (R.out.grow hb)
      rw [HV.out] at cv
      have CV2 := Lib.hid cv
      clear cv hb hk hs
      by_cases hlt : j < n
      · obtain ⟨g, o, rfl, c1, c2⟩ := lies_cell hlie j (by omega)
        have HL := Lib.hid hlie
        have C1 := Lib.hid c1; have C2 := Lib.hid c2
        clear hlie c1 c2
        go_wp2_with fail
        refine CV2.out.mono ?_
        rintro e w1 ⟨rfl, hb⟩
        have B3 := Lib.hid (B2.out.trans (hb.mono B2.out.size))
        have d1 := (B3.out.cell (cell_below C1.out)).trans C1.out
        have d2 := (B3.out.cell (cell_below C2.out)).trans C2.out
        clear hb
        by_cases k1 : l[j].1 ≤ d
        · by_cases k2 : d < l[j].2
          · go_wp2_with fail
            go_ret
            exact ⟨by rw [RES.out, ix_here (by omega) S.out ⟨k1, k2⟩]; rfl, B3.out⟩
          · go_wp2_with fail
            go_roundg (gk - 1)
            case measure => have := K.out; omega
            case rel => exact ⟨j + 1, by go_num, by have := K.out; omega, none_next S.out (by omega) (by omega), B3.out⟩
        · go_wp2_with fail
          go_roundg (gk - 1)
          case measure => have := K.out; omega
          case rel => exact ⟨j + 1, by go_num, by have := K.out; omega, none_next S.out (by omega) (by omega), B3.out⟩
      · go_wp2_with fail
        go_ret
        exact ⟨by rw [RES.out, ix_nowhere (fun i hi => S.out i hi (by omega))]; rfl, B2.out⟩
end Go.Proofs.Ytdljfikgmhdedaa
