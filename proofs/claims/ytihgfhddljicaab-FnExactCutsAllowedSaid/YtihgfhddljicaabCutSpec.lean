/- The contracts of the model's functions on cuts: valid arguments, allowed cuts, costs. -/
import Derived.Test.YtihgfhddljicaabInts
import Derived.Test.YtihgfhddljicaabGcd
import Derived.Test.YtihgfhddljicaabCutLaw
import Derived.Test.YtihgfhddljicaabStepI
namespace Go.Proofs.Ytihgfhddljicaab
open Go.RowKit

theorem intT : IntT 23 := Try.underlying23
theorem isIn_iff {n a b : Int} : isIn n a b = true ↔ a ≤ n ∧ n ≤ b := by simp [isIn]
theorem isIn_iffF {n a b : Int} : isIn n a b = false ↔ ¬ (a ≤ n ∧ n ≤ b) := by simp [isIn]
theorem lim_two (lo mo : Int) : isLim lo mo = (isIn lo 1 16 && isIn mo lo 16) := by
  rw [Bool.eq_iff_iff, isLim_iff, Bool.and_eq_true, isIn_iff, isIn_iff]; omega
theorem specRange_any (lo mo : Int) (w : World) :
    Calls Try.prog 36 #[.int .i64 lo, .int .i64 mo] w fun e w' => e = .returned (.bool (isLim lo mo)) ∧ w = w' := by
  have T := Lib.hid (lim_two lo mo)
  cases h1 : isIn lo 1 16
  · have H1 := Lib.hid h1
    have R : Hid (isLim lo mo = false) := Lib.hid (by rw [T.out, h1]; rfl)
    clear h1
    go_enter Try.func36, Try.ntmps36
    go_wp2_with fail
    refine (l6In_any _ _ _ _).mono ?_
    rintro e w1 ⟨rfl, rfl⟩
    rw [H1.out]
    go_wp2_with fail
    go_ret
    exact ⟨by rw [R.out]; rfl, rfl⟩
  · have H1 := Lib.hid h1
    have R : Hid (isLim lo mo = isIn mo lo 16) := Lib.hid (by rw [T.out, h1]; rfl)
    clear h1
    go_enter Try.func36, Try.ntmps36
    go_wp2_with fail
    refine (l6In_any _ _ _ _).mono ?_
    rintro e w1 ⟨rfl, rfl⟩
    rw [H1.out]
    go_wp2_with fail
    refine (l6In_any _ _ _ _).mono ?_
    rintro e w1 ⟨rfl, rfl⟩
    go_wp2_with fail
    go_ret
    exact ⟨by rw [R.out]; rfl, rfl⟩
theorem sig_no {l : List Int} {j : Nat} (hj : j < l.length) (h : isIn l[j] 0 1000 = false) : isSig l = false := by
  cases k : isSig l
  · rfl
  · have := (isSig_iff.1 k).2.2 _ (List.getElem_mem hj)
    rw [isIn_yes this.1 this.2] at h; cases h
theorem sig_is {l : List Int} (h : ∀ i (hi : i < l.length), isIn l[i] 0 1000 = true) : isSig l = isIn (l.length : Int) 1 16 := by
  have hall : ∀ x ∈ l, 0 ≤ x ∧ x ≤ 1000 := fun x hx => by
    obtain ⟨i, hi, rfl⟩ := List.getElem_of_mem hx
    exact isIn_iff.1 (h i hi)
  rw [Bool.eq_iff_iff, isSig_iff, isIn_iff]
  constructor
  · rintro ⟨a, b, _⟩; omega
  · intro k; exact ⟨by omega, by omega, hall⟩
set_option maxHeartbeats 800000 in
theorem specSignal_any {w : World} {v : Value} {l : List Int} (h : IRow w v l) :
    Calls Try.prog 35 #[v] w fun e w' => e = .returned (.bool (isSig l)) ∧ w = w' := by
  obtain ⟨a, c, rfl, h1, h2, hlie⟩ := h.parts
  have H := Lib.hid hlie
  unfold maxLen at h2
  clear h hlie
  go_enter Try.func35, Try.ntmps35
  go_wp2_with fail
  go_loopg [3] l.length (fun k x wr => ∃ j : Nat, x = .int .i64 j ∧ j + k = l.length ∧ (∀ i (hi : i < l.length), i < j → isIn l[i] 0 1000 = true) ∧ w = wr)
  case atStart => exact ⟨0, rfl, by omega, fun i _ h => by omega, rfl⟩
  case round =>
    obtain ⟨j, rfl, hk, hs, rfl⟩ := hrel
    have K := Lib.hid hk; have S := Lib.hid hs
    have hjl : j ≤ l.length := by omega
    clear hk hs
    by_cases hlt : j < l.length
    · obtain ⟨g, o, rfl, d1⟩ := ilies_cell H.out j hlt
      have i0 : (0 : Int) ≤ (j : Int) := by omega
      have i1 : (j : Int) < (l.length : Int) := by omega
      cases hx : isIn l[j] 0 1000
      · have HX := Lib.hid hx
        have R := Lib.hid (sig_no hlt hx)
        clear hx
        go_wp2_with fail
        refine (l6In_any _ _ _ _).mono ?_
        rintro e w1 ⟨rfl, rfl⟩
        rw [HX.out]
        go_wp2_with fail
        go_ret
        exact ⟨by rw [R.out]; rfl, rfl⟩
      · have HX := Lib.hid hx
        clear hx
        go_wp2_with fail
        refine (l6In_any _ _ _ _).mono ?_
        rintro e w1 ⟨rfl, rfl⟩
        rw [HX.out]
        go_wp2_with fail
        go_roundg (gk - 1)
        case measure => have := K.out; omega
        case rel => exact ⟨j + 1, by go_num, by have := K.out; omega, fun i hi hij => by
          by_cases e : i = j
          · subst e; exact HX.out
          · exact S.out i hi (by omega), rfl⟩
    · have R := Lib.hid (sig_is (l := l) fun i hi => S.out i hi (by omega))
      go_wp2_with fail
      refine (l6In_any _ _ _ _).mono ?_
      rintro e w1 ⟨rfl, rfl⟩
      go_wp2_with fail
      go_ret
      exact ⟨by rw [R.out]; rfl, rfl⟩
theorem sigS_is {w : World} {v : Value} {l : List Int} {b : Bool} (h : IRow w v l) (hb : isSig l = b) : Calls Try.prog 35 #[v] w fun e w' => e = .returned (.bool b) ∧ w = w' := by
  have := specSignal_any h
  rwa [hb] at this
theorem limS_is {lo mo : Int} {b : Bool} (hb : isLim lo mo = b) (w : World) : Calls Try.prog 36 #[.int .i64 lo, .int .i64 mo] w fun e w' => e = .returned (.bool b) ∧ w = w' := by
  have := specRange_any lo mo w
  rwa [hb] at this
/-! Allowed cuts, one by one. -/
/-- The place behind the first j cuts. -/
def placeAt (l : List Int) (j : Nat) : Int := if j = 0 then -1 else l.getD (j - 1) 0
theorem place_zero (l : List Int) : placeAt l 0 = -1 := rfl
theorem place_next {l : List Int} {j : Nat} (hj : j < l.length) : placeAt l (j + 1) = l[j] := by
  simp [placeAt, List.getD_eq_getElem?_getD, List.getElem?_eq_getElem hj]
theorem goes_drop {lo mo e : Int} {l : List Int} {j : Nat} (hj : j ≤ l.length) (h : ∀ i (hi : i < l.length), i < j → isIn l[i] (placeAt l i + lo) (placeAt l i + mo) = true) :
    goes lo mo e (-1) l = goes lo mo e (placeAt l j) (l.drop j) := by
  induction j with
  | zero => rfl
  | succ j ih =>
    rw [ih (by omega) fun i hi hij => h i hi (by omega)]
    have k := isIn_iff.1 (h j hj (by omega))
    rw [List.drop_eq_getElem_cons hj]
    simp only [goes]
    rw [decide_eq_true k.1, decide_eq_true k.2, place_next hj]; rfl
theorem goes_all {lo mo e : Int} {l : List Int} (h : ∀ i (hi : i < l.length), isIn l[i] (placeAt l i + lo) (placeAt l i + mo) = true) : goes lo mo e (-1) l = decide (placeAt l l.length = e) := by
  rw [goes_drop (Nat.le_refl _) fun i hi _ => h i hi, List.drop_length]; rfl
/-- A cut that is too near or too far. -/
theorem goes_bad {lo mo e : Int} {l : List Int} {j : Nat} (hj : j < l.length) (h : ∀ i (hi : i < l.length), i < j → isIn l[i] (placeAt l i + lo) (placeAt l i + mo) = true) (hb : isIn l[j] (placeAt l j + lo) (placeAt l j + mo) = false) : goes lo mo e (-1) l = false := by
  rw [goes_drop (Nat.le_of_lt hj) h, List.drop_eq_getElem_cons hj]
  cases k : goes lo mo e (placeAt l j) (l[j] :: l.drop (j + 1))
  · rfl
  · have := goes_cons.1 k
    rw [isIn_yes this.1 this.2.1] at hb; cases hb
/-- .. or beyond the end. -/
theorem goes_over {lo mo e : Int} (h1 : 1 ≤ lo) {l : List Int} {j : Nat} (hj : j < l.length) (hb : e < l[j]) : goes lo mo e (-1) l = false := by
  cases k : goes lo mo e (-1) l
  · rfl
  · have := goes_places h1 k _ (List.getElem_mem hj); omega
/-- The place behind j cuts is not far. -/
theorem place_bound {lo mo : Int} (h1 : 1 ≤ lo) (h2 : mo ≤ 16) {l : List Int} {j : Nat} (hj : j ≤ l.length) (h : ∀ i (hi : i < l.length), i < j → isIn l[i] (placeAt l i + lo) (placeAt l i + mo) = true) : -1 ≤ placeAt l j ∧ placeAt l j ≤ 16 * (j : Int) := by
  induction j with
  | zero => simp [placeAt]
  | succ j ih =>
    have k := isIn_iff.1 (h j hj (by omega))
    have u := ih (by omega) fun i hi hij => h i hi (by omega)
    rw [place_next hj]; omega
theorem allowed_not {c : List Int} {lo mo : Int} {l : List Int} (h : isSig c = false ∨ isLim lo mo = false) : allowedB c lo mo l = false := by
  unfold allowedB; rcases h with h | h <;> simp [h]
theorem allowed_goes {c : List Int} {lo mo : Int} {l : List Int} (h : isSig c = true) (h' : isLim lo mo = true) : allowedB c lo mo l = goes lo mo ((c.length : Int) - 1) (-1) l := by
  unfold allowedB; rw [h, h']; rfl
set_option maxHeartbeats 1600000 in
theorem specAllowed_any {w : World} {v u : Value} {c l : List Int} (lo mo : Int) (h : IRow w v c) (k : IRow w u l) (hl : l.length ≤ 100000000) :
    Calls Try.prog 25 #[v, .int .i64 lo, .int .i64 mo, u] w fun e w' => e = .returned (.bool (allowedB c lo mo l)) ∧ w = w' := by
  have H := Lib.hid h; have H' := Lib.hid k
  obtain ⟨a, cp, rfl, h1, h2, _⟩ := h.parts
  obtain ⟨a', cp', rfl, h1', h2', hlie'⟩ := k.parts
  have HL := Lib.hid hlie'
  unfold maxLen at h2 h2'
  clear h k hlie'
  cases hs : isSig c
  · have HS := Lib.hid hs
    have R := Lib.hid (allowed_not (lo := lo) (mo := mo) (l := l) (.inl hs))
    clear hs
    go_enter Try.func25, Try.ntmps25
    go_wp2_with fail
    refine (sigS_is H.out HS.out).mono ?_
    rintro e w1 ⟨rfl, rfl⟩
    go_wp2_with fail
    go_ret
    exact ⟨by rw [R.out]; rfl, rfl⟩
  have HS := Lib.hid hs
  have hc16 := (isSig_iff.1 hs).2.1
  cases hm : isLim lo mo
  · have HM := Lib.hid hm
    have R := Lib.hid (allowed_not (c := c) (l := l) (.inr hm))
    clear hs hm
    go_enter Try.func25, Try.ntmps25
    go_wp2_with fail
    refine (sigS_is H.out HS.out).mono ?_
    rintro e w1 ⟨rfl, rfl⟩
    go_wp2_with fail
    refine (limS_is HM.out _).mono ?_
    rintro e w1 ⟨rfl, rfl⟩
    go_wp2_with fail
    go_ret
    exact ⟨by rw [R.out]; rfl, rfl⟩
  have HM := Lib.hid hm
  obtain ⟨m1, m2, m3⟩ := isLim_iff.1 hm
  have G := Lib.hid (allowed_goes (l := l) hs hm)
  clear hs hm
  go_enter Try.func25, Try.ntmps25
  go_wp2_with fail
  refine (sigS_is H.out HS.out).mono ?_
  rintro e w1 ⟨rfl, rfl⟩
  go_wp2_with fail
  refine (limS_is HM.out _).mono ?_
  rintro e w1 ⟨rfl, rfl⟩
  go_wp2_with fail
  go_loopg [9, 10] l.length (fun k x y wr => ∃ j : Nat, x = .int .i64 (placeAt l j) ∧ y = .int .i64 j ∧ j + k = l.length ∧ (∀ i (hi : i < l.length), i < j → isIn l[i] (placeAt l i + lo) (placeAt l i + mo) = true) ∧ w = wr)
  case atStart => exact ⟨0, rfl, rfl, by omega, fun i _ h => by omega, rfl⟩
  case round =>
    obtain ⟨j, rfl, rfl, hk, hs, rfl⟩ := hrel
    have K := Lib.hid hk; have S := Lib.hid hs
    have hjl : j ≤ l.length := by omega
    have pb := place_bound m1 m3 hjl hs
    clear hk hs
    by_cases hlt : j < l.length
    · obtain ⟨g, o, rfl, d1⟩ := ilies_cell HL.out j hlt
      have i0 : (0 : Int) ≤ (j : Int) := by omega
      have i1 : (j : Int) < (l.length : Int) := by omega
      have e1 : IntKind.i64.wrap (placeAt l j + lo) = placeAt l j + lo := IntWalk.i64_in _ (by omega)
      have e2 : IntKind.i64.wrap (placeAt l j + mo) = placeAt l j + mo := IntWalk.i64_in _ (by omega)
      have PN := Lib.hid (place_next hlt)
      cases hx : isIn l[j] (placeAt l j + lo) (placeAt l j + mo)
      · have HX := Lib.hid hx
        have R : Hid (allowedB c lo mo l = false) := Lib.hid (by rw [G.out]; exact goes_bad hlt S.out hx)
        clear hx
        go_wp2_with fail
        refine (l6In_any _ _ _ _).mono ?_
        rintro e w1 ⟨rfl, rfl⟩
        rw [HX.out]
        go_wp2_with fail
        go_ret
        exact ⟨by rw [R.out]; rfl, rfl⟩
      · have HX := Lib.hid hx
        clear hx
        by_cases ho : (c.length : Int) ≤ l[j]
        · have R : Hid (allowedB c lo mo l = false) := Lib.hid (by rw [G.out]; exact goes_over m1 hlt (by omega))
          go_wp2_with fail
          refine (l6In_any _ _ _ _).mono ?_
          rintro e w1 ⟨rfl, rfl⟩
          rw [HX.out]
          go_wp2_with fail
          go_ret
          exact ⟨by rw [R.out]; rfl, rfl⟩
        · go_wp2_with fail
          refine (l6In_any _ _ _ _).mono ?_
          rintro e w1 ⟨rfl, rfl⟩
          rw [HX.out]
          go_wp2_with fail
          go_roundg (gk - 1)
          case measure => have := K.out; omega
          case rel => exact ⟨j + 1, by rw [PN.out], by go_num, by have := K.out; omega, fun i hi hij => by
            by_cases e : i = j
            · subst e; exact HX.out
            · exact S.out i hi (by omega), rfl⟩
    · have hj : j = l.length := by omega
      have R : Hid (allowedB c lo mo l = decide (placeAt l j = (c.length : Int) - 1)) := Lib.hid (by rw [G.out, hj]; exact goes_all fun i hi => S.out i hi (by omega))
      have e3 : IntKind.i64.wrap ((c.length : Int) - 1) = (c.length : Int) - 1 := IntWalk.i64_in _ (by omega)
      clear hj
      go_wp2_with fail
      go_ret
      exact ⟨by rw [R.out]; rfl, rfl⟩
theorem allowS_is {w : World} {v u : Value} {c l : List Int} {lo mo : Int} {b : Bool} (h : IRow w v c) (k : IRow w u l) (hl : l.length ≤ 100000000) (hb : allowedB c lo mo l = b) :
    Calls Try.prog 25 #[v, .int .i64 lo, .int .i64 mo, u] w fun e w' => e = .returned (.bool b) ∧ w = w' := by
  have := specAllowed_any lo mo h k hl
  rwa [hb] at this
end Go.Proofs.Ytihgfhddljicaab
