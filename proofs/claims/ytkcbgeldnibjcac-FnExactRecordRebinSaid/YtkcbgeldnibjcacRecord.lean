/- Records: the amounts of bins between two depths (for stage 5): plain mathematics, no program in it. -/
import Derived.Test.YtkcbgeldnibjcacRat
namespace Go.Proofs.Ytkcbgeldnibjcac

/-- The length that the bin from e to f has in common with the depths from t to u. -/
def common (t u e f : Int) : Int := max 0 (min u f - max t e)
/-- .. and the amount that lies in it. -/
def share (t u a e f : Int) : Rat := ((a * common t u e f : Int) : Rat) / ((f - e : Int) : Rat)
/-- The edges behind the edge e ascend. -/
def Asc : Int → List Int → Prop
  | _, [] => True
  | e, f :: l => e < f ∧ Asc f l
/-- All amounts between two depths, behind the edge e. -/
def amount (t u : Int) : Int → List Int → List Int → Rat
  | e, f :: l, a :: m => share t u a e f + amount t u f l m
  | _, _, _ => 0
/-- The same, added up in order to what is there already: none where a sum is too great. -/
def addUp (t u : Int) : Rat → Int → List Int → List Int → Option Rat
  | s, e, f :: l, a :: m => if fits (share t u a e f) && fits (s + share t u a e f) then addUp t u (s + share t u a e f) f l m else none
  | s, _, _, _ => some s
theorem addUp_is {t u : Int} {s r : Rat} {e : Int} {l m : List Int} (h : addUp t u s e l m = some r) : r = s + amount t u e l m := by
  induction l generalizing s e m with
  | nil => simp only [addUp, Option.some.injEq] at h; simp only [amount]; grind
  | cons f l ih =>
    cases m with
    | nil => simp only [addUp, Option.some.injEq] at h; simp only [amount]; grind
    | cons a m =>
      simp only [addUp] at h
      split at h
      · rw [ih h]; simp only [amount]; grind
      · cases h
theorem common_split {t d u e f : Int} (h1 : t ≤ d) (h2 : d ≤ u) (h : e < f) : common t d e f + common d u e f = common t u e f := by
  unfold common; omega
theorem share_split {t d u a e f : Int} (h1 : t ≤ d) (h2 : d ≤ u) (h : e < f) : share t d a e f + share d u a e f = share t u a e f := by
  unfold share
  rw [← common_split h1 h2 h, Int.mul_add, Rat.intCast_add, Rat.div_def, Rat.div_def, Rat.div_def, Rat.add_mul]
/-- Nothing is measured twice. -/
theorem amount_split {t d u e : Int} {l m : List Int} (h1 : t ≤ d) (h2 : d ≤ u) (h : Asc e l) : amount t d e l m + amount d u e l m = amount t u e l m := by
  induction l generalizing e m with
  | nil => simp only [amount]; grind
  | cons f l ih =>
    cases m with
    | nil => simp only [amount]; grind
    | cons a m =>
      simp only [amount]
      rw [← share_split h1 h2 h.1, ← ih h.2]
      grind
theorem share_whole {t u a e f : Int} (h1 : t ≤ e) (h2 : f ≤ u) (h : e < f) : share t u a e f = (a : Rat) := by
  have c : common t u e f = f - e := by unfold common; omega
  have z : ((f - e : Int) : Rat) ≠ 0 := by
    have : (f - e : Int) ≠ 0 := by omega
    intro k; exact this (Rat.intCast_inj.1 k)
  unfold share
  rw [c, Rat.intCast_mul, Rat.mul_div_cancel z]
theorem share_out {t u a e f : Int} (h : u ≤ e ∨ f ≤ t) (hef : e < f) : share t u a e f = 0 := by
  have c : common t u e f = 0 := by unfold common; omega
  unfold share
  rw [c, Int.mul_zero, Rat.div_def]; exact Rat.zero_mul _
theorem share_nonneg {t u a e f : Int} (ha : 0 ≤ a) (h : e < f) : 0 ≤ share t u a e f := by
  unfold share
  have c : 0 ≤ common t u e f := by unfold common; omega
  have n : ((0 : Int) : Rat) ≤ ((a * common t u e f : Int) : Rat) := Rat.intCast_le_intCast.2 (Int.mul_nonneg ha c)
  have d : ((0 : Int) : Rat) < ((f - e : Int) : Rat) := Rat.intCast_lt_intCast.2 (by omega)
  rw [Rat.div_def]
  exact Rat.mul_nonneg n (Rat.le_of_lt (Rat.inv_pos.2 d))
theorem share_double (t u a e f : Int) : share t u (2 * a) e f = 2 * share t u a e f := by
  unfold share
  rw [Int.mul_assoc, Rat.intCast_mul, Rat.div_def, Rat.div_def, Rat.mul_assoc]; rfl
theorem amount_double (t u e : Int) (l m : List Int) : amount t u e l (m.map (2 * ·)) = 2 * amount t u e l m := by
  induction l generalizing e m with
  | nil => simp only [amount]; grind
  | cons f l ih =>
    cases m with
    | nil => simp only [amount, List.map_nil]; grind
    | cons a m => simp only [amount, List.map_cons]; rw [share_double, ih]; grind
/-- The last edge. -/
def lastE : Int → List Int → Int
  | e, [] => e
  | _, f :: l => lastE f l
theorem Asc.last {e : Int} {l : List Int} (h : Asc e l) : e ≤ lastE e l := by
  induction l generalizing e with
  | nil => exact Int.le_refl _
  | cons f l ih => have a := ih h.2; have b := h.1; simp only [lastE]; omega
/-- Outside of the record there is nothing. -/
theorem amount_before {t u e : Int} {l m : List Int} (h : Asc e l) (h1 : u ≤ e) : amount t u e l m = 0 := by
  induction l generalizing e m with
  | nil => simp only [amount]
  | cons f l ih =>
    cases m with
    | nil => simp only [amount]
    | cons a m =>
      have b := h.1
      simp only [amount]
      rw [share_out (.inl h1) h.1, ih h.2 (by omega)]; grind
theorem amount_behind {t u e : Int} {l m : List Int} (h : Asc e l) (h1 : lastE e l ≤ t) : amount t u e l m = 0 := by
  induction l generalizing e m with
  | nil => simp only [amount]
  | cons f l ih =>
    cases m with
    | nil => simp only [amount]
    | cons a m =>
      simp only [lastE] at h1
      have b := h.2.last
      simp only [amount]
      rw [share_out (.inr (by omega)) h.1, ih h.2 h1]; grind
/-- All of it is the sum of the amounts. -/
theorem amount_whole {t u e : Int} {l m : List Int} (h : Asc e l) (hl : l.length = m.length) (h1 : t ≤ e) (h2 : lastE e l ≤ u) : amount t u e l m = ((m.sum : Int) : Rat) := by
  induction l generalizing e m with
  | nil =>
    cases m with
    | nil => rfl
    | cons a m => simp at hl
  | cons f l ih =>
    cases m with
    | nil => simp at hl
    | cons a m =>
      simp only [lastE] at h2
      have b := h.2.last
      have c := h.1
      simp only [amount, List.sum_cons]
      rw [share_whole h1 (by omega) h.1, ih h.2 (by simpa using hl) (by omega) h2, Rat.intCast_add]
theorem asc_le {e : Int} {l : List Int} (h : Asc e l) (k : Nat) (hk : k < (e :: l).length) : e ≤ (e :: l)[k] := by
  induction l generalizing e k with
  | nil => simp at hk; subst hk; exact Int.le_refl _
  | cons f l ih =>
    cases k with
    | zero => exact Int.le_refl _
    | succ k =>
      have a := ih h.2 k (by simpa using hk)
      have b := h.1
      simp only [List.getElem_cons_succ]; omega
/-- A bin has its amount. -/
theorem amount_bin {e : Int} {l m : List Int} (h : Asc e l) (k : Nat) (hk : k < l.length) (hm : k < m.length) : amount ((e :: l)[k]'(by simp; omega)) l[k] e l m = ((m[k] : Int) : Rat) := by
  induction l generalizing e m k with
  | nil => simp at hk
  | cons f l ih =>
    cases m with
    | nil => simp at hm
    | cons a m =>
      cases k with
      | zero =>
        simp only [amount, List.getElem_cons_zero]
        rw [share_whole (Int.le_refl _) (Int.le_refl _) h.1, amount_before h.2 (Int.le_refl _)]; grind
      | succ k =>
        have hk' : k < l.length := by simpa using hk
        have hm' : k < m.length := by simpa using hm
        have i := ih h.2 k hk' hm'
        have le : f ≤ (f :: l)[k]'(by simp; omega) := asc_le h.2 k (by simp; omega)
        simp only [amount, List.getElem_cons_succ]
        rw [i, share_out (.inr le) h.1]; grind
end Go.Proofs.Ytkcbgeldnibjcac
