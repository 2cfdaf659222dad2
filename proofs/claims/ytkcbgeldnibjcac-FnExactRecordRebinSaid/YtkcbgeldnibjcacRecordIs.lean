/- Records: which lists are edges, and records; what the operations on them come to: plain mathematics, no program in it. -/
import Derived.Test.YtkcbgeldnibjcacRecord
namespace Go.Proofs.Ytkcbgeldnibjcac

/-- Numbers that ascend from a number on, none of them greater than 30000. -/
def up (o : Int) : List Int → Bool
  | [] => true
  | x :: l => decide (o < x) && up x l
def lastI (o : Int) : List Int → Int
  | [] => o
  | x :: l => lastI x l
/-- Edges: 2 to 21 ascending depths in range. -/
def isEdges (l : List Int) : Bool := decide (2 ≤ l.length) && decide (l.length ≤ 21) && up (-1) l && decide (lastI (-1) l ≤ 30000)
def amountsOk (m : List Int) : Bool := m.all fun x => decide (0 ≤ x) && decide (x ≤ 10000)
def isRec (l m : List Int) : Bool := isEdges l && decide (l.length = m.length + 1) && amountsOk m
theorem up_asc {o : Int} {l : List Int} (h : up o l = true) : Asc o l := by
  induction l generalizing o with
  | nil => trivial
  | cons x l ih =>
    simp only [up, Bool.and_eq_true, decide_eq_true_eq] at h
    exact ⟨h.1, ih h.2⟩
theorem asc_up {o : Int} {l : List Int} (h : Asc o l) : up o l = true := by
  induction l generalizing o with
  | nil => rfl
  | cons x l ih => simp only [up, Bool.and_eq_true, decide_eq_true_eq]; exact ⟨h.1, ih h.2⟩
theorem lastI_is (o : Int) (l : List Int) : lastI o l = lastE o l := by
  induction l generalizing o with
  | nil => rfl
  | cons x l ih => exact ih x
/-- What edges are made of. -/
theorem isEdges_iff {l : List Int} : isEdges l = true ↔ ∃ e f r, l = e :: f :: r ∧ l.length ≤ 21 ∧ 0 ≤ e ∧ Asc e (f :: r) ∧ lastE e (f :: r) ≤ 30000 := by
  constructor
  · intro h
    simp only [isEdges, Bool.and_eq_true, decide_eq_true_eq] at h
    obtain ⟨⟨⟨h1, h2⟩, h3⟩, h4⟩ := h
    match l, h1, h2, h3, h4 with
    | e :: f :: r, _, h2, h3, h4 =>
      have a := up_asc h3
      have a1 := a.1
      refine ⟨e, f, r, rfl, h2, by omega, a.2, ?_⟩
      rw [lastI_is] at h4; exact h4
  · rintro ⟨e, f, r, rfl, h2, h3, h4, h5⟩
    simp only [isEdges, Bool.and_eq_true, decide_eq_true_eq]
    refine ⟨⟨⟨by simp, h2⟩, asc_up (l := e :: f :: r) ⟨by omega, h4⟩⟩, ?_⟩
    rw [lastI_is]; exact h5
theorem amountsOk_iff {m : List Int} : amountsOk m = true ↔ ∀ x ∈ m, 0 ≤ x ∧ x ≤ 10000 := by
  simp [amountsOk]
theorem isRec_iff {l m : List Int} : isRec l m = true ↔ isEdges l = true ∧ l.length = m.length + 1 ∧ ∀ x ∈ m, 0 ≤ x ∧ x ≤ 10000 := by
  simp only [isRec, Bool.and_eq_true, decide_eq_true_eq, amountsOk_iff, and_assoc]
theorem isEdges_len {l : List Int} (h : isEdges l = true) : 2 ≤ l.length ∧ l.length ≤ 21 := by
  simp only [isEdges, Bool.and_eq_true, decide_eq_true_eq] at h; omega
/-- Asc, place by place. -/
theorem Asc.get {e : Int} {l : List Int} (h : Asc e l) (i j : Nat) (hij : i < j) (hj : j < (e :: l).length) : (e :: l)[i]'(by omega) < (e :: l)[j] := by
  induction l generalizing e i j with
  | nil => simp at hj; omega
  | cons f l ih =>
    cases j with
    | zero => omega
    | succ j =>
      cases i with
      | zero =>
        have b := h.1
        have := asc_le h.2 j (by simpa using hj)
        simp only [List.getElem_cons_succ, List.getElem_cons_zero]; omega
      | succ i => exact ih h.2 i j (by omega) (by simpa using hj)
theorem lastE_get (e : Int) (l : List Int) : lastE e l = (e :: l)[(e :: l).length - 1]'(by simp) := by
  induction l generalizing e with
  | nil => rfl
  | cons f l ih => simp only [lastE]; rw [ih f]; simp
theorem edges_up {l : List Int} (h : isEdges l = true) (i j : Nat) (hij : i < j) (hj : j < l.length) : l[i]'(by omega) < l[j] := by
  obtain ⟨e, f, r, rfl, _, _, h4, _⟩ := isEdges_iff.1 h
  exact h4.get i j hij hj
theorem edges_range {l : List Int} (h : isEdges l = true) (i : Nat) (hi : i < l.length) : 0 ≤ l[i] ∧ l[i] ≤ 30000 := by
  obtain ⟨e, f, r, rfl, _, h3, h4, h5⟩ := isEdges_iff.1 h
  have a := asc_le h4 i hi
  rw [lastE_get] at h5
  rcases Nat.lt_or_ge i ((e :: f :: r).length - 1) with q | q
  · have := h4.get i ((e :: f :: r).length - 1) q (by simp)
    omega
  · have : i = (e :: f :: r).length - 1 := by omega
    subst this
    exact ⟨by omega, h5⟩
/-- Edges, place by place. -/
theorem isEdges_of {l : List Int} (h2 : 2 ≤ l.length) (h21 : l.length ≤ 21) (hr : ∀ i (hi : i < l.length), 0 ≤ l[i] ∧ l[i] ≤ 30000) (hu : ∀ i (hi : i + 1 < l.length), l[i]'(by omega) < l[i + 1]) : isEdges l = true := by
  match l, h2 with
  | e :: f :: r, _ =>
    rw [isEdges_iff]
    refine ⟨e, f, r, rfl, h21, (hr 0 (by simp)).1, ?_, ?_⟩
    · have : ∀ (o : Int) (l : List Int), (∀ i (hi : i + 1 < (o :: l).length), (o :: l)[i]'(by omega) < (o :: l)[i + 1]) → Asc o l := by
        intro o l
        induction l generalizing o with
        | nil => intro _; trivial
        | cons x l ih => exact fun k => ⟨k 0 (by simp), ih x fun i hi => k (i + 1) (by simp only [List.length_cons] at hi ⊢; omega)⟩
      exact this _ _ hu
    · rw [lastE_get]; exact (hr _ _).2
theorem edges_not_up {l : List Int} (i j : Nat) (hij : i < j) (hj : j < l.length) (h : l[j] ≤ l[i]'(by omega)) : isEdges l = false := by
  cases k : isEdges l
  · rfl
  · have := edges_up k i j hij hj; omega
theorem edges_not_range {l : List Int} (i : Nat) (hi : i < l.length) (h : l[i] < 0 ∨ 30000 < l[i]) : isEdges l = false := by
  cases k : isEdges l
  · rfl
  · have := edges_range k i hi; omega
theorem edges_not_len {l : List Int} (h : l.length < 2 ∨ 21 < l.length) : isEdges l = false := by
  cases k : isEdges l
  · rfl
  · have := isEdges_len k; omega

/-- What RecordTotal comes to. -/
def totalOf (l m : List Int) : Int := if isRec l m = true then m.sum else -1
/-- What RecordBetween comes to, for a record and depths in order. -/
def addAll (t u : Int) (l m : List Int) : Option Rat := match l with
  | e :: l => addUp t u 0 e l m
  | [] => none
def betOk (l m : List Int) (t u : Int) : Bool := isRec l m && decide (0 ≤ t) && decide (t ≤ u) && decide (u ≤ 30000)
def bet (l m : List Int) (t u : Int) : Option Rat := if betOk l m t u = true then addAll t u l m else none
/-- The amount itself. -/
def amt (t u : Int) (l m : List Int) : Rat := match l with
  | e :: l => amount t u e l m
  | [] => 0
theorem betOk_iff {l m : List Int} {t u : Int} : betOk l m t u = true ↔ isRec l m = true ∧ 0 ≤ t ∧ t ≤ u ∧ u ≤ 30000 := by
  simp only [betOk, Bool.and_eq_true, decide_eq_true_eq, and_assoc]
theorem bet_ok {l m : List Int} {t u : Int} {r : Rat} (h : bet l m t u = some r) : betOk l m t u = true := by
  unfold bet at h
  split at h
  · assumption
  · cases h
theorem addUp_fits {t u : Int} {s r : Rat} {e : Int} {l m : List Int} (h : addUp t u s e l m = some r) (hs : fits s = true) : fits r = true := by
  induction l generalizing s e m with
  | nil => simp only [addUp, Option.some.injEq] at h; rw [← h]; exact hs
  | cons f l ih =>
    cases m with
    | nil => simp only [addUp, Option.some.injEq] at h; rw [← h]; exact hs
    | cons a m =>
      simp only [addUp] at h
      split at h
      · rename_i hh
        rw [Bool.and_eq_true] at hh
        exact ih h hh.2
      · cases h
theorem fits_zero : fits 0 = true := by decide
theorem fits_int {k : Int} (h0 : -1000000000 ≤ k) (h1 : k ≤ 1000000000) : fits (k : Rat) = true := by
  rw [fits_iff, Rat.num_intCast, Rat.den_intCast]; omega
theorem bet_is {l m : List Int} {t u : Int} {r : Rat} (h : bet l m t u = some r) : r = amt t u l m ∧ fits r = true ∧ isRec l m = true ∧ 0 ≤ t ∧ t ≤ u ∧ u ≤ 30000 := by
  have hk := betOk_iff.1 (bet_ok h)
  unfold bet at h
  rw [if_pos (bet_ok h)] at h
  obtain ⟨e, f, r', rfl, _⟩ := isEdges_iff.1 (isRec_iff.1 hk.1).1
  have := addUp_is (show addUp t u 0 e (f :: r') m = some r from h)
  refine ⟨?_, addUp_fits (show addUp t u 0 e (f :: r') m = some r from h) fits_zero, hk⟩
  rw [this]; show 0 + amount t u e (f :: r') m = amount t u e (f :: r') m
  grind
theorem rec_edges {l m : List Int} (h : isRec l m = true) : isEdges l = true := (isRec_iff.1 h).1
theorem rec_len {l m : List Int} (h : isRec l m = true) : l.length = m.length + 1 ∧ 1 ≤ m.length ∧ m.length ≤ 20 := by
  have := isRec_iff.1 h; have := isEdges_len this.1; omega
theorem rec_amount {l m : List Int} (h : isRec l m = true) (i : Nat) (hi : i < m.length) : 0 ≤ m[i] ∧ m[i] ≤ 10000 := (isRec_iff.1 h).2.2 _ (List.getElem_mem hi)
/-- Whole parts: each share is a whole number. -/
def Whole (t u : Int) : Int → List Int → List Int → Prop
  | e, f :: l, a :: m => (∃ k : Int, 0 ≤ k ∧ k ≤ 10000 ∧ share t u a e f = (k : Rat)) ∧ Whole t u f l m
  | _, _, _ => True
theorem addUp_ints {t u e : Int} {l m : List Int} (h : Whole t u e l m) {s : Int} (h0 : 0 ≤ s) (h1 : s + 10000 * m.length ≤ 1000000000) : addUp t u (s : Rat) e l m = some ((s : Rat) + amount t u e l m) := by
  induction l generalizing s e m with
  | nil => simp only [addUp, amount]; congr 1; grind
  | cons f l ih =>
    cases m with
    | nil => simp only [addUp, amount]; congr 1; grind
    | cons a m =>
      obtain ⟨⟨k, k0, k1, hk⟩, hr⟩ := h
      simp only [List.length_cons] at h1
      simp only [addUp, amount]
      rw [hk, ← Rat.intCast_add, fits_int (k := k) (by omega) (by omega), fits_int (k := s + k) (by omega) (by omega)]
      simp only [Bool.and_self, if_true]
      rw [ih hr (by omega) (by omega), Rat.intCast_add]
      congr 1; grind
/-- t and u lie on edges, or outside of the bins. -/
def Clean (t u : Int) : Int → List Int → Prop
  | _, [] => True
  | e, f :: l => (t ≤ e ∨ f ≤ t) ∧ (f ≤ u ∨ u ≤ e) ∧ Clean t u f l
theorem clean_whole {t u e : Int} {l m : List Int} (h : Clean t u e l) (ha : Asc e l) (hm : ∀ x ∈ m, 0 ≤ x ∧ x ≤ 10000) : Whole t u e l m := by
  induction l generalizing e m with
  | nil => trivial
  | cons f l ih =>
    cases m with
    | nil => trivial
    | cons a m =>
      obtain ⟨h1, h2, h3⟩ := h
      have ka := hm a (by simp)
      refine ⟨?_, ih h3 ha.2 fun x hx => hm x (by simp [hx])⟩
      rcases h1 with h1 | h1
      · rcases h2 with h2 | h2
        · exact ⟨a, ka.1, ka.2, share_whole h1 h2 ha.1⟩
        · exact ⟨0, by omega, by omega, share_out (.inl h2) ha.1⟩
      · exact ⟨0, by omega, by omega, share_out (.inr h1) ha.1⟩
/-- An edge of the list, or a depth outside: each bin lies on one side of it. -/
def Side (x e : Int) (l : List Int) : Prop := x ≤ e ∨ lastE e l ≤ x ∨ x ∈ l
theorem side_step {x e f : Int} {l : List Int} (h : Side x e (f :: l)) (ha : Asc e (f :: l)) : (x ≤ e ∨ f ≤ x) ∧ Side x f l := by
  have hl := ha.2.last
  have h1 := ha.1
  rcases h with h | h | h
  · exact ⟨.inl h, .inl (by omega)⟩
  · simp only [lastE] at h; exact ⟨.inr (by omega), .inr (.inl h)⟩
  · simp only [List.mem_cons] at h
    rcases h with h | h
    · subst h; exact ⟨.inr (Int.le_refl _), .inl (Int.le_refl _)⟩
    · obtain ⟨i, hi, rfl⟩ := List.getElem_of_mem h
      have := ha.2.get 0 (i + 1) (by omega) (by simp; exact hi)
      simp only [List.getElem_cons_succ, List.getElem_cons_zero] at this
      exact ⟨.inr (by omega), .inr (.inr h)⟩
theorem clean_of {t u e : Int} {l : List Int} (ht : Side t e l) (hu : Side u e l) (ha : Asc e l) : Clean t u e l := by
  induction l generalizing e with
  | nil => trivial
  | cons f l ih =>
    obtain ⟨a, b⟩ := side_step ht ha
    obtain ⟨c, d⟩ := side_step hu ha
    exact ⟨a, by rcases c with c | c; exact .inr c; exact .inl c, ih b d ha.2⟩
theorem bet_clean {l m : List Int} {t u : Int} (h : isRec l m = true) (h0 : 0 ≤ t) (h1 : t ≤ u) (h2 : u ≤ 30000) (ht : t ∈ l ∨ (∀ x ∈ l, t ≤ x) ∨ ∀ x ∈ l, x ≤ t) (hu : u ∈ l ∨ (∀ x ∈ l, u ≤ x) ∨ ∀ x ∈ l, x ≤ u) : bet l m t u = some (amt t u l m) := by
  have hk := rec_len h
  have hm := (isRec_iff.1 h).2.2
  obtain ⟨e, f, r, rfl, _, e0, ha, _⟩ := isEdges_iff.1 (rec_edges h)
  have side : ∀ x : Int, (x ∈ e :: f :: r ∨ (∀ y ∈ e :: f :: r, x ≤ y) ∨ ∀ y ∈ e :: f :: r, y ≤ x) → Side x e (f :: r) := by
    intro x hx
    rcases hx with hx | hx | hx
    · simp only [List.mem_cons] at hx
      rcases hx with hx | hx
      · subst hx; exact .inl (Int.le_refl _)
      · exact .inr (.inr (by simpa using hx))
    · exact .inl (hx e (by simp))
    · exact .inr (.inl (by rw [lastE_get]; exact hx _ (List.getElem_mem _)))
  have W := clean_whole (clean_of (side t ht) (side u hu) ha) ha hm
  unfold bet
  rw [if_pos (betOk_iff.2 ⟨h, h0, h1, h2⟩)]
  have := addUp_ints W (s := 0) (by omega) (by omega)
  show addUp t u 0 e (f :: r) m = some (amount t u e (f :: r) m)
  rw [show ((0 : Int) : Rat) = 0 from rfl] at this
  rw [this]; congr 1; grind
theorem amt_split {l m : List Int} {t d u : Int} (h : isEdges l = true) (h1 : t ≤ d) (h2 : d ≤ u) : amt t d l m + amt d u l m = amt t u l m := by
  obtain ⟨e, f, r, rfl, _, _, ha, _⟩ := isEdges_iff.1 h
  exact amount_split h1 h2 ha
theorem amt_bin {l m : List Int} (h : isRec l m = true) (k : Nat) (hk : k < m.length) : amt (l[k]'(by have := rec_len h; omega)) (l[k + 1]'(by have := rec_len h; omega)) l m = ((m[k] : Int) : Rat) := by
  have hl := rec_len h
  obtain ⟨e, f, r, rfl, _, _, ha, _⟩ := isEdges_iff.1 (rec_edges h)
  simp only [List.length_cons] at hl
  exact amount_bin ha k (by simp; omega) hk
theorem amt_double (l m : List Int) (t u : Int) : amt t u l (m.map (2 * ·)) = 2 * amt t u l m := by
  cases l with
  | nil => show (0 : Rat) = 2 * 0; grind
  | cons e l => exact amount_double t u e l m
theorem amt_whole {l m : List Int} (h : isRec l m = true) {t u : Int} (ht : ∀ x ∈ l, t ≤ x) (hu : ∀ x ∈ l, x ≤ u) : amt t u l m = ((m.sum : Int) : Rat) := by
  have hl := rec_len h
  obtain ⟨e, f, r, rfl, _, _, ha, _⟩ := isEdges_iff.1 (rec_edges h)
  simp only [List.length_cons] at hl
  refine amount_whole ha (by simp; omega) (ht e (by simp)) ?_
  rw [lastE_get]; exact hu _ (List.getElem_mem _)
theorem amt_before {l m : List Int} (h : isEdges l = true) {t u : Int} (hu : ∀ x ∈ l, u ≤ x) : amt t u l m = 0 := by
  obtain ⟨e, f, r, rfl, _, _, ha, _⟩ := isEdges_iff.1 h
  exact amount_before ha (hu e (by simp))
theorem amt_behind {l m : List Int} (h : isEdges l = true) {t u : Int} (ht : ∀ x ∈ l, x ≤ t) : amt t u l m = 0 := by
  obtain ⟨e, f, r, rfl, _, _, ha, _⟩ := isEdges_iff.1 h
  refine amount_behind ha ?_
  rw [lastE_get]; exact ht _ (List.getElem_mem _)
theorem amount_nonneg {t u e : Int} {l m : List Int} (ha : Asc e l) (hm : ∀ x ∈ m, 0 ≤ x ∧ x ≤ 10000) : 0 ≤ amount t u e l m := by
  induction l generalizing e m with
  | nil => exact Rat.le_refl
  | cons f l ih =>
    cases m with
    | nil => exact Rat.le_refl
    | cons a m =>
      simp only [amount]
      have i := ih (m := m) ha.2 fun x hx => hm x (by simp [hx])
      have s := share_nonneg (t := t) (u := u) (hm a (by simp)).1 ha.1
      grind
theorem amt_nonneg {l m : List Int} (h : isRec l m = true) (t u : Int) : 0 ≤ amt t u l m := by
  have hm := (isRec_iff.1 h).2.2
  obtain ⟨e, f, r, rfl, _, _, ha, _⟩ := isEdges_iff.1 (rec_edges h)
  exact amount_nonneg ha hm
theorem edges_first {l : List Int} (h : isEdges l = true) (h0 : 0 < l.length) : ∀ x ∈ l, l[0] ≤ x := by
  intro x hx
  obtain ⟨i, hi, rfl⟩ := List.getElem_of_mem hx
  rcases Nat.eq_zero_or_pos i with q | q
  · subst q; exact Int.le_refl _
  · exact Int.le_of_lt (edges_up h 0 i q hi)
theorem edges_last {l : List Int} (h : isEdges l = true) (h0 : 0 < l.length) : ∀ x ∈ l, x ≤ l[l.length - 1]'(by omega) := by
  intro x hx
  obtain ⟨i, hi, rfl⟩ := List.getElem_of_mem hx
  rcases Nat.lt_or_ge i (l.length - 1) with q | q
  · exact Int.le_of_lt (edges_up h i _ q (by omega))
  · have : i = l.length - 1 := by omega
    subst this; exact Int.le_refl _
/-- No part is more than the whole. -/
theorem amt_le {l m : List Int} (h : isRec l m = true) {t u : Int} (htu : t ≤ u) : amt t u l m ≤ ((m.sum : Int) : Rat) := by
  have hl := rec_len h
  have he := rec_edges h
  have hf := edges_first he (by omega)
  have hz := edges_last he (by omega)
  have key : ∀ a b : Int, (∀ x ∈ l, a ≤ x) → (∀ x ∈ l, x ≤ b) → a ≤ t → u ≤ b → amt t u l m ≤ ((m.sum : Int) : Rat) := by
    intro a b ha hb h1 h2
    have s1 := amt_split (m := m) he h1 (Int.le_trans htu h2)
    have s2 := amt_split (m := m) he htu h2
    have n1 := amt_nonneg h a t
    have n2 := amt_nonneg h u b
    rw [amt_whole h ha hb] at s1
    grind
  refine key (min t l[0]) (max u (l[l.length - 1]'(by omega))) (fun x hx => ?_) (fun x hx => ?_) (by omega) (by omega)
  · have := hf x hx; omega
  · have := hz x hx; omega
theorem common_none {t e f : Int} : common t t e f = 0 := by unfold common; omega
theorem amount_none {t e : Int} {l m : List Int} : amount t t e l m = 0 := by
  induction l generalizing e m with
  | nil => rfl
  | cons f l ih =>
    cases m with
    | nil => rfl
    | cons a m =>
      simp only [amount]
      rw [ih]
      unfold share
      rw [common_none, Int.mul_zero, Rat.div_def]
      show ((0 : Int) : Rat) * _ + 0 = 0
      rw [show ((0 : Int) : Rat) = 0 from rfl, Rat.zero_mul]; grind
theorem amt_none {t : Int} {l m : List Int} : amt t t l m = 0 := by
  cases l with
  | nil => rfl
  | cons e l => exact amount_none
theorem amt_deeper {l m : List Int} (h : isRec l m = true) {t u v : Int} (h1 : t ≤ u) (h2 : u ≤ v) : amt t u l m ≤ amt t v l m := by
  have s := amt_split (m := m) (rec_edges h) h1 h2
  have n := amt_nonneg h u v
  grind
theorem amt_later {l m : List Int} (h : isRec l m = true) {t u v : Int} (h1 : t ≤ u) (h2 : u ≤ v) : amt u v l m ≤ amt t v l m := by
  have s := amt_split (m := m) (rec_edges h) h1 h2
  have n := amt_nonneg h t u
  grind
end Go.Proofs.Ytkcbgeldnibjcac
