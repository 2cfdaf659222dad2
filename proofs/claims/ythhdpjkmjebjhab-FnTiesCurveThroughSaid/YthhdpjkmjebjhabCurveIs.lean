/- When a list of knots is a curve; the straight part of a curve at a number: plain mathematics, no program in it. -/
import Derived.Test.YthhdpjkmjebjhabCurveFits
import Derived.Test.YthhdpjkmjebjhabCurveSlope
namespace Go.Proofs.Ythhdpjkmjebjhab

def riB : Kn → List Kn → Bool
  | _, [] => true
  | p, q :: l => decide (p.1 < q.1) && decide (p.2 < q.2) && riB q l
theorem riB_iff {p : Kn} {l : List Kn} : riB p l = true ↔ Ri p l := by
  induction l generalizing p with
  | nil => simp [riB, Ri]
  | cons q l ih => simp only [riB, Ri, Bool.and_eq_true, decide_eq_true_eq, ih, and_assoc]
/-- The list is a curve. -/
def isCurve (l : List Kn) : Bool := decide (2 ≤ l.length) && decide (l.length ≤ 12) && riB (-1, -1) l && decide ((lastK (-1, -1) l).1 ≤ 30000) && decide ((lastK (-1, -1) l).2 ≤ 30000)
theorem Ri.dp {p : Kn} {l : List Kn} (h : Ri p l) (h0 : -1 ≤ p.1) (h1 : -1 ≤ p.2) (h2 : (lastK p l).1 ≤ 30000) (h3 : (lastK p l).2 ≤ 30000) : ∀ k ∈ l, Dp k := by
  induction l generalizing p with
  | nil => intro k hk; simp at hk
  | cons q l ih =>
    intro k hk
    have a := h.1; have b := h.2.1; have c := h.2.2.last
    simp only [lastK] at h2 h3
    rcases List.mem_cons.1 hk with rfl | hk
    · exact ⟨by omega, by omega, by omega, by omega⟩
    · exact ih h.2.2 (by omega) (by omega) h2 h3 k hk
theorem isCurve_iff {l : List Kn} : isCurve l = true ↔ ∃ p q m, l = p :: q :: m ∧ m.length ≤ 10 ∧ Ri p (q :: m) ∧ ∀ k ∈ l, Dp k := by
  simp only [isCurve, Bool.and_eq_true, decide_eq_true_eq, riB_iff]
  constructor
  · rintro ⟨⟨⟨⟨h1, h2⟩, h3⟩, h4⟩, h5⟩
    match l, h1, h2, h3, h4, h5 with
    | p :: q :: m, h1, h2, h3, h4, h5 =>
      exact ⟨p, q, m, rfl, by simp at h2; omega, h3.2.2, h3.dp (by simp) (by simp) h4 h5⟩
  · rintro ⟨p, q, m, rfl, h2, h3, h4⟩
    have a := h4 p (by simp)
    have b := h4 _ (List.mem_cons_of_mem _ (lastK_mem q m))
    unfold Dp at a b
    exact ⟨⟨⟨⟨by simp, by simp; omega⟩, ⟨by show (-1 : Int) < p.1; omega, by show (-1 : Int) < p.2; omega, h3⟩⟩, b.2.1⟩, b.2.2.2⟩
theorem Ri.step {p : Kn} {l : List Kn} (h : Ri p l) (i : Nat) (hi : i < l.length) : ((p :: l)[i]'(by simp; omega)).1 < l[i].1 ∧ ((p :: l)[i]'(by simp; omega)).2 < l[i].2 := by
  induction l generalizing p i with
  | nil => simp at hi
  | cons q l ih =>
    cases i with
    | zero => exact ⟨h.1, h.2.1⟩
    | succ i => exact ih h.2.2 i (by simpa using hi)
theorem ri_steps {p : Kn} {l : List Kn} (h : ∀ i (hi : i < l.length), ((p :: l)[i]'(by simp; omega)).1 < l[i].1 ∧ ((p :: l)[i]'(by simp; omega)).2 < l[i].2) : Ri p l := by
  induction l generalizing p with
  | nil => trivial
  | cons q l ih =>
    have a := h 0 (by simp)
    exact ⟨a.1, a.2, ih fun i hi => h (i + 1) (by simp; omega)⟩
theorem isCurve_steps {l : List Kn} : isCurve l = true ↔ 2 ≤ l.length ∧ l.length ≤ 12 ∧ (∀ i (hi : i < l.length), Dp l[i]) ∧ ∀ i (hi : i + 1 < l.length), l[i].1 < l[i + 1].1 ∧ l[i].2 < l[i + 1].2 := by
  rw [isCurve_iff]
  constructor
  · rintro ⟨p, q, m, rfl, h2, h3, h4⟩
    refine ⟨by simp, by simp; omega, fun i hi => h4 _ (List.getElem_mem hi), fun i hi => ?_⟩
    have := h3.step i (by simp at hi ⊢; omega)
    simpa using this
  · rintro ⟨h1, h2, h3, h4⟩
    match l, h1, h2, h3, h4 with
    | p :: q :: m, h1, h2, h3, h4 =>
      refine ⟨p, q, m, rfl, by simp at h2; omega, ri_steps fun i hi => ?_, fun k hk => ?_⟩
      · have := h4 i (by simp at hi ⊢; omega)
        simpa using this
      · obtain ⟨i, hi, rfl⟩ := List.getElem_of_mem hk
        exact h3 i hi
/-- The value of a curve. -/
def cAt : List Kn → Rat → Rat
  | [], _ => 0
  | p :: l, x => atR p l x
/-- A number is within a curve's ends. -/
def cIn : List Kn → Rat → Bool
  | [], _ => false
  | p :: l, x => decide ((p.1 : Rat) ≤ x) && decide (x ≤ ((lastK p l).1 : Rat))
/-- The list is a curve that has a value at the number. -/
def onC (l : List Kn) (x : Rat) : Bool := isCurve l && cIn l x
/-- The straight part of a curve at a number. -/
structure Part (l : List Kn) (x : Rat) (p q : Kn) : Prop where
  dp : Dp p
  dq : Dp q
  less : p.1 < q.1
  up : p.2 < q.2
  low : (p.1 : Rat) ≤ x
  high : x ≤ (q.1 : Rat)
  val : cAt l x = seg p q x
theorem lastK_get {p : Kn} {l : List Kn} : lastK p l = (p :: l)[l.length]'(by simp) := by
  induction l generalizing p with
  | nil => rfl
  | cons q l ih => simp only [lastK]; rw [ih]; rfl
/-- What the search along a curve has passed: its value lies behind the knot number i. -/
structure Passed (l : List Kn) (x : Rat) (i : Nat) : Prop where
  lt : i < l.length
  low : (l[i].1 : Rat) ≤ x
  val : cAt l x = atR l[i] (l.drop (i + 1)) x
theorem passed_start {l : List Kn} {x : Rat} (h0 : 0 < l.length) (h : (l[0].1 : Rat) ≤ x) : Passed l x 0 := by
  cases l with
  | nil => simp at h0
  | cons p l => exact ⟨h0, h, rfl⟩
theorem Passed.next {l : List Kn} {x : Rat} {i : Nat} (h : Passed l x i) (hi : i + 1 < l.length) (hx : (l[i + 1].1 : Rat) < x) : Passed l x (i + 1) := by
  refine ⟨hi, Rat.le_of_lt hx, ?_⟩
  rw [h.val, List.drop_eq_getElem_cons hi]
  simp only [atR]
  rw [if_pos hx]
theorem Passed.part {l : List Kn} {x : Rat} {i : Nat} (h : Passed l x i) (hc : isCurve l = true) (hi : i + 1 < l.length) (hx : ¬ (l[i + 1].1 : Rat) < x) : Part l x l[i] l[i + 1] := by
  obtain ⟨_, _, h3, h4⟩ := isCurve_steps.1 hc
  refine ⟨h3 _ _, h3 _ _, (h4 i hi).1, (h4 i hi).2, h.low, by grind, ?_⟩
  rw [h.val, List.drop_eq_getElem_cons hi]
  simp only [atR]
  rw [if_neg hx]
theorem step_le {l : List Kn} (hc : isCurve l = true) {i j : Nat} (hij : i ≤ j) (hj : j < l.length) : l[i].1 ≤ l[j].1 ∧ l[i].2 ≤ l[j].2 := by
  obtain ⟨_, _, _, h4⟩ := isCurve_steps.1 hc
  induction j with
  | zero => obtain rfl : i = 0 := by omega
            exact ⟨Int.le_refl _, Int.le_refl _⟩
  | succ j ih =>
    by_cases e : i = j + 1
    · subst e; exact ⟨Int.le_refl _, Int.le_refl _⟩
    · have a := ih (by omega) (by omega)
      have b := h4 j hj
      omega
theorem cIn_iff {l : List Kn} {x : Rat} (h0 : 0 < l.length) : cIn l x = true ↔ (l[0].1 : Rat) ≤ x ∧ x ≤ ((l[l.length - 1]'(by omega)).1 : Rat) := by
  cases l with
  | nil => simp at h0
  | cons p l =>
    have e : lastK p l = (p :: l)[(p :: l).length - 1]'(by simp) := by rw [lastK_get]; rfl
    simp only [cIn, Bool.and_eq_true, decide_eq_true_eq, e]
    exact Iff.rfl
theorem Passed.on {l : List Kn} {x : Rat} {i : Nat} (h : Passed l x i) (hc : isCurve l = true) (hi : i + 1 < l.length) (hx : ¬ (l[i + 1].1 : Rat) < x) : onC l x = true := by
  have a := rat_le (step_le hc (Nat.zero_le i) (by omega)).1
  have b := rat_le (step_le hc (show i + 1 ≤ l.length - 1 by omega) (by omega)).1
  have c := h.low
  rw [onC, Bool.and_eq_true]
  exact ⟨hc, (cIn_iff (by omega)).2 ⟨by grind, by grind⟩⟩
/-- Behind the last knot there is no value. -/
theorem not_on {l : List Kn} {x : Rat} (h2 : 0 < l.length) (hx : ((l[l.length - 1]'(by omega)).1 : Rat) < x) : onC l x = false := by
  cases h : onC l x
  · rfl
  · rw [onC, Bool.and_eq_true, cIn_iff h2] at h
    grind
theorem not_on_low {l : List Kn} {x : Rat} (h2 : 0 < l.length) (hx : x < (l[0].1 : Rat)) : onC l x = false := by
  cases h : onC l x
  · rfl
  · rw [onC, Bool.and_eq_true, cIn_iff h2] at h
    grind
theorem not_on_bad {l : List Kn} {x : Rat} (h : isCurve l = false) : onC l x = false := by rw [onC, h]; rfl
end Go.Proofs.Ythhdpjkmjebjhab
