/- The slopes of a curve's parts: plain mathematics, no program in it. -/
import Derived.Test.YthhdpjkmjebjhabCurve
namespace Go.Proofs.Ythhdpjkmjebjhab

def sl (p q : Kn) : Rat := ((q.2 : Rat) - (p.2 : Rat)) / ((q.1 : Rat) - (p.1 : Rat))
theorem seg_sl (p q : Kn) (x : Rat) : seg p q x = (p.2 : Rat) + (x - (p.1 : Rat)) * sl p q := rfl
theorem sl_turn {p q : Kn} (h1 : p.1 < q.1) (h2 : p.2 < q.2) : sl (turnK p) (turnK q) = 1 / sl p q := by
  have a := rat_lt h1; have b := rat_lt h2
  have h3 : (q.1 : Rat) - (p.1 : Rat) ≠ 0 := by grind
  have h4 : (q.2 : Rat) - (p.2 : Rat) ≠ 0 := by grind
  unfold sl turnK; grind
theorem sl_ne {o p q : Kn} (h1 : o.1 < p.1) (h2 : p.1 < q.1) (h : onL o p q = false) : sl o p ≠ sl p q := by
  have a := rat_lt h1; have b := rat_lt h2
  have h3 : (p.1 : Rat) - (o.1 : Rat) ≠ 0 := by grind
  have h4 : (q.1 : Rat) - (p.1 : Rat) ≠ 0 := by grind
  intro e
  have e1 : ((p.1 : Rat) - (o.1 : Rat)) * ((q.2 : Rat) - (o.2 : Rat)) = ((q.1 : Rat) - (o.1 : Rat)) * ((p.2 : Rat) - (o.2 : Rat)) := by
    unfold sl at e; grind
  have e2 : (p.1 - o.1) * (q.2 - o.2) = (q.1 - o.1) * (p.2 - o.2) := by
    apply Rat.intCast_inj.1
    simpa only [Rat.intCast_mul, Rat.intCast_sub] using e1
  rw [onL, decide_eq_true e2] at h
  cases h
/-- One of two parts is not steeper than the whole, and one is not less steep. -/
theorem sl_mean {o p q : Kn} (h1 : o.1 < p.1) (h2 : p.1 < q.1) : (sl o q < sl o p → sl p q ≤ sl o q) ∧ (sl o p < sl o q → sl o q ≤ sl p q) := by
  have a := rat_lt h1; have b := rat_lt h2
  have h3 : (p.1 : Rat) - (o.1 : Rat) ≠ 0 := by grind
  have h4 : (q.1 : Rat) - (p.1 : Rat) ≠ 0 := by grind
  have h5 : (q.1 : Rat) - (o.1 : Rat) ≠ 0 := by grind
  -- the whole rises by what its parts rise by
  have e : ((p.1 : Rat) - (o.1 : Rat)) * (sl o p - sl o q) = ((q.1 : Rat) - (p.1 : Rat)) * (sl o q - sl p q) := by unfold sl; grind
  constructor
  · intro h
    have m := Rat.mul_pos (a := (p.1 : Rat) - (o.1 : Rat)) (b := sl o p - sl o q) (by grind) (by grind)
    rw [e] at m
    apply Classical.byContradiction
    intro hn
    have m2 := Rat.mul_pos (a := (q.1 : Rat) - (p.1 : Rat)) (b := sl p q - sl o q) (by grind) (by grind)
    grind
  · intro h
    have m := Rat.mul_pos (a := (p.1 : Rat) - (o.1 : Rat)) (b := sl o q - sl o p) (by grind) (by grind)
    apply Classical.byContradiction
    intro hn
    have m2 := Rat.mul_pos (a := (q.1 : Rat) - (p.1 : Rat)) (b := sl o q - sl p q) (by grind) (by grind)
    grind
theorem last_lt {p q : Kn} {l : List Kn} (h : Ri p (q :: l)) : p.1 < (lastK q l).1 := by have := h.2.2.last.1; have := h.1; omega
/-- Some part is not steeper than the whole curve. -/
theorem some_low {p q : Kn} {l : List Kn} (h : Ri p (q :: l)) {s : Rat} (hs : sl p (lastK q l) ≤ s) : ∃ (i : Nat) (hi : i + 1 < (p :: q :: l).length), sl ((p :: q :: l)[i]'(by omega)) (p :: q :: l)[i + 1] ≤ s := by
  induction l generalizing p q with
  | nil => exact ⟨0, by simp, hs⟩
  | cons r l ih =>
    by_cases h0 : sl p q ≤ s
    · exact ⟨0, by simp, h0⟩
    · have m := (sl_mean h.1 (last_lt h.2.2)).1
      simp only [lastK] at hs m
      obtain ⟨i, hi, hh⟩ := ih h.2.2 (by clear ih; grind)
      exact ⟨i + 1, by simp at hi ⊢; omega, by simpa using hh⟩
theorem some_high {p q : Kn} {l : List Kn} (h : Ri p (q :: l)) {s : Rat} (hs : s ≤ sl p (lastK q l)) : ∃ (i : Nat) (hi : i + 1 < (p :: q :: l).length), s ≤ sl ((p :: q :: l)[i]'(by omega)) (p :: q :: l)[i + 1] := by
  induction l generalizing p q with
  | nil => exact ⟨0, by simp, hs⟩
  | cons r l ih =>
    by_cases h0 : s ≤ sl p q
    · exact ⟨0, by simp, h0⟩
    · have m := (sl_mean h.1 (last_lt h.2.2)).2
      simp only [lastK] at hs m
      obtain ⟨i, hi, hh⟩ := ih h.2.2 (by clear ih; grind)
      exact ⟨i + 1, by simp at hi ⊢; omega, by simpa using hh⟩
end Go.Proofs.Ythhdpjkmjebjhab
