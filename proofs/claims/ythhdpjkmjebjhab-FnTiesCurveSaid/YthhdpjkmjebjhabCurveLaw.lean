/- What the laws on curves need: plain mathematics, no program in it. -/
import Derived.Test.YthhdpjkmjebjhabCurveIs
namespace Go.Proofs.Ythhdpjkmjebjhab

theorem isCurve_take {l : List Kn} (h : isCurve l = true) {k : Nat} (h2 : 2 ≤ k) (hk : k ≤ l.length) : isCurve (l.take k) = true := by
  obtain ⟨z1, z2, z3, z4⟩ := isCurve_steps.1 h
  have hl : (l.take k).length = k := by rw [List.length_take]; omega
  refine isCurve_steps.2 ⟨by omega, by omega, fun i hi => ?_, fun i hi => ?_⟩
  · rw [List.getElem_take]; exact z3 i (by omega)
  · rw [List.getElem_take, List.getElem_take]; exact z4 i (by omega)
theorem isCurve_rev {l : List Kn} (h : isCurve l = true) : isCurve l.reverse = false := by
  cases hr : isCurve l.reverse
  · rfl
  · obtain ⟨z1, z2, z3, z4⟩ := isCurve_steps.1 h
    obtain ⟨_, _, _, y4⟩ := isCurve_steps.1 hr
    have a := (y4 0 (by simp; omega)).1
    rw [List.getElem_reverse, List.getElem_reverse] at a
    have b := (z4 (l.length - 2) (by omega)).1
    have e1 : l.length - 1 - 0 = l.length - 2 + 1 := by omega
    have e2 : l.length - 1 - (0 + 1) = l.length - 2 := by omega
    simp only [e1, e2] at a
    omega
theorem isCurve_dup {l : List Kn} (h0 : 0 < l.length) : isCurve (l[0] :: l) = false := by
  cases hr : isCurve (l[0] :: l)
  · rfl
  · have a := ((isCurve_steps.1 hr).2.2.2 0 (by simp; omega)).1
    simp at a
theorem isCurve_len {l : List Kn} (h : isCurve l = true) : 2 ≤ l.length ∧ l.length ≤ 12 := ⟨(isCurve_steps.1 h).1, (isCurve_steps.1 h).2.1⟩
theorem isCurve_dp {l : List Kn} (h : isCurve l = true) (i : Nat) (hi : i < l.length) : 0 ≤ l[i].1 ∧ l[i].1 ≤ 30000 ∧ 0 ≤ l[i].2 ∧ l[i].2 ≤ 30000 := (isCurve_steps.1 h).2.2.1 i hi
theorem isCurve_up {l : List Kn} (h : isCurve l = true) (i : Nat) (hi : i + 1 < l.length) : l[i].1 < l[i + 1].1 ∧ l[i].2 < l[i + 1].2 := (isCurve_steps.1 h).2.2.2 i hi
theorem onC_curve {l : List Kn} {x : Rat} (h : onC l x = true) : isCurve l = true := by rw [onC, Bool.and_eq_true] at h; exact h.1
theorem onC_iff {l : List Kn} {x : Rat} (hc : isCurve l = true) (h0 : 0 < l.length) : onC l x = true ↔ (l[0].1 : Rat) ≤ x ∧ x ≤ ((l[l.length - 1]'(by omega)).1 : Rat) := by
  rw [onC, hc, Bool.true_and]; exact cIn_iff h0
theorem onC_is {l : List Kn} {x : Int} (hc : isCurve l = true) (h0 : 0 < l.length) : onC l (x : Rat) = true ↔ l[0].1 ≤ x ∧ x ≤ (l[l.length - 1]'(by omega)).1 := by
  rw [onC_iff hc h0, Rat.intCast_le_intCast, Rat.intCast_le_intCast]
theorem onC_not {l : List Kn} {x : Int} (hc : isCurve l = true) (h0 : 0 < l.length) (h : x < l[0].1 ∨ (l[l.length - 1]'(by omega)).1 < x) : onC l (x : Rat) = false := by
  cases ho : onC l (x : Rat)
  · rfl
  · have := (onC_is hc h0).1 ho; omega
theorem knot_on {l : List Kn} (hc : isCurve l = true) (i : Nat) (hi : i < l.length) : onC l ((l[i].1 : Int) : Rat) = true :=
  (onC_is hc (by omega)).2 ⟨(step_le hc (Nat.zero_le i) hi).1, (step_le hc (show i ≤ l.length - 1 by omega) (by omega)).1⟩
theorem at_mem {l : List Kn} (hc : isCurve l = true) {k : Kn} (hk : k ∈ l) : cAt l ((k.1 : Int) : Rat) = ((k.2 : Int) : Rat) := by
  obtain ⟨p, q, m, rfl, _, h3, _⟩ := isCurve_iff.1 hc
  exact at_knot h3 hk
theorem knot_at {l : List Kn} (hc : isCurve l = true) (i : Nat) (hi : i < l.length) : cAt l ((l[i].1 : Int) : Rat) = ((l[i].2 : Int) : Rat) := at_mem hc (List.getElem_mem hi)
theorem lastK_is {p : Kn} {l : List Kn} : lastK p l = (p :: l)[(p :: l).length - 1]'(by simp) := lastK_get
theorem at_between {l : List Kn} {x : Rat} (h : onC l x = true) (h0 : 0 < l.length) : (l[0].2 : Rat) ≤ cAt l x ∧ cAt l x ≤ ((l[l.length - 1]'(by omega)).2 : Rat) := by
  have hc := onC_curve h
  have k := (onC_iff hc h0).1 h
  obtain ⟨p, q, m, rfl, _, h3, _⟩ := isCurve_iff.1 hc
  rw [← lastK_is] at k ⊢
  exact at_range h3 k.1 k.2
theorem at_rises {l : List Kn} {x y : Rat} (h : onC l x = true) (k : onC l y = true) (hxy : x < y) : cAt l x < cAt l y := by
  have hc := onC_curve h
  have h0 : 0 < l.length := by have := isCurve_len hc; omega
  have a := (onC_iff hc h0).1 h
  have b := (onC_iff hc h0).1 k
  obtain ⟨p, q, m, rfl, _, h3, _⟩ := isCurve_iff.1 hc
  rw [← lastK_is] at a b
  exact at_lt h3 a.1 b.2 hxy
theorem at_seg_any {p : Kn} {l : List Kn} (h : Ri p l) {x : Rat} (i : Nat) (hi : i < l.length) (h1 : (((p :: l)[i]'(by simp; omega)).1 : Rat) ≤ x) (h2 : x ≤ (l[i].1 : Rat)) : atR p l x = seg ((p :: l)[i]'(by simp; omega)) l[i] x := by
  induction l generalizing p i with
  | nil => simp at hi
  | cons q l ih =>
    cases i with
    | zero =>
      have h2' : x ≤ (q.1 : Rat) := h2
      simp only [atR]; rw [if_neg (by grind)]; rfl
    | succ i =>
      have hi' : i < l.length := by simpa using hi
      have h1' : (((q :: l)[i]'(by simp; omega)).1 : Rat) ≤ x := h1
      have h2' : x ≤ (l[i].1 : Rat) := h2
      by_cases hq : (q.1 : Rat) < x
      · simp only [atR]; rw [if_pos hq]; exact ih h.2.2 i hi' h1' h2'
      · have e : i = 0 := by
          cases i with
          | zero => rfl
          | succ i =>
            exfalso
            have m : l[i] ∈ l := List.getElem_mem _
            have := rat_lt (h.2.2.knot m).1
            have e2 : (q :: l)[i + 1]'(by simp; omega) = l[i] := rfl
            rw [e2] at h1'; grind
        subst e
        have e2 : (q :: l)[0]'(by simp) = q := rfl
        rw [e2] at h1'
        have ex : x = (q.1 : Rat) := by grind
        simp only [atR]; rw [if_neg hq]
        show seg p q x = seg q l[0] x
        rw [ex, seg_left, seg_right h.1]
theorem at_seg {l : List Kn} {x : Rat} (hc : isCurve l = true) (i : Nat) (hi : i + 1 < l.length) (h1 : (l[i].1 : Rat) ≤ x) (h2 : x ≤ (l[i + 1].1 : Rat)) : cAt l x = seg l[i] l[i + 1] x := by
  obtain ⟨p, q, m, rfl, _, h3, _⟩ := isCurve_iff.1 hc
  exact at_seg_any h3 i (by simpa using hi) h1 h2

-- turned curves
theorem turn_twice (l : List Kn) : (l.map turnK).map turnK = l := by
  induction l with
  | nil => rfl
  | cons p l ih => simp only [List.map_cons, ih]; rfl
theorem isCurve_turn {l : List Kn} (h : isCurve l = true) : isCurve (l.map turnK) = true := by
  obtain ⟨z1, z2, z3, z4⟩ := isCurve_steps.1 h
  refine isCurve_steps.2 ⟨by simpa using z1, by simpa using z2, fun i hi => ?_, fun i hi => ?_⟩
  · have := z3 i (by simpa using hi)
    simp only [List.getElem_map]; unfold Dp turnK at *; simp only; omega
  · have := z4 i (by simpa using hi)
    simp only [List.getElem_map]; unfold turnK; simp only; omega
theorem turn_lead {l : List Kn} {x : Rat} (h : onC l x = true) : onC (l.map turnK) (cAt l x) = true ∧ cAt (l.map turnK) (cAt l x) = x := by
  have hc := onC_curve h
  have h0 : 0 < l.length := by have := isCurve_len hc; omega
  have b := at_between h h0
  have k := (onC_iff hc h0).1 h
  constructor
  · refine (onC_iff (isCurve_turn hc) (by simpa using h0)).2 ?_
    simp only [List.getElem_map, List.length_map]
    exact b
  · obtain ⟨p, q, m, rfl, _, h3, _⟩ := isCurve_iff.1 hc
    rw [← lastK_is] at k
    exact at_turn h3 k.1 k.2
-- the straight line through all depths
def lineL : List Kn := [(0, 0), (30000, 30000)]
theorem line_curve : isCurve lineL = true := by decide
theorem line_on {x : Rat} (h0 : 0 ≤ x) (h1 : x ≤ 30000) : onC lineL x = true := (onC_iff line_curve (by decide)).2 ⟨h0, h1⟩
theorem line_at {x : Rat} (h1 : x ≤ 30000) : cAt lineL x = x := at_line x h1
-- a further knot
def addOf (k : Kn) (l : List Kn) : Option (List Kn) := if isCurve l = true ∧ isCurve (ins k l) = true then some (ins k l) else none
theorem addOf_some {k : Kn} {l m : List Kn} (h : addOf k l = some m) : isCurve l = true ∧ isCurve m = true ∧ m = ins k l := by
  unfold addOf at h
  split at h
  · rename_i hc
    obtain rfl : ins k l = m := by simpa using h
    exact ⟨hc.1, hc.2, rfl⟩
  · simp at h
theorem addOf_is {k : Kn} {l : List Kn} (h : isCurve l = true) (h2 : isCurve (ins k l) = true) : addOf k l = some (ins k l) := if_pos ⟨h, h2⟩
theorem addOf_no {k : Kn} {l : List Kn} (h : isCurve l = false) : addOf k l = none := if_neg (by rw [h]; simp)
theorem addOf_no2 {k : Kn} {l : List Kn} (h : isCurve (ins k l) = false) : addOf k l = none := if_neg (by rw [h]; simp)
theorem ins_ri {p k : Kn} {l : List Kn} (h : isCurve (ins k (p :: l)) = true) : (p.1 < k.1 ∧ ins k (p :: l) = p :: ins k l ∧ Ri p (ins k l)) ∨ (k.1 < p.1 ∧ ins k (p :: l) = k :: p :: l) := by
  by_cases c : p.1 < k.1
  · left
    have e : ins k (p :: l) = p :: ins k l := by simp only [ins]; rw [if_pos c]
    rw [e] at h
    obtain ⟨p', q, m, e', _, h3, _⟩ := isCurve_iff.1 h
    obtain ⟨rfl, e2⟩ := List.cons.inj e'
    rw [← e2] at h3
    exact ⟨c, e, h3⟩
  · right
    have e : ins k (p :: l) = k :: p :: l := by simp only [ins]; rw [if_neg c]
    rw [e] at h
    have := (isCurve_up h 0 (by simp)).1
    exact ⟨this, e⟩
theorem ins_last {p k : Kn} {l : List Kn} (h : Ri p (ins k l)) : (lastK p l).1 ≤ (lastK p (ins k l)).1 := by
  induction l generalizing p with
  | nil => exact Int.le_of_lt h.1
  | cons q l ih =>
    by_cases c : q.1 < k.1
    · have e : ins k (q :: l) = q :: ins k l := by simp only [ins]; rw [if_pos c]
      rw [e] at h ⊢
      exact ih h.2.2
    · have e : ins k (q :: l) = k :: q :: l := by simp only [ins]; rw [if_neg c]
      rw [e]; exact Int.le_refl _
theorem ins_below {p k : Kn} {l : List Kn} (h : Ri p (ins k l)) (hl : l ≠ []) (hk : k.1 ≤ (lastK p l).1) : k.1 < (lastK p l).1 := by
  induction l generalizing p with
  | nil => exact absurd rfl hl
  | cons q l ih =>
    by_cases c : q.1 < k.1
    · have e : ins k (q :: l) = q :: ins k l := by simp only [ins]; rw [if_pos c]
      rw [e] at h
      cases l with
      | nil => simp only [lastK] at hk; omega
      | cons r l => exact ih h.2.2 (by simp) hk
    · have e : ins k (q :: l) = k :: q :: l := by simp only [ins]; rw [if_neg c]
      rw [e] at h
      have a := h.2.2.1
      have b := h.2.2.2.2.last.1
      simp only [lastK]; omega
theorem ins_on {k : Kn} {l : List Kn} {x : Rat} (h : isCurve (ins k l) = true) (ho : onC l x = true) : onC (ins k l) x = true := by
  have hc := onC_curve ho
  obtain ⟨p, q, m, rfl, _, h3, _⟩ := isCurve_iff.1 hc
  have a := (onC_iff hc (by simp)).1 ho
  rw [← lastK_is] at a
  rcases ins_ri h with ⟨c, e, hr⟩ | ⟨c, e⟩
  · rw [e] at h ⊢
    refine (onC_iff h (by simp)).2 ⟨a.1, ?_⟩
    rw [← lastK_is]
    have := rat_le (ins_last hr)
    grind
  · rw [e] at h ⊢
    refine (onC_iff h (by simp)).2 ⟨?_, ?_⟩
    · have := rat_lt c
      have b := a.1
      simp only [List.getElem_cons_zero] at b ⊢
      grind
    · rw [← lastK_is]; exact a.2
theorem ins_knot {k : Kn} {l : List Kn} (h : isCurve (ins k l) = true) : onC (ins k l) ((k.1 : Int) : Rat) = true ∧ cAt (ins k l) ((k.1 : Int) : Rat) = ((k.2 : Int) : Rat) := by
  have hm := ins_mem k l
  refine ⟨?_, at_mem h hm⟩
  obtain ⟨i, hi, e⟩ := List.getElem_of_mem hm
  have := knot_on h i hi
  rwa [e] at this
theorem ins_same {k : Kn} {l : List Kn} (h : isCurve (ins k l) = true) (ho : onC l ((k.1 : Int) : Rat) = true) (hk : cAt l ((k.1 : Int) : Rat) = ((k.2 : Int) : Rat)) (x : Rat) : cAt (ins k l) x = cAt l x := by
  have hc := onC_curve ho
  obtain ⟨p, q, m, rfl, _, h3, _⟩ := isCurve_iff.1 hc
  have a := (onC_is hc (by simp)).1 ho
  rw [← lastK_is] at a
  rcases ins_ri h with ⟨c, e, hr⟩ | ⟨c, e⟩
  · rw [e]
    exact at_ins h3 hr (ins_below hr (by simp) a.2) hk x
  · have b := a.1
    simp only [List.getElem_cons_zero] at b
    omega
theorem ins_no {p k : Kn} {l : List Kn} (h : Ri p (ins k l)) : k ∉ l := by
  induction l generalizing p with
  | nil => simp
  | cons q l ih =>
    intro hk
    by_cases c : q.1 < k.1
    · have e : ins k (q :: l) = q :: ins k l := by simp only [ins]; rw [if_pos c]
      rw [e] at h
      rcases List.mem_cons.1 hk with rfl | hk
      · omega
      · exact ih h.2.2 hk
    · have e : ins k (q :: l) = k :: q :: l := by simp only [ins]; rw [if_neg c]
      rw [e] at h
      rcases List.mem_cons.1 hk with rfl | hk
      · have := h.2.2.1; omega
      · have := (h.2.2.2.2.knot hk).1; have := h.2.2.1; omega
theorem ins_not {k : Kn} {l : List Kn} (h : isCurve (ins k l) = true) : k ∉ l := by
  cases l with
  | nil => simp
  | cons p l =>
    have hri : Ri (-1, -1) (ins k (p :: l)) := by
      unfold isCurve at h
      simp only [Bool.and_eq_true, riB_iff] at h
      exact h.1.1.2
    exact ins_no hri
theorem ins_again {k : Kn} {l : List Kn} : addOf k (ins k l) = none := by
  cases h : isCurve (ins k (ins k l))
  · exact addOf_no2 h
  · exact absurd (ins_mem k l) (ins_not h)
theorem ins_rest {k : Kn} {l : List Kn} (h : k ∉ l) : (ins k l).filter (fun p => decide (p ≠ k)) = l := by
  induction l with
  | nil => simp [ins]
  | cons p l ih =>
    have hp : p ≠ k := fun e => h (by rw [e]; simp)
    have hl : k ∉ l := fun e => h (List.mem_cons_of_mem _ e)
    simp only [ins]
    split
    · rw [List.filter_cons, if_pos (by simpa using hp), ih hl]
    · rw [List.filter_cons, if_neg (by simp), List.filter_eq_self.2]
      intro a ha
      simp only [decide_eq_true_eq]
      intro e; subst e; exact h ha
theorem ins_turned {k : Kn} {l : List Kn} (hc : isCurve l = true) (h : isCurve (ins k l) = true) : ins (turnK k) (l.map turnK) = (ins k l).map turnK := by
  have ri (m : List Kn) (h : isCurve m = true) : Ri (-1, -1) m := by
    unfold isCurve at h
    simp only [Bool.and_eq_true, riB_iff] at h
    exact h.1.1.2
  exact (ins_turn (ri _ hc) (ri _ h)).symm
theorem addOf_turn {k : Kn} {l m : List Kn} (h : addOf k l = some m) : addOf (turnK k) (l.map turnK) = some (m.map turnK) := by
  obtain ⟨h1, h2, rfl⟩ := addOf_some h
  rw [← ins_turned h1 h2]
  exact addOf_is (isCurve_turn h1) (by rw [ins_turned h1 h2]; exact isCurve_turn h2)
theorem addOf_len {k : Kn} {l m : List Kn} (h : addOf k l = some m) : m.length = l.length + 1 := by
  rw [(addOf_some h).2.2, ins_length]
-- lean curves
def leanL : List Kn → List Kn
  | [] => []
  | p :: l => p :: lean p l
def leanOf (l : List Kn) : Option (List Kn) := if isCurve l = true then some (leanL l) else none
theorem leanOf_some {l m : List Kn} (h : leanOf l = some m) : isCurve l = true ∧ m = leanL l := by
  unfold leanOf at h
  split at h
  · exact ⟨by assumption, by simpa using h.symm⟩
  · simp at h
theorem leanOf_is {l : List Kn} (h : isCurve l = true) : leanOf l = some (leanL l) := if_pos h
theorem leanOf_no {l : List Kn} (h : isCurve l = false) : leanOf l = none := if_neg (by rw [h]; simp)
theorem lean_some {o : Kn} {l : List Kn} (h : l ≠ []) : lean o l ≠ [] := by
  fun_induction lean <;> simp_all
theorem leanL_length (l : List Kn) : (leanL l).length ≤ l.length := by
  cases l with
  | nil => simp [leanL]
  | cons p l => simp only [leanL, List.length_cons]; have := lean_length p l; omega
theorem leanL_curve {l : List Kn} (h : isCurve l = true) : isCurve (leanL l) = true := by
  have hl := leanL_length l
  obtain ⟨p, q, m, rfl, h2, h3, h4⟩ := isCurve_iff.1 h
  simp only [leanL] at hl ⊢
  have hs : lean p (q :: m) ≠ [] := lean_some (by simp)
  have hr := h3.lean
  have hla := lean_last p p (q :: m) (by simp)
  cases hm : lean p (q :: m) with
  | nil => exact absurd hm hs
  | cons r m' =>
    rw [hm] at hr hla hl
    have a := h4 p (by simp)
    have b := h4 _ (lastK_mem p (q :: m))
    rw [← hla] at b
    unfold Dp at a b
    refine isCurve_iff.2 ⟨p, r, m', rfl, by simp at hl h2; omega, hr, fun k hk => ?_⟩
    rcases List.mem_cons.1 hk with rfl | hk
    · exact a
    · exact hr.dp (by omega) (by omega) b.2.1 b.2.2.2 k hk
theorem leanL_at {l : List Kn} (h : isCurve l = true) (x : Rat) : cAt (leanL l) x = cAt l x := by
  obtain ⟨p, q, m, rfl, h2, h3, h4⟩ := isCurve_iff.1 h
  exact at_lean h3 x
theorem leanL_first {l : List Kn} (h0 : 0 < l.length) : ∃ h : 0 < (leanL l).length, (leanL l)[0] = l[0] := by
  cases l with
  | nil => simp at h0
  | cons p l => exact ⟨by simp [leanL], rfl⟩
theorem leanL_last {l : List Kn} (h : isCurve l = true) : ∃ h0 : 0 < l.length, ∃ h1 : 0 < (leanL l).length, (leanL l)[(leanL l).length - 1]'(by omega) = l[l.length - 1]'(by omega) := by
  obtain ⟨p, q, m, rfl, h2, h3, h4⟩ := isCurve_iff.1 h
  refine ⟨by simp, by simp [leanL], ?_⟩
  have e := lean_last p p (q :: m) (by simp)
  rw [lastK_is, lastK_is] at e
  exact e
theorem leanL_on {l : List Kn} {x : Rat} (h : onC l x = true) : onC (leanL l) x = true := by
  have hc := onC_curve h
  obtain ⟨h0, h1, e⟩ := leanL_last hc
  obtain ⟨_, f⟩ := leanL_first h0
  have a := (onC_iff hc h0).1 h
  exact (onC_iff (leanL_curve hc) h1).2 (by rw [e, f]; exact a)
theorem leanL_again {l : List Kn} (h : isCurve l = true) : leanL (leanL l) = leanL l := by
  obtain ⟨p, q, m, rfl, h2, h3, h4⟩ := isCurve_iff.1 h
  simp only [leanL]
  rw [lean_twice h3]
theorem leanL_turn (l : List Kn) : leanL (l.map turnK) = (leanL l).map turnK := by
  cases l with
  | nil => rfl
  | cons p l => simp only [leanL, List.map_cons]; rw [lean_turn]
theorem NL.step {o : Kn} {l : List Kn} (h : NL o l) (i : Nat) (hi : i + 1 < l.length) : onL ((o :: l)[i]'(by simp; omega)) (l[i]'(by omega)) l[i + 1] = false := by
  induction l generalizing o i with
  | nil => simp at hi
  | cons p l ih =>
    cases l with
    | nil => simp at hi
    | cons q l =>
      cases i with
      | zero => exact h.1
      | succ i => exact ih h.2 i (by simpa using hi)
theorem leanL_slopes {l : List Kn} (h : isCurve l = true) (i : Nat) (hi : i + 2 < (leanL l).length) : sl ((leanL l)[i]'(by omega)) ((leanL l)[i + 1]'(by omega)) ≠ sl ((leanL l)[i + 1]'(by omega)) (leanL l)[i + 2] := by
  have hc := leanL_curve h
  have u1 := (isCurve_up hc i (by omega)).1
  have u2 := (isCurve_up hc (i + 1) hi).1
  obtain ⟨p, q, m, rfl, h2, h3, h4⟩ := isCurve_iff.1 h
  exact sl_ne u1 u2 ((lean_NL h3).step i (by simp only [leanL, List.length_cons] at hi; omega))
theorem leanL_mid {a b k : Kn} {l : List Kn} (h1 : 2 * k.1 = a.1 + b.1) (h2 : 2 * k.2 = a.2 + b.2) (hab : a.1 < b.1) : leanL (ins k (a :: b :: l)) = leanL (a :: b :: l) := by
  have e : ins k (a :: b :: l) = a :: k :: b :: l := by
    simp only [ins]; rw [if_pos (by omega), if_neg (by omega)]
  rw [e]
  simp only [leanL]
  rw [lean_mid]
  unfold onL
  rw [decide_eq_true_eq]
  have e1 : k.1 - a.1 = b.1 - k.1 := by omega
  have e2 : b.1 - a.1 = 2 * (k.1 - a.1) := by omega
  have e3 : b.2 - a.2 = 2 * (k.2 - a.2) := by omega
  rw [e2, e3]; grind
-- slopes
theorem slope_turn {p q : Kn} (h1 : p.1 < q.1) (h2 : p.2 < q.2) : sl (turnK p) (turnK q) = 1 / sl p q := sl_turn h1 h2
theorem sl_pos {p q : Kn} (h1 : p.1 < q.1) (h2 : p.2 < q.2) : 0 < sl p q := slope_pos h1 h2
theorem slopes_low {l : List Kn} (h : isCurve l = true) (h0 : 0 < l.length) {s : Rat} (hs : sl l[0] (l[l.length - 1]'(by omega)) ≤ s) : ∃ (i : Nat) (hi : i + 1 < l.length), sl (l[i]'(by omega)) l[i + 1] ≤ s := by
  obtain ⟨p, q, m, rfl, h2, h3, h4⟩ := isCurve_iff.1 h
  have e : (p :: q :: m)[(p :: q :: m).length - 1]'(by simp) = lastK q m := by rw [← lastK_is]; rfl
  rw [e] at hs
  exact some_low h3 hs
theorem slopes_high {l : List Kn} (h : isCurve l = true) (h0 : 0 < l.length) {s : Rat} (hs : s ≤ sl l[0] (l[l.length - 1]'(by omega))) : ∃ (i : Nat) (hi : i + 1 < l.length), s ≤ sl (l[i]'(by omega)) l[i + 1] := by
  obtain ⟨p, q, m, rfl, h2, h3, h4⟩ := isCurve_iff.1 h
  have e : (p :: q :: m)[(p :: q :: m).length - 1]'(by simp) = lastK q m := by rw [← lastK_is]; rfl
  rw [e] at hs
  exact some_high h3 hs
theorem isCurve_ends {l : List Kn} (h : isCurve l = true) (h0 : 0 < l.length) : isCurve [l[0], l[l.length - 1]'(by omega)] = true := by
  obtain ⟨z1, z2, z3, z4⟩ := isCurve_steps.1 h
  have a := z4 0 (by omega)
  have b := step_le h (show 1 ≤ l.length - 1 by omega) (by omega)
  have c := z3 0 (by omega); have d := z3 (l.length - 1) (by omega)
  simp only [Nat.zero_add] at a
  refine isCurve_iff.2 ⟨_, _, [], rfl, by simp, ⟨by omega, by omega, trivial⟩, fun k hk => ?_⟩
  rcases List.mem_cons.1 hk with rfl | hk
  · exact c
  · rw [List.mem_singleton] at hk; subst hk; exact d
-- stretched curves
theorem double_at {l : List Kn} (h0 : 0 < l.length) (x : Rat) : cAt (l.map doubleK) x = 2 * cAt l x := by
  cases l with
  | nil => simp at h0
  | cons p l => exact at_double p l x
end Go.Proofs.Ythhdpjkmjebjhab
