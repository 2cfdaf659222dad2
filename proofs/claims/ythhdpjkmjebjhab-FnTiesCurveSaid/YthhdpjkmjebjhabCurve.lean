/- Curves: lists of knots that rise, and the value of a curve at a rational number: plain mathematics, no program in it. -/
import Init.Data.Rat.Lemmas
namespace Go.Proofs.Ythhdpjkmjebjhab

abbrev Kn := Int × Int
/-- The knots behind p rise from it on. -/
def Ri : Kn → List Kn → Prop
  | _, [] => True
  | p, q :: l => p.1 < q.1 ∧ p.2 < q.2 ∧ Ri q l
/-- The last knot. -/
def lastK : Kn → List Kn → Kn
  | p, [] => p
  | _, q :: l => lastK q l
def turnK (p : Kn) : Kn := (p.2, p.1)
/-- The line through two knots. -/
def seg (p q : Kn) (x : Rat) : Rat := (p.2 : Rat) + (x - (p.1 : Rat)) * (((q.2 : Rat) - (p.2 : Rat)) / ((q.1 : Rat) - (p.1 : Rat)))
/-- The value of the curve that begins at the knot p. -/
def atR : Kn → List Kn → Rat → Rat
  | p, [], _ => (p.2 : Rat)
  | p, q :: l, x => if (q.1 : Rat) < x then atR q l x else seg p q x

theorem rat_lt {a b : Int} (h : a < b) : (a : Rat) < (b : Rat) := Rat.intCast_lt_intCast.2 h
theorem rat_le {a b : Int} (h : a ≤ b) : (a : Rat) ≤ (b : Rat) := Rat.intCast_le_intCast.2 h

theorem slope_pos {p q : Kn} (h1 : p.1 < q.1) (h2 : p.2 < q.2) : 0 < ((q.2 : Rat) - (p.2 : Rat)) / ((q.1 : Rat) - (p.1 : Rat)) := by
  have a := rat_lt h1; have b := rat_lt h2
  rw [Rat.div_def]; exact Rat.mul_pos (by grind) (Rat.inv_pos.2 (by grind))
theorem seg_left (p q : Kn) : seg p q (p.1 : Rat) = (p.2 : Rat) := by unfold seg; grind
theorem seg_right {p q : Kn} (h1 : p.1 < q.1) : seg p q (q.1 : Rat) = (q.2 : Rat) := by
  have a := rat_lt h1
  have h : (q.1 : Rat) - (p.1 : Rat) ≠ 0 := by grind
  unfold seg; grind
theorem seg_lt {p q : Kn} {x y : Rat} (h1 : p.1 < q.1) (h2 : p.2 < q.2) (h : x < y) : seg p q x < seg p q y := by
  have h3 := slope_pos h1 h2
  have h4 := Rat.mul_lt_mul_of_pos_right (a := x - (p.1 : Rat)) (b := y - (p.1 : Rat)) (by grind) h3
  unfold seg; grind
theorem seg_le {p q : Kn} {x y : Rat} (h1 : p.1 < q.1) (h2 : p.2 < q.2) (h : x ≤ y) : seg p q x ≤ seg p q y := by
  by_cases e : x = y
  · subst e; exact Rat.le_refl
  · exact Rat.le_of_lt (seg_lt h1 h2 (by grind))
theorem seg_turn {p q : Kn} (h1 : p.1 < q.1) (h2 : p.2 < q.2) (x : Rat) : seg (turnK p) (turnK q) (seg p q x) = x := by
  have a := rat_lt h1; have b := rat_lt h2
  have h3 : (q.1 : Rat) - (p.1 : Rat) ≠ 0 := by grind
  have h4 : (q.2 : Rat) - (p.2 : Rat) ≠ 0 := by grind
  unfold seg turnK; grind

theorem Ri.turn {p : Kn} {l : List Kn} (h : Ri p l) : Ri (turnK p) (l.map turnK) := by
  induction l generalizing p with
  | nil => trivial
  | cons q l ih => exact ⟨h.2.1, h.1, ih h.2.2⟩
theorem lastK_turn (p : Kn) (l : List Kn) : lastK (turnK p) (l.map turnK) = turnK (lastK p l) := by
  induction l generalizing p with
  | nil => rfl
  | cons q l ih => exact ih q
theorem Ri.last {p : Kn} {l : List Kn} (h : Ri p l) : p.1 ≤ (lastK p l).1 ∧ p.2 ≤ (lastK p l).2 := by
  induction l generalizing p with
  | nil => exact ⟨Int.le_refl _, Int.le_refl _⟩
  | cons q l ih => have := ih h.2.2; have := h.1; have := h.2.1; simp only [lastK]; omega
theorem at_first {p : Kn} {l : List Kn} (h : Ri p l) : atR p l (p.1 : Rat) = (p.2 : Rat) := by
  cases l with
  | nil => rfl
  | cons q l =>
    have := rat_lt h.1
    simp only [atR]
    rw [if_neg (by grind), seg_left]
theorem at_range {p : Kn} {l : List Kn} (h : Ri p l) {x : Rat} (h0 : (p.1 : Rat) ≤ x) (h1 : x ≤ ((lastK p l).1 : Rat)) : (p.2 : Rat) ≤ atR p l x ∧ atR p l x ≤ ((lastK p l).2 : Rat) := by
  induction l generalizing p with
  | nil => exact ⟨Rat.le_refl, Rat.le_refl⟩
  | cons q l ih =>
    simp only [atR, lastK] at h1 ⊢
    have hq := rat_le h.2.2.last.2
    have h3 := rat_lt h.2.1
    split
    · have := ih h.2.2 (by grind) h1
      grind
    · have a := seg_le h.1 h.2.1 h0
      rw [seg_left] at a
      have b := seg_le (x := x) (y := q.1) h.1 h.2.1 (by grind)
      rw [seg_right h.1] at b
      grind
theorem at_lt {p : Kn} {l : List Kn} (h : Ri p l) {x y : Rat} (h0 : (p.1 : Rat) ≤ x) (h1 : y ≤ ((lastK p l).1 : Rat)) (hxy : x < y) : atR p l x < atR p l y := by
  induction l generalizing p x with
  | nil => simp only [lastK] at h1; grind
  | cons q l ih =>
    simp only [lastK] at h1
    simp only [atR]
    by_cases hx : (q.1 : Rat) < x
    · rw [if_pos hx, if_pos (by clear ih; grind)]; exact ih h.2.2 (Rat.le_of_lt hx) h1 hxy
    · rw [if_neg hx]
      by_cases hy : (q.1 : Rat) < y
      · rw [if_pos hy]
        have a := seg_le (x := x) (y := q.1) h.1 h.2.1 (by clear ih; grind)
        rw [seg_right h.1] at a
        have b := ih h.2.2 Rat.le_refl h1 hy
        rw [at_first h.2.2] at b
        clear ih; grind
      · rw [if_neg hy]; exact seg_lt h.1 h.2.1 hxy
theorem at_le {p : Kn} {l : List Kn} (h : Ri p l) {x y : Rat} (h0 : (p.1 : Rat) ≤ x) (h1 : y ≤ ((lastK p l).1 : Rat)) (hxy : x ≤ y) : atR p l x ≤ atR p l y := by
  by_cases e : x = y
  · subst e; exact Rat.le_refl
  · exact Rat.le_of_lt (at_lt h h0 h1 (by grind))
/-- Turned, the curve leads back. -/
theorem at_turn {p : Kn} {l : List Kn} (h : Ri p l) {x : Rat} (h0 : (p.1 : Rat) ≤ x) (h1 : x ≤ ((lastK p l).1 : Rat)) : atR (turnK p) (l.map turnK) (atR p l x) = x := by
  induction l generalizing p with
  | nil => simp only [lastK] at h1; simp only [atR, List.map, turnK]; grind
  | cons q l ih =>
    simp only [lastK] at h1
    by_cases hx : (q.1 : Rat) < x
    · have a := at_lt h.2.2 (Rat.le_refl) h1 hx
      rw [at_first h.2.2] at a
      have b := ih h.2.2 (Rat.le_of_lt hx) h1
      have e : atR p (q :: l) x = atR q l x := by simp only [atR]; rw [if_pos hx]
      rw [e, List.map_cons]
      simp only [atR]
      rw [if_pos (show ((turnK q).1 : Rat) < atR q l x from a)]
      exact b
    · have e : atR p (q :: l) x = seg p q x := by simp only [atR]; rw [if_neg hx]
      have a := seg_le (x := x) (y := q.1) h.1 h.2.1 (by clear ih; grind)
      rw [seg_right h.1] at a
      rw [e, List.map_cons]
      simp only [atR]
      rw [if_neg (show ¬ ((turnK q).1 : Rat) < seg p q x by show ¬ ((q.2 : Int) : Rat) < _; clear ih; grind)]
      exact seg_turn h.1 h.2.1 x
theorem Ri.knot {p : Kn} {l : List Kn} (h : Ri p l) {k : Kn} (hk : k ∈ l) : p.1 < k.1 ∧ p.2 < k.2 ∧ k.1 ≤ (lastK p l).1 := by
  induction l generalizing p with
  | nil => simp at hk
  | cons q l ih =>
    rcases List.mem_cons.1 hk with rfl | hk
    · exact ⟨h.1, h.2.1, h.2.2.last.1⟩
    · have := ih h.2.2 hk; have := h.1; have := h.2.1; simp only [lastK]; omega
theorem at_knot {p : Kn} {l : List Kn} (h : Ri p l) {k : Kn} (hk : k ∈ p :: l) : atR p l (k.1 : Rat) = (k.2 : Rat) := by
  induction l generalizing p with
  | nil => simp at hk; subst hk; rfl
  | cons q l ih =>
    rcases List.mem_cons.1 hk with rfl | hk
    · exact at_first h
    · by_cases e : k = q
      · subst e
        simp only [atR]
        rw [if_neg (by clear ih; grind), seg_right h.1]
      · have hk' : k ∈ l := by simpa [e] using hk
        have a := rat_lt (h.2.2.knot hk').1
        simp only [atR]
        rw [if_pos a]
        exact ih h.2.2 hk
/-- A straight line changes nothing. -/
theorem at_line (x : Rat) (h : x ≤ 30000) : atR (0, 0) [(30000, 30000)] x = x := by
  simp only [atR]
  rw [if_neg (by show ¬ ((30000 : Int) : Rat) < x; have : ((30000 : Int) : Rat) = 30000 := by rfl
                 rw [this]; grind)]
  unfold seg
  have : ((30000 : Int) : Rat) = 30000 := by rfl
  have : ((0 : Int) : Rat) = 0 := by rfl
  grind
/-- Stretched by 2. -/
def doubleK (p : Kn) : Kn := (p.1, 2 * p.2)
theorem at_double (p : Kn) (l : List Kn) (x : Rat) : atR (doubleK p) (l.map doubleK) x = 2 * atR p l x := by
  induction l generalizing p with
  | nil => show ((2 * p.2 : Int) : Rat) = 2 * (p.2 : Rat); rw [Rat.intCast_mul]; rfl
  | cons q l ih =>
    have e : ((doubleK q).1 : Rat) = (q.1 : Rat) := rfl
    simp only [List.map_cons, atR]
    rw [e]
    by_cases hx : (q.1 : Rat) < x
    · rw [if_pos hx, if_pos hx]; exact ih q
    · rw [if_neg hx, if_neg hx]
      unfold seg doubleK
      simp only [Rat.intCast_mul]
      have : ((2 : Int) : Rat) = 2 := by rfl
      rw [this]
      simp only [Rat.div_def]; grind

/-- A knot put in behind those with a lesser X. -/
def ins (k : Kn) : List Kn → List Kn
  | [] => [k]
  | p :: l => if p.1 < k.1 then p :: ins k l else k :: p :: l
theorem ins_length (k : Kn) (l : List Kn) : (ins k l).length = l.length + 1 := by
  induction l with
  | nil => rfl
  | cons p l ih => simp only [ins]; split <;> simp [ih]
theorem ins_mem (k : Kn) (l : List Kn) : k ∈ ins k l := by
  induction l with
  | nil => simp [ins]
  | cons p l ih => simp only [ins]; split <;> simp [ih]
/-- Put in where the curve runs, a knot changes no value. -/
theorem at_ins {p k : Kn} {l : List Kn} (h : Ri p l) (hi : Ri p (ins k l)) (hk : k.1 < (lastK p l).1) (hc : atR p l (k.1 : Rat) = (k.2 : Rat)) (x : Rat) : atR p (ins k l) x = atR p l x := by
  induction l generalizing p with
  | nil => have := hi.1; simp only [lastK] at hk this; omega
  | cons q l ih =>
    by_cases hq : q.1 < k.1
    · have a := rat_lt hq
      simp only [ins, if_pos hq] at hi ⊢
      simp only [atR, if_pos a] at hc
      simp only [atR]
      split
      · exact ih h.2.2 hi.2.2 hk hc
      · rfl
    · simp only [ins, if_neg hq] at hi ⊢
      obtain ⟨i1, i2, i3, i4, _⟩ := hi
      have a := rat_lt i1; have b := rat_lt i3
      simp only [atR]
      simp only [atR] at hc
      rw [if_neg (by clear ih; grind)] at hc
      by_cases hx : (k.1 : Rat) < x
      · rw [if_pos hx]
        split
        · rfl
        · have h3 : (q.1 : Rat) - (p.1 : Rat) ≠ 0 := by clear ih; grind
          have h4 : (q.1 : Rat) - (k.1 : Rat) ≠ 0 := by clear ih; grind
          unfold seg at hc ⊢
          clear ih; grind
      · rw [if_neg hx, if_neg (by clear ih; grind)]
        have h3 : (q.1 : Rat) - (p.1 : Rat) ≠ 0 := by clear ih; grind
        have h4 : (k.1 : Rat) - (p.1 : Rat) ≠ 0 := by clear ih; grind
        unfold seg at hc ⊢
        clear ih; grind
theorem ins_turn {p k : Kn} {l : List Kn} (h : Ri p l) (hi : Ri p (ins k l)) : (ins k l).map turnK = ins (turnK k) (l.map turnK) := by
  induction l generalizing p with
  | nil => rfl
  | cons q l ih =>
    by_cases hq : q.1 < k.1
    · simp only [ins, if_pos hq] at hi ⊢
      have hk := hi.2.2.knot (ins_mem k l)
      simp only [List.map_cons, ins]
      rw [if_pos (show (turnK q).1 < (turnK k).1 from hk.2.1), ih h.2.2 hi.2.2]
    · simp only [ins, if_neg hq] at hi ⊢
      have := hi.2.2.2.1
      simp only [List.map_cons, ins]
      rw [if_neg (show ¬ (turnK q).1 < (turnK k).1 by show ¬ q.2 < k.2; omega)]

/-- Three knots on a line. -/
def onL (a b c : Kn) : Bool := decide ((b.1 - a.1) * (c.2 - a.2) = (c.1 - a.1) * (b.2 - a.2))
/-- Behind the kept knot o: those that are on no line with the kept one and the next one, and the last. -/
def lean (o : Kn) : List Kn → List Kn
  | [] => []
  | [p] => [p]
  | p :: q :: l => if onL o p q then lean o (q :: l) else p :: lean p (q :: l)
theorem lean_length (o : Kn) (l : List Kn) : (lean o l).length ≤ l.length := by
  fun_induction lean <;> simp_all <;> omega
theorem lean_last (o o' : Kn) (l : List Kn) (h : l ≠ []) : lastK o' (lean o l) = lastK o' l := by
  fun_induction lean generalizing o' <;> simp_all [lastK]
theorem onL_turn (a b c : Kn) : onL (turnK a) (turnK b) (turnK c) = onL a b c := by
  unfold onL turnK; rw [decide_eq_decide]; simp only; constructor <;> intro h <;> grind
theorem lean_turn (o : Kn) (l : List Kn) : (lean o l).map turnK = lean (turnK o) (l.map turnK) := by
  fun_induction lean <;> simp_all [lean, onL_turn]
theorem Ri.skip {o p : Kn} {l : List Kn} (h : Ri o (p :: l)) : Ri o l := by
  cases l with
  | nil => trivial
  | cons q l => have h1 := h.1; have h2 := h.2.1; have h3 := h.2.2.1; have h4 := h.2.2.2.1; exact ⟨by omega, by omega, h.2.2.2.2⟩
theorem Ri.lean {o : Kn} {l : List Kn} (h : Ri o l) : Ri o (Go.Proofs.Ythhdpjkmjebjhab.lean o l) := by
  fun_induction Go.Proofs.Ythhdpjkmjebjhab.lean with
  | case1 => trivial
  | case2 => exact h
  | case3 o p q l hc ih => exact ih h.skip
  | case4 o p q l hc ih => exact ⟨h.1, h.2.1, ih h.2.2⟩
theorem onL_rat {a b c : Kn} (h : onL a b c = true) : ((b.1 : Rat) - (a.1 : Rat)) * ((c.2 : Rat) - (a.2 : Rat)) = ((c.1 : Rat) - (a.1 : Rat)) * ((b.2 : Rat) - (a.2 : Rat)) := by
  have e : ((b.1 - a.1) * (c.2 - a.2) : Int) = (c.1 - a.1) * (b.2 - a.2) := of_decide_eq_true h
  have := congrArg (fun z : Int => (z : Rat)) e
  simpa only [Rat.intCast_mul, Rat.intCast_sub] using this
/-- A knot on the line between its neighbours may go. -/
theorem at_skip {o p q : Kn} {l : List Kn} (h : Ri o (p :: q :: l)) (hc : onL o p q = true) (x : Rat) : atR o (q :: l) x = atR o (p :: q :: l) x := by
  have a := rat_lt h.1; have b := rat_lt h.2.2.1
  have e := onL_rat hc
  have h3 : (q.1 : Rat) - (p.1 : Rat) ≠ 0 := by grind
  have h4 : (p.1 : Rat) - (o.1 : Rat) ≠ 0 := by grind
  have h5 : (q.1 : Rat) - (o.1 : Rat) ≠ 0 := by grind
  simp only [atR]
  by_cases hq : (q.1 : Rat) < x
  · rw [if_pos hq, if_pos (by grind), if_pos hq]
  · rw [if_neg hq]
    by_cases hp : (p.1 : Rat) < x
    · rw [if_pos hp, if_neg hq]; unfold seg; grind
    · rw [if_neg hp]; unfold seg; grind
theorem at_lean {o : Kn} {l : List Kn} (h : Ri o l) (x : Rat) : atR o (lean o l) x = atR o l x := by
  fun_induction lean with
  | case1 => rfl
  | case2 => rfl
  | case3 o p q l hc ih => rw [ih h.skip, at_skip h hc]
  | case4 o p q l hc ih =>
    simp only [atR]
    split
    · have := ih h.2.2; simpa only [atR] using this
    · rfl
/-- No knot on a line with its neighbours. -/
def NL : Kn → List Kn → Prop
  | _, [] => True
  | _, [_] => True
  | o, p :: q :: l => onL o p q = false ∧ NL p (q :: l)
theorem lean_self {o : Kn} {l : List Kn} (h : NL o l) : lean o l = l := by
  fun_induction lean with
  | case1 => rfl
  | case2 => rfl
  | case3 o p q l hc ih => rw [h.1] at hc; cases hc
  | case4 o p q l hc ih => rw [ih h.2]
/-- The first knot that stays lies on the line to the first knot of all. -/
theorem lean_head {o p : Kn} {l : List Kn} (h : Ri o (p :: l)) : ∃ r m, lean o (p :: l) = r :: m ∧ o.1 < r.1 ∧ (p.1 - o.1) * (r.2 - o.2) = (r.1 - o.1) * (p.2 - o.2) := by
  induction l generalizing p with
  | nil => exact ⟨p, [], rfl, h.1, rfl⟩
  | cons q l ih =>
    simp only [lean]
    split
    · rename_i hc
      have e : (p.1 - o.1) * (q.2 - o.2) = (q.1 - o.1) * (p.2 - o.2) := of_decide_eq_true hc
      obtain ⟨r, m, e1, e2, e3⟩ := ih h.skip
      refine ⟨r, m, e1, e2, ?_⟩
      have hq : q.1 - o.1 ≠ 0 := by have := h.1; have := h.2.2.1; omega
      apply Int.eq_of_mul_eq_mul_left hq
      grind
    · exact ⟨p, _, rfl, h.1, rfl⟩
theorem lean_NL {o : Kn} {l : List Kn} (h : Ri o l) : NL o (lean o l) := by
  fun_induction lean with
  | case1 => trivial
  | case2 => trivial
  | case3 o p q l hc ih => exact ih h.skip
  | case4 o p q l hc ih =>
    obtain ⟨r, m, e1, e2, e3⟩ := lean_head h.2.2
    have hn := ih h.2.2
    rw [e1] at hn ⊢
    refine ⟨?_, hn⟩
    cases hr : onL o p r with
    | false => rfl
    | true =>
      exfalso
      apply hc
      have e : (p.1 - o.1) * (r.2 - o.2) = (r.1 - o.1) * (p.2 - o.2) := of_decide_eq_true hr
      refine decide_eq_true ?_
      have hp : r.1 - p.1 ≠ 0 := by omega
      apply Int.eq_of_mul_eq_mul_left hp
      grind
theorem lean_twice {o : Kn} {l : List Kn} (h : Ri o l) : lean o (lean o l) = lean o l := lean_self (lean_NL h)
/-- What lies on the first part's line is left out. -/
theorem lean_mid {o k p : Kn} {l : List Kn} (h : onL o k p = true) : lean o (k :: p :: l) = lean o (p :: l) := by
  simp only [lean]; rw [if_pos h]
end Go.Proofs.Ythhdpjkmjebjhab
