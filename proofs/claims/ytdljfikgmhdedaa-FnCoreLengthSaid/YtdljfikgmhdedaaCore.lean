/- Pieces of a core as lists of pairs of integers, and what the functions on them come to: plain mathematics, no program in it. -/
import Init
namespace Go.Proofs.Ytdljfikgmhdedaa

abbrev Pc := Int × Int
/-- A list of valid pieces, none of which begins above e or above the end of the one ahead. -/
def V : Int → List Pc → Prop
  | _, [] => True
  | e, p :: l => e ≤ p.1 ∧ p.1 < p.2 ∧ p.2 ≤ 30000 ∧ V p.2 l
def okP (p : Pc) : Bool := decide (0 ≤ p.1) && decide (p.2 ≤ 30000) && decide (p.1 < p.2)
def above (e : Int) : List Pc → Bool
  | [] => true
  | q :: _ => decide (e ≤ q.1)
/-- What a core asks of its pieces and of their order. -/
def valid : List Pc → Bool
  | [] => true
  | p :: l => okP p && above p.2 l && valid l
def isCore (l : List Pc) : Bool := decide (l.length ≤ 20) && valid l

theorem V.mono {e e' : Int} {l : List Pc} (h : V e l) (he : e' ≤ e) : V e' l := by
  cases l with
  | nil => trivial
  | cons p l => exact ⟨by have := h.1; omega, h.2⟩
theorem valid_above {e : Int} {l : List Pc} (he : 0 ≤ e) : V e l ↔ above e l = true ∧ valid l = true := by
  induction l generalizing e with
  | nil => simp [V, above, valid]
  | cons p l ih =>
    by_cases hp : 0 ≤ p.2
    · simp only [V, above, valid, okP, Bool.and_eq_true, decide_eq_true_eq, ih hp]
      constructor
      · rintro ⟨h1, h2, h3, h4, h5⟩; exact ⟨h1, ⟨⟨⟨by omega, h3⟩, h2⟩, h4⟩, h5⟩
      · rintro ⟨h1, ⟨⟨⟨h6, h3⟩, h2⟩, h4⟩, h5⟩; exact ⟨h1, h2, h3, h4, h5⟩
    · simp only [V, above, valid, okP, Bool.and_eq_true, decide_eq_true_eq]
      constructor
      · rintro ⟨h1, h2, _⟩; omega
      · rintro ⟨h1, ⟨⟨⟨h6, h3⟩, h2⟩, h4⟩, h5⟩; omega
theorem valid_iff {l : List Pc} : valid l = true ↔ V 0 l := by
  rw [valid_above (Int.le_refl 0)]
  constructor
  · intro h
    refine ⟨?_, h⟩
    cases l with
    | nil => rfl
    | cons p l => simp only [valid, okP, Bool.and_eq_true] at h; simpa [above] using h.1.1.1.1
  · exact fun h => h.2
theorem isCore_iff {l : List Pc} : isCore l = true ↔ l.length ≤ 20 ∧ V 0 l := by
  unfold isCore; rw [Bool.and_eq_true, decide_eq_true_eq, valid_iff]

theorem V.take {e : Int} {l : List Pc} (h : V e l) (k : Nat) : V e (l.take k) := by
  induction l generalizing e k with
  | nil => simpa using h
  | cons p l ih =>
    cases k with
    | zero => trivial
    | succ k => exact ⟨h.1, h.2.1, h.2.2.1, ih h.2.2.2 k⟩
theorem V.drop {e : Int} {l : List Pc} (h : V e l) (k : Nat) : V e (l.drop k) := by
  induction l generalizing e k with
  | nil => simpa using h
  | cons p l ih =>
    cases k with
    | zero => exact h
    | succ k => exact (ih h.2.2.2 k).mono (by have := h.1; have := h.2.1; omega)
theorem V.get {e : Int} {l : List Pc} (h : V e l) (i : Nat) (hi : i < l.length) : e ≤ l[i].1 ∧ l[i].1 < l[i].2 ∧ l[i].2 ≤ 30000 := by
  induction l generalizing e i with
  | nil => simp at hi
  | cons p l ih =>
    cases i with
    | zero => exact ⟨h.1, h.2.1, h.2.2.1⟩
    | succ i =>
      have := ih h.2.2.2 i (by simpa using hi)
      have h1 := h.1; have h2 := h.2.1
      simp only [List.getElem_cons_succ]
      omega
theorem V.step {e : Int} {l : List Pc} (h : V e l) (i j : Nat) (hij : i < j) (hj : j < l.length) : l[i].2 ≤ l[j].1 := by
  induction l generalizing e i j with
  | nil => simp at hj
  | cons p l ih =>
    cases j with
    | zero => omega
    | succ j =>
      cases i with
      | zero => exact (h.2.2.2.get j (by simpa using hj)).1
      | succ i => exact ih h.2.2.2 i j (by omega) (by simpa using hj)
theorem V_last {e : Int} {l : List Pc} (h : V e l) (hn : l ≠ []) : ¬ V e (l ++ [l.getLast hn]) := by
  intro k
  have hl : 0 < l.length := List.length_pos_iff.2 hn
  have h1 := k.step (l.length - 1) l.length (by omega) (by simp)
  have h2 := h.get (l.length - 1) (by omega)
  rw [List.getElem_append_left (by omega)] at h1
  simp [List.getLast_eq_getElem] at h1
  omega

/-- The sum of the lengths. -/
def len : List Pc → Int
  | [] => 0
  | p :: l => (p.2 - p.1) + len l
theorem len_append (l m : List Pc) : len (l ++ m) = len l + len m := by
  induction l with
  | nil => simp [len]
  | cons p l ih => simp only [List.cons_append, len, ih]; omega
theorem len_take_drop (l : List Pc) (k : Nat) : len (l.take k) + len (l.drop k) = len l := by
  rw [← len_append, List.take_append_drop]
theorem len_ge {e : Int} {l : List Pc} (h : V e l) : (l.length : Int) ≤ len l := by
  induction l generalizing e with
  | nil => simp [len]
  | cons p l ih => have := ih h.2.2.2; have := h.2.1; simp only [len, List.length_cons]; omega
theorem len_bound {e : Int} {l : List Pc} (h : V e l) (he : e ≤ 30000) : len l ≤ 30000 - e := by
  induction l generalizing e with
  | nil => simp [len]; omega
  | cons p l ih => have := ih h.2.2.2 h.2.2.1; have := h.1; simp only [len]; omega

/-- The index of the piece that has the depth d, or -1. -/
def ix (d : Int) : List Pc → Int
  | [] => -1
  | p :: l => if p.1 ≤ d ∧ d < p.2 then 0 else if ix d l < 0 then -1 else ix d l + 1
def hd (d : Int) : List Pc → Bool
  | [] => false
  | p :: l => (decide (p.1 ≤ d) && decide (d < p.2)) || hd d l
theorem ix_range (d : Int) (l : List Pc) : -1 ≤ ix d l ∧ ix d l < l.length := by
  induction l with
  | nil => simp [ix]
  | cons p l ih => simp only [ix, List.length_cons]; split <;> (try split) <;> omega
theorem ix_cases (d : Int) (p : Pc) (l : List Pc) : (p.1 ≤ d ∧ d < p.2 ∧ ix d (p :: l) = 0) ∨ (¬ (p.1 ≤ d ∧ d < p.2) ∧ ix d l < 0 ∧ ix d (p :: l) = -1) ∨ (¬ (p.1 ≤ d ∧ d < p.2) ∧ 0 ≤ ix d l ∧ ix d (p :: l) = ix d l + 1) := by
  simp only [ix]
  by_cases h : p.1 ≤ d ∧ d < p.2
  · exact .inl ⟨h.1, h.2, if_pos h⟩
  · rw [if_neg h]
    by_cases k : ix d l < 0
    · exact .inr (.inl ⟨h, k, if_pos k⟩)
    · exact .inr (.inr ⟨h, by omega, if_neg k⟩)
theorem hd_iff (d : Int) (l : List Pc) : hd d l = true ↔ 0 ≤ ix d l := by
  induction l with
  | nil => simp [hd, ix]
  | cons p l ih =>
    simp only [hd, Bool.or_eq_true, Bool.and_eq_true, decide_eq_true_eq, ih]
    rcases ix_cases d p l with h | h | h <;> omega
theorem hd_ix (d : Int) (l : List Pc) : hd d l = decide (0 ≤ ix d l) := by
  rw [Bool.eq_iff_iff, hd_iff, decide_eq_true_eq]
theorem V.hd_ge {e d : Int} {l : List Pc} (h : V e l) (k : hd d l = true) : e ≤ d := by
  induction l generalizing e with
  | nil => simp [hd] at k
  | cons p l ih =>
    simp only [hd, Bool.or_eq_true, Bool.and_eq_true, decide_eq_true_eq] at k
    have h1 := h.1; have h2 := h.2.1
    rcases k with k | k
    · omega
    · have := ih h.2.2.2 k; omega
theorem ix_spec {e d : Int} {l : List Pc} (h : V e l) (i : Nat) (hi : i < l.length) : (l[i].1 ≤ d ∧ d < l[i].2) ↔ (i : Int) = ix d l := by
  induction l generalizing e i with
  | nil => simp at hi
  | cons p l ih =>
    have hv := h.2.2.2
    simp only [ix]
    have hr := ix_range d l
    by_cases hp : p.1 ≤ d ∧ d < p.2
    · rw [if_pos hp]
      cases i with
      | zero => simpa using hp
      | succ i =>
        have := (hv.get i (by simpa using hi)).1
        simp only [List.getElem_cons_succ]
        constructor
        · intro k; omega
        · intro k; omega
    · rw [if_neg hp]
      cases i with
      | zero =>
        simp only [List.getElem_cons_zero]
        constructor
        · intro k; exact absurd k hp
        · intro k; split at k <;> omega
      | succ i =>
        simp only [List.getElem_cons_succ]
        rw [ih hv i (by simpa using hi)]
        split <;> omega

/-- The gaps behind the depth e. -/
def gp : Int → List Pc → List Pc
  | _, [] => []
  | e, q :: r => if e < q.1 then (e, q.1) :: gp q.2 r else gp q.2 r
def gaps : List Pc → List Pc
  | [] => []
  | p :: l => gp p.2 l
/-- Where the list ends. -/
def lastB : Int → List Pc → Int
  | e, [] => e
  | _, q :: r => lastB q.2 r
theorem lastB_ge {e : Int} {l : List Pc} (h : V e l) : e ≤ lastB e l := by
  induction l generalizing e with
  | nil => exact Int.le_refl _
  | cons p l ih => have := ih h.2.2.2; have := h.1; have := h.2.1; simp only [lastB]; omega
theorem lastB_get {e : Int} {l : List Pc} (hl : 0 < l.length) : lastB e l = (l[l.length - 1]'(by omega)).2 := by
  induction l generalizing e with
  | nil => simp at hl
  | cons p l ih =>
    simp only [lastB]
    cases l with
    | nil => rfl
    | cons q r => rw [ih (by simp)]; simp
theorem gp_V {e : Int} {l : List Pc} (h : V e l) : V e (gp e l) := by
  induction l generalizing e with
  | nil => trivial
  | cons p l ih =>
    have h1 := h.1; have h2 := h.2.1; have h3 := h.2.2.1
    have := ih h.2.2.2
    simp only [gp]
    split
    · exact ⟨Int.le_refl _, by assumption, by show p.1 ≤ 30000; omega, this.mono (by show p.1 ≤ p.2; omega)⟩
    · exact this.mono (by omega)
theorem gp_length (e : Int) (l : List Pc) : (gp e l).length ≤ l.length := by
  induction l generalizing e with
  | nil => simp [gp]
  | cons p l ih => have := ih p.2; simp only [gp]; split <;> simp <;> omega
theorem gaps_V {e : Int} {l : List Pc} (h : V e l) : V e (gaps l) := by
  cases l with
  | nil => trivial
  | cons p l => exact (gp_V h.2.2.2).mono (by have := h.1; have := h.2.1; omega)
theorem gaps_length {l : List Pc} (h : l ≠ []) : (gaps l).length < l.length := by
  cases l with
  | nil => exact absurd rfl h
  | cons p l => have := gp_length p.2 l; simp only [gaps, List.length_cons]; omega
theorem gaps_length_le (l : List Pc) : (gaps l).length ≤ l.length := by
  cases l with
  | nil => simp [gaps]
  | cons p l => have := gp_length p.2 l; simp only [gaps, List.length_cons]; omega
theorem gp_len {e : Int} {l : List Pc} (h : V e l) : len (gp e l) + len l = lastB e l - e := by
  induction l generalizing e with
  | nil => simp [gp, len, lastB]
  | cons p l ih =>
    have := ih h.2.2.2
    have h1 := h.1
    simp only [gp, lastB]
    split <;> simp only [len] <;> omega
theorem gaps_len {e : Int} {p : Pc} {l : List Pc} (h : V e (p :: l)) : len (p :: l) + len (gaps (p :: l)) = lastB p.2 l - p.1 := by
  have := gp_len h.2.2.2
  simp only [gaps, len]; omega
theorem gp_has {e d : Int} {l : List Pc} (h : V e l) (h0 : e ≤ d) (h1 : d < lastB e l) : hd d l = !hd d (gp e l) := by
  induction l generalizing e with
  | nil => simp [lastB] at h1; omega
  | cons p l ih =>
    have a1 := h.1; have a2 := h.2.1
    have hv := h.2.2.2
    simp only [lastB] at h1
    simp only [hd, gp]
    by_cases k : p.2 ≤ d
    · have := ih hv k h1
      have e1 : (decide (p.1 ≤ d) && decide (d < p.2)) = false := by simp; omega
      rw [e1, Bool.false_or, this]
      split
      · have e2 : (decide (e ≤ d) && decide (d < p.1)) = false := by simp; omega
        simp only [hd, e2, Bool.false_or]
      · rfl
    · have e3 : ∀ m : List Pc, V p.2 m → hd d m = false := fun m hm => by
        cases hx : hd d m
        · rfl
        · have := hm.hd_ge hx; omega
      rw [e3 l hv]
      have e4 := e3 _ (gp_V hv)
      split
      · simp only [hd, e4, Bool.or_false]
        by_cases q : p.1 ≤ d
        · have f1 : (decide (p.1 ≤ d) && decide (d < p.2)) = true := by simp; omega
          have f2 : (decide (e ≤ d) && decide (d < p.1)) = false := by simp; omega
          rw [f1, f2]; rfl
        · have f1 : (decide (p.1 ≤ d) && decide (d < p.2)) = false := by simp; omega
          have f2 : (decide (e ≤ d) && decide (d < p.1)) = true := by simp; omega
          rw [f1, f2]; rfl
      · have f1 : (decide (p.1 ≤ d) && decide (d < p.2)) = true := by simp; omega
        rw [f1, e4]; rfl
theorem gaps_has {e d : Int} {p : Pc} {l : List Pc} (h : V e (p :: l)) (h0 : p.1 ≤ d) (h1 : d < lastB p.2 l) : hd d (p :: l) = !hd d (gaps (p :: l)) := by
  have hv := h.2.2.2
  by_cases k : p.2 ≤ d
  · have := gp_has hv k h1
    have e1 : (decide (p.1 ≤ d) && decide (d < p.2)) = false := by simp; omega
    simp only [hd, gaps, e1, Bool.false_or, this]
  · have e1 : (decide (p.1 ≤ d) && decide (d < p.2)) = true := by simp; omega
    have : hd d (gp p.2 l) = false := by
      cases hx : hd d (gp p.2 l)
      · rfl
      · have := (gp_V hv).hd_ge hx; omega
    simp only [hd, gaps, e1, this]; rfl

/-- Pieces that touch are one piece. -/
def jn : Pc → List Pc → List Pc
  | p, [] => [p]
  | p, q :: r => if p.2 = q.1 then jn (p.1, q.2) r else p :: jn q r
def join : List Pc → List Pc
  | [] => []
  | p :: l => jn p l
/-- Valid pieces none of which touches the one ahead. -/
def Sp : Int → List Pc → Prop
  | _, [] => True
  | e, p :: l => e < p.1 ∧ p.1 < p.2 ∧ p.2 ≤ 30000 ∧ Sp p.2 l
theorem Sp.V {e : Int} {l : List Pc} (h : Sp e l) : V e l := by
  induction l generalizing e with
  | nil => trivial
  | cons p l ih => exact ⟨by have := h.1; omega, h.2.1, h.2.2.1, ih h.2.2.2⟩
theorem jn_shape (p : Pc) {l : List Pc} (h : V p.2 l) (hp : p.1 < p.2) (hb : p.2 ≤ 30000) : ∃ b t, jn p l = (p.1, b) :: t ∧ p.2 ≤ b ∧ b ≤ 30000 ∧ Sp b t := by
  induction l generalizing p with
  | nil => exact ⟨p.2, [], rfl, Int.le_refl _, hb, trivial⟩
  | cons q r ih =>
    have h1 := h.1; have h2 := h.2.1; have h3 := h.2.2.1
    simp only [jn]
    split
    · obtain ⟨b, t, e, k1, k2, k3⟩ := ih (p.1, q.2) h.2.2.2 (by show p.1 < q.2; omega) h3
      exact ⟨b, t, e, by simp only [] at k1; omega, k2, k3⟩
    · obtain ⟨b, t, e, k1, k2, k3⟩ := ih q h.2.2.2 h2 h3
      exact ⟨p.2, (q.1, b) :: t, by rw [e], Int.le_refl _, hb, by show p.2 < q.1; omega, by show q.1 < b; omega, k2, k3⟩
theorem jn_gp (p : Pc) {l : List Pc} (h : V p.2 l) (hp : p.1 < p.2) (hb : p.2 ≤ 30000) : gaps (jn p l) = gp p.2 l := by
  induction l generalizing p with
  | nil => rfl
  | cons q r ih =>
    have h1 := h.1; have h2 := h.2.1; have h3 := h.2.2.1
    simp only [jn, gp]
    split
    · rw [if_neg (by omega)]
      exact ih (p.1, q.2) h.2.2.2 (by show p.1 < q.2; omega) h3
    · rw [if_pos (by omega)]
      have := ih q h.2.2.2 h2 h3
      obtain ⟨b, t, e, k1, k2, k3⟩ := jn_shape q h.2.2.2 h2 h3
      rw [e] at this ⊢
      simp only [gaps] at this
      simp only [gaps, gp]
      rw [if_pos (by omega), this]
theorem jn_len (p : Pc) (l : List Pc) : len (jn p l) = len (p :: l) := by
  induction l generalizing p with
  | nil => rfl
  | cons q r ih =>
    simp only [jn]
    split
    · rw [ih]; simp only [len]; omega
    · simp only [len, ih]
theorem jn_sp {p : Pc} {l : List Pc} (h : Sp p.2 l) : jn p l = p :: l := by
  induction l generalizing p with
  | nil => rfl
  | cons q r ih =>
    have h1 := h.1
    simp only [jn]
    rw [if_neg (by omega), ih h.2.2.2]
theorem jn_length (p : Pc) {l : List Pc} (h : V p.2 l) : (jn p l).length = (gp p.2 l).length + 1 := by
  induction l generalizing p with
  | nil => rfl
  | cons q r ih =>
    have h1 := h.1
    simp only [jn, gp]
    split
    · rw [if_neg (by omega)]; exact ih (p.1, q.2) h.2.2.2
    · rw [if_pos (by omega), List.length_cons, List.length_cons, ih q h.2.2.2]
theorem jn_length_le (p : Pc) (l : List Pc) : (jn p l).length ≤ l.length + 1 := by
  induction l generalizing p with
  | nil => simp [jn]
  | cons q r ih => simp only [jn]; split <;> simp only [List.length_cons] <;> (have := ih (p.1, q.2); have := ih q; omega)
theorem join_V {e : Int} {l : List Pc} (h : V e l) : V e (join l) := by
  cases l with
  | nil => trivial
  | cons p l =>
    have h1 := h.1; have h2 := h.2.1
    obtain ⟨b, t, e, k1, k2, k3⟩ := jn_shape p h.2.2.2 h.2.1 h.2.2.1
    simp only [join, e]
    exact ⟨h1, by show p.1 < b; omega, k2, k3.V⟩
theorem join_length_le (l : List Pc) : (join l).length ≤ l.length := by
  cases l with
  | nil => simp [join]
  | cons p l => exact jn_length_le p l
theorem join_len (l : List Pc) : len (join l) = len l := by
  cases l with
  | nil => rfl
  | cons p l => exact jn_len p l
theorem join_gaps {e : Int} {l : List Pc} (h : V e l) : gaps (join l) = gaps l := by
  cases l with
  | nil => rfl
  | cons p l => exact jn_gp p h.2.2.2 h.2.1 h.2.2.1
theorem join_join {e : Int} {l : List Pc} (h : V e l) : join (join l) = join l := by
  cases l with
  | nil => rfl
  | cons p l =>
    obtain ⟨b, t, e, k1, k2, k3⟩ := jn_shape p h.2.2.2 h.2.1 h.2.2.1
    simp only [join, e]
    exact jn_sp (p := (p.1, b)) k3
theorem Sp.apart {e : Int} {l : List Pc} (h : Sp e l) (i : Nat) (h0 : 0 < i) (hi : i < l.length) : l[i - 1].2 ≠ l[i].1 := by
  induction l generalizing e i with
  | nil => simp at hi
  | cons p l ih =>
    match i, h0 with
    | 1, _ =>
      cases l with
      | nil => simp at hi
      | cons q r => have := h.2.2.2.1; show p.2 ≠ q.1; omega
    | j + 2, _ => exact ih h.2.2.2 (j + 1) (by omega) (by simp at hi; omega)
theorem join_sp {e : Int} {l : List Pc} (h : V e l) : Sp (e - 1) (join l) := by
  cases l with
  | nil => trivial
  | cons p l =>
    have h1 := h.1; have h2 := h.2.1
    obtain ⟨b, t, e, k1, k2, k3⟩ := jn_shape p h.2.2.2 h.2.1 h.2.2.1
    simp only [join, e]
    exact ⟨by show _ < p.1; omega, by show p.1 < b; omega, k2, k3⟩
theorem join_apart {e : Int} {l : List Pc} (h : V e l) (i : Nat) (h0 : 0 < i) (hi : i < (join l).length) : (join l)[i - 1].2 ≠ (join l)[i].1 := (join_sp h).apart i h0 hi
theorem gp_gp {q : Pc} {r : List Pc} (hq : q.1 < q.2) (h : Sp q.2 r) : gp q.1 (gp q.2 r) = (q :: r).dropLast := by
  induction r generalizing q with
  | nil => rfl
  | cons s t ih =>
    have h1 := h.1
    simp only [gp]
    rw [if_pos h1]
    simp only [gp]
    rw [if_pos hq, ih h.2.1 h.2.2.2]
    simp [List.dropLast]
theorem gaps_gaps {e : Int} {l : List Pc} (h : V e l) (hn : gaps l ≠ []) : gaps (gaps l) = (join l).tail.dropLast ∧ (join l).length = (gaps l).length + 1 := by
  cases l with
  | nil => exact absurd rfl hn
  | cons p l =>
    refine ⟨?_, jn_length p h.2.2.2⟩
    obtain ⟨b, t, e, k1, k2, k3⟩ := jn_shape p h.2.2.2 h.2.1 h.2.2.1
    have hg := jn_gp p h.2.2.2 h.2.1 h.2.2.1
    simp only [gaps] at hn
    simp only [gaps, join]
    rw [← hg, e] at hn ⊢
    simp only [gaps] at hn ⊢
    cases t with
    | nil => exact absurd rfl hn
    | cons q r =>
      have q1 := k3.1
      simp only [gp, if_pos q1]
      exact gp_gp k3.2.1 k3.2.2.2
theorem jn_ix (p : Pc) {l : List Pc} (d : Int) (h : V p.2 l) (hp : p.1 < p.2) : ix d (jn p l) ≤ ix d (p :: l) ∧ (0 ≤ ix d (jn p l) ↔ 0 ≤ ix d (p :: l)) := by
  induction l generalizing p with
  | nil => exact ⟨Int.le_refl _, Iff.rfl⟩
  | cons q r ih =>
    have h1 := h.1; have h2 := h.2.1
    simp only [jn]
    split
    · obtain ⟨k1, k2⟩ := ih (p.1, q.2) h.2.2.2 (by show p.1 < q.2; omega)
      generalize ix d (jn (p.1, q.2) r) = x at k1 k2 ⊢
      have c1 := ix_cases d (p.1, q.2) r
      have c2 := ix_cases d q r
      have c3 := ix_cases d p (q :: r)
      simp only [] at c1
      omega
    · obtain ⟨k1, k2⟩ := ih q h.2.2.2 h2
      have c1 := ix_cases d p (jn q r)
      have c2 := ix_cases d p (q :: r)
      omega
theorem join_ix {e : Int} {l : List Pc} (d : Int) (h : V e l) : ix d (join l) ≤ ix d l ∧ (0 ≤ ix d (join l) ↔ 0 ≤ ix d l) := by
  cases l with
  | nil => exact ⟨Int.le_refl _, Iff.rfl⟩
  | cons p l => exact jn_ix p d h.2.2.2 h.2.1

/-- The list whose piece with the depth d, if it doesn't begin there, is cut into two. -/
def ct (d : Int) : List Pc → Option (List Pc)
  | [] => none
  | p :: l => if p.1 ≤ d ∧ d < p.2 then (if p.1 = d then none else some ((p.1, d) :: (d, p.2) :: l)) else (ct d l).map (p :: ·)
theorem ct_ind {P : List Pc → List Pc → Prop} {d : Int} (h0 : ∀ p l, p.1 < d → d < p.2 → P (p :: l) ((p.1, d) :: (d, p.2) :: l))
    (h1 : ∀ p l m, ¬ (p.1 ≤ d ∧ d < p.2) → ct d l = some m → P l m → P (p :: l) (p :: m)) : ∀ {l m : List Pc}, ct d l = some m → P l m := by
  intro l
  induction l with
  | nil => intro m h; simp [ct] at h
  | cons p l ih =>
    intro m h
    simp only [ct] at h
    split at h
    · split at h
      · simp at h
      · simp only [Option.some.injEq] at h
        subst h
        exact h0 p l (by omega) (by omega)
    · cases hl : ct d l with
      | none => rw [hl] at h; simp at h
      | some m' =>
        rw [hl] at h
        simp only [Option.map_some, Option.some.injEq] at h
        subst h
        exact h1 p l m' (by assumption) hl (ih hl)
theorem ct_len {d : Int} {l m : List Pc} (h : ct d l = some m) : len m = len l ∧ m.length = l.length + 1 :=
  ct_ind (P := fun l m => len m = len l ∧ m.length = l.length + 1) (fun p l _ _ => ⟨by simp only [len]; omega, rfl⟩)
    (fun p l m _ _ ih => ⟨by simp only [len, ih.1], by simp only [List.length_cons, ih.2]⟩) h
theorem ct_V {d e : Int} {l m : List Pc} (h : ct d l = some m) (hv : V e l) : V e m :=
  ct_ind (P := fun l m => ∀ e, V e l → V e m) (fun p l h1 h2 e hv => ⟨hv.1, h1, by have := hv.2.2.1; show d ≤ 30000; omega, Int.le_refl _, h2, hv.2.2⟩)
    (fun p l m _ _ ih e hv => ⟨hv.1, hv.2.1, hv.2.2.1, ih _ hv.2.2.2⟩) h e hv
theorem ct_twice {d : Int} {l m : List Pc} (h : ct d l = some m) : ct d m = none :=
  ct_ind (P := fun _ m => ct d m = none) (fun p l h1 h2 => by simp only [ct]; rw [if_neg (by omega), if_pos (by omega)]; rfl)
    (fun p l m k _ ih => by simp only [ct]; rw [if_neg k, ih]; rfl) h
theorem ct_ge {d e : Int} {l m : List Pc} (h : ct d l = some m) (hv : V e l) : e ≤ d :=
  ct_ind (P := fun l _ => ∀ e, V e l → e ≤ d) (fun p l h1 h2 e hv => by have := hv.1; omega)
    (fun p l m _ _ ih e hv => by have := ih _ hv.2.2.2; have := hv.1; have := hv.2.1; omega) h e hv
theorem jn_ct {d : Int} {l m : List Pc} (h : ct d l = some m) (p : Pc) : jn p m = jn p l :=
  ct_ind (P := fun l m => ∀ p, jn p m = jn p l) (fun q r h1 h2 p => by
      simp only [jn]
      split
      · simp
      · simp)
    (fun q r m _ _ ih p => by simp only [jn]; split <;> simp [ih]) h p
theorem join_ct {d : Int} {l m : List Pc} (h : ct d l = some m) : join m = join l :=
  ct_ind (P := fun l m => join m = join l) (fun q r h1 h2 => by simp [join, jn])
    (fun q r m _ hm ih => by simp only [join]; exact jn_ct hm q) h
theorem ct_ix {d e x : Int} {l m : List Pc} (h : ct d l = some m) (hv : V e l) : (ix x l < 0 ∨ x < d → ix x m = ix x l) ∧ (¬ (ix x l < 0 ∨ x < d) → ix x m = ix x l + 1) := by
  refine ct_ind (P := fun l m => ∀ e, V e l → (ix x l < 0 ∨ x < d → ix x m = ix x l) ∧ (¬ (ix x l < 0 ∨ x < d) → ix x m = ix x l + 1)) ?_ ?_ h e hv
  · intro p l h1 h2 e hv
    have hg : hd x l = true → p.2 ≤ x := hv.2.2.2.hd_ge
    rw [hd_iff] at hg
    have hr := ix_range x l
    have c1 := ix_cases x p l
    have c2 := ix_cases x (d, p.2) l
    have c3 := ix_cases x (p.1, d) ((d, p.2) :: l)
    simp only [] at c2 c3
    omega
  · intro p l m hp hm ih e hv
    obtain ⟨i1, i2⟩ := ih _ hv.2.2.2
    have hd' := ct_ge hm hv.2.2.2
    have hr := ix_range x l
    have hr' := ix_range x m
    have c1 := ix_cases x p l
    have c2 := ix_cases x p m
    omega
theorem ct_none {d : Int} {l : List Pc} : ct d l = none ↔ ix d l < 0 ∨ ∃ (i : Nat) (h : i < l.length), (i : Int) = ix d l ∧ l[i].1 = d := by
  induction l with
  | nil => simp [ct, ix]
  | cons p l ih =>
    simp only [ct, ix]
    have hr := ix_range d l
    by_cases c : p.1 ≤ d ∧ d < p.2
    · rw [if_pos c, if_pos c]
      constructor
      · intro h
        split at h
        · exact .inr ⟨0, by simp, rfl, by simpa⟩
        · simp at h
      · rintro (h | ⟨i, hi, h1, h2⟩)
        · simp at h
        · obtain rfl : i = 0 := by omega
          rw [if_pos (by simpa using h2)]
    · rw [if_neg c, if_neg c, Option.map_eq_none_iff, ih]
      constructor
      · rintro (h | ⟨i, hi, h1, h2⟩)
        · left; rw [if_pos h]; omega
        · right; exact ⟨i + 1, by simpa using hi, by rw [if_neg (by omega)]; omega, by simpa using h2⟩
      · rintro (h | ⟨i, hi, h1, h2⟩)
        · left; split at h <;> omega
        · by_cases k : ix d l < 0
          · exact .inl k
          · rw [if_neg k] at h1
            right
            obtain ⟨j, rfl⟩ : ∃ j, i = j + 1 := ⟨i - 1, by omega⟩
            exact ⟨j, by simpa using hi, by omega, by simpa using h2⟩

/-- What a list has from the depth t on to the depth b. -/
def bt (t b : Int) : List Pc → List Pc
  | [] => []
  | p :: l => if max p.1 t < min p.2 b then (max p.1 t, min p.2 b) :: bt t b l else bt t b l
theorem bt_length (t b : Int) (l : List Pc) : (bt t b l).length ≤ l.length := by
  induction l with
  | nil => simp [bt]
  | cons p l ih => simp only [bt]; split <;> simp <;> omega
theorem bt_V {t b e : Int} {l : List Pc} (h : V e l) : V e (bt t b l) := by
  induction l generalizing e with
  | nil => trivial
  | cons p l ih =>
    have h1 := h.1; have h2 := h.2.1; have h3 := h.2.2.1
    have := ih h.2.2.2
    simp only [bt]
    split
    · exact ⟨by show e ≤ max p.1 t; omega, by assumption, by show min p.2 b ≤ 30000; omega, this.mono (by show min p.2 b ≤ p.2; omega)⟩
    · exact this.mono (by omega)
theorem bt_hd (t b d : Int) (l : List Pc) : hd d (bt t b l) = (hd d l && decide (t ≤ d) && decide (d < b)) := by
  induction l with
  | nil => rfl
  | cons p l ih =>
    simp only [bt]
    split
    · simp only [hd, ih]
      rw [Bool.eq_iff_iff]
      simp only [Bool.or_eq_true, Bool.and_eq_true, decide_eq_true_eq]
      constructor
      · rintro (h | ⟨⟨h, h'⟩, h''⟩)
        · exact ⟨⟨.inl (by omega), by omega⟩, by omega⟩
        · exact ⟨⟨.inr h, h'⟩, h''⟩
      · rintro ⟨⟨h | h, h'⟩, h''⟩
        · exact .inl (by omega)
        · exact .inr ⟨⟨h, h'⟩, h''⟩
    · rw [ih, Bool.eq_iff_iff]
      simp only [hd, Bool.or_eq_true, Bool.and_eq_true, decide_eq_true_eq]
      constructor
      · rintro ⟨⟨h, h'⟩, h''⟩; exact ⟨⟨.inr h, h'⟩, h''⟩
      · rintro ⟨⟨h | h, h'⟩, h''⟩
        · omega
        · exact ⟨⟨h, h'⟩, h''⟩
theorem bt_len {t b e : Int} {l : List Pc} (h : V e l) (hb : max t e ≤ max b e) : len (bt t b l) ≤ max b e - max t e := by
  induction l generalizing e with
  | nil => simp [bt, len]; omega
  | cons p l ih =>
    have h1 := h.1; have h2 := h.2.1
    by_cases hp : max t p.2 ≤ max b p.2
    · have := ih h.2.2.2 hp
      simp only [bt]
      split
      · show (min p.2 b - max p.1 t) + len (bt t b l) ≤ _; omega
      · omega
    · omega
theorem bt_split {t d b : Int} (l : List Pc) (h1 : t ≤ d) (h2 : d ≤ b) : len (bt t d l) + len (bt d b l) = len (bt t b l) := by
  induction l with
  | nil => rfl
  | cons p l ih =>
    simp only [bt]
    split <;> split <;> split <;> (try simp only [len]) <;> omega
theorem bt_all {t b e : Int} {l : List Pc} (h : V e l) (ht : t ≤ e) (hb : lastB e l ≤ b) : bt t b l = l := by
  induction l generalizing e with
  | nil => rfl
  | cons p l ih =>
    have h1 := h.1; have h2 := h.2.1
    have h3 := lastB_ge h.2.2.2
    simp only [lastB] at hb
    simp only [bt]
    rw [if_pos (by omega), ih h.2.2.2 (by omega) hb, show max p.1 t = p.1 by omega, show min p.2 b = p.2 by omega]
theorem lastB_le {e : Int} {l : List Pc} (h : V e l) (he : e ≤ 30000) : lastB e l ≤ 30000 := by
  induction l generalizing e with
  | nil => exact he
  | cons p l ih => exact ih h.2.2.2 h.2.2.1
theorem bt_whole {l : List Pc} (h : V 0 l) : bt 0 30000 l = l := bt_all h (Int.le_refl 0) (lastB_le h (by omega))
theorem bt_none (t : Int) (l : List Pc) : bt t t l = [] := by
  induction l with
  | nil => rfl
  | cons p l ih => simp only [bt]; rw [if_neg (by omega), ih]
theorem bt_above {t d e : Int} {l : List Pc} (h : V e l) (hd : d ≤ e) : bt t d l = [] := by
  induction l generalizing e with
  | nil => rfl
  | cons p l ih => have h1 := h.1; have h2 := h.2.1; simp only [bt]; rw [if_neg (by omega), ih h.2.2.2 (by omega)]
theorem bt_bt {t b d e : Int} (l : List Pc) (h1 : t ≤ d) (h2 : e ≤ b) : bt d e (bt t b l) = bt d e l := by
  induction l with
  | nil => rfl
  | cons p l ih =>
    simp only [bt]
    by_cases c : max p.1 t < min p.2 b
    · rw [if_pos c]
      simp only [bt]
      rw [ih, show max (max p.1 t) d = max p.1 d by omega, show min (min p.2 b) e = min p.2 e by omega]
    · rw [if_neg c, ih, if_neg (by omega)]
theorem bt_ct {d e : Int} {l m : List Pc} (h : ct d l = some m) (hv : V e l) (he : 0 ≤ e) : bt 0 d m ++ bt d 30000 m = m := by
  refine ct_ind (P := fun l m => ∀ e, 0 ≤ e → V e l → bt 0 d m ++ bt d 30000 m = m) ?_ ?_ h e he hv
  · intro p l h1 h2 e he hv
    have a1 := hv.1; have a3 := hv.2.2.1
    simp only [bt]
    rw [if_pos (by omega), if_neg (by omega), if_neg (by omega), if_pos (by omega), bt_above hv.2.2.2 (by omega), bt_all hv.2.2.2 (by omega) (lastB_le hv.2.2.2 a3),
      show max p.1 0 = p.1 by omega, show min d d = d by omega, show max d d = d by omega, show min p.2 30000 = p.2 by omega]
    rfl
  · intro p l m hp hm ih e he hv
    have a1 := hv.1; have a2 := hv.2.1; have a3 := hv.2.2.1
    have hd := ct_ge hm hv.2.2.2
    simp only [bt]
    rw [if_pos (by omega), if_neg (by omega), show max p.1 0 = p.1 by omega, show min p.2 d = p.2 by omega, List.cons_append, ih p.2 (by omega) hv.2.2.2]
theorem bt_unit {d e : Int} {l : List Pc} (h : V e l) : (hd d l = true → len (bt d (d + 1) l) = 1) ∧ (hd d l = false → len (bt d (d + 1) l) = 0) := by
  induction l generalizing e with
  | nil => exact ⟨fun h => by simp [hd] at h, fun _ => rfl⟩
  | cons p l ih =>
    have h1 := h.1; have h2 := h.2.1
    obtain ⟨i1, i2⟩ := ih h.2.2.2
    have hk := h.2.2.2.hd_ge (d := d)
    have hh : hd d (p :: l) = ((decide (p.1 ≤ d) && decide (d < p.2)) || hd d l) := rfl
    by_cases c : p.1 ≤ d ∧ d < p.2
    · have k : hd d l = false := by
        cases hx : hd d l
        · rfl
        · have := hk hx; omega
      have e1 : hd d (p :: l) = true := by rw [hh]; simp [c]
      have e2 : bt d (d + 1) (p :: l) = (max p.1 d, min p.2 (d + 1)) :: bt d (d + 1) l := if_pos (by omega)
      rw [e1, e2]
      have := i2 k
      exact ⟨fun _ => by show (min p.2 (d + 1) - max p.1 d) + len (bt d (d + 1) l) = 1; omega, fun h => by simp at h⟩
    · have k : (decide (p.1 ≤ d) && decide (d < p.2)) = false := by simpa using c
      have e1 : hd d (p :: l) = hd d l := by rw [hh, k, Bool.false_or]
      have e2 : bt d (d + 1) (p :: l) = bt d (d + 1) l := if_neg (by omega)
      rw [e1, e2]
      exact ⟨i1, i2⟩
theorem bt_step {t d e : Int} {l : List Pc} (h : V e l) (ht : t ≤ d) :
    (hd d l = true → len (bt t (d + 1) l) = len (bt t d l) + 1) ∧ (hd d l = false → len (bt t (d + 1) l) = len (bt t d l)) := by
  have h1 := bt_unit (d := d) h
  have h2 := bt_split l ht (show d ≤ d + 1 by omega)
  exact ⟨fun k => by have := h1.1 k; omega, fun k => by have := h1.2 k; omega⟩
end Go.Proofs.Ytdljfikgmhdedaa
