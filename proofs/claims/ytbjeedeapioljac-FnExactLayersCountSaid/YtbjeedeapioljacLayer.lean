/- Layers of years: plain mathematics, no program in it. A layer: its depth, whether it is sure. -/
import Derived.Test.YtbjeedeapioljacRows
namespace Go.Proofs.Ytbjeedeapioljac
abbrev LL := List (Int × Bool)

/-- Depths that rise, all greater than c. -/
def up : Int → LL → Bool
  | _, [] => true
  | c, x :: l => decide (c < x.1) && up x.1 l
/-- The last depth, or c. -/
def lastOf : Int → LL → Int
  | c, [] => c
  | _, x :: l => lastOf x.1 l
def good (l : LL) : Bool := up (-1) l && decide (lastOf (-1) l ≤ 30000)
def isLay (l : LL) : Bool := decide (l.length ≤ 40) && good l
theorem up_snoc (c : Int) (l : LL) (x : Int × Bool) : up c (l ++ [x]) = (up c l && decide (lastOf c l < x.1)) := by
  induction l generalizing c with
  | nil => simp only [List.nil_append, up, lastOf, Bool.and_true, Bool.true_and]; exact decide_eq_decide.2 Iff.rfl
  | cons y l ih => simp only [List.cons_append, up, lastOf, ih, Bool.and_assoc]; congr 2
theorem lastOf_snoc (c : Int) (l : LL) (x : Int × Bool) : lastOf c (l ++ [x]) = x.1 := by
  induction l generalizing c with
  | nil => rfl
  | cons y l ih => simp [lastOf, ih]
theorem up_append (c : Int) (l m : LL) : up c (l ++ m) = (up c l && up (lastOf c l) m) := by
  induction l generalizing c with
  | nil => simp [up, lastOf]
  | cons y l ih => simp [up, lastOf, ih, Bool.and_assoc]
theorem lastOf_append (c : Int) (l m : LL) : lastOf c (l ++ m) = lastOf (lastOf c l) m := by
  induction l generalizing c with
  | nil => rfl
  | cons y l ih => simp [lastOf, ih]
theorem up_le {c : Int} {l : LL} (h : up c l = true) : c ≤ lastOf c l := by
  induction l generalizing c with
  | nil => simp [lastOf]
  | cons y l ih =>
    simp only [up, Bool.and_eq_true, decide_eq_true_eq] at h
    have := ih h.2
    simp only [lastOf]; omega
theorem good_append {l m : LL} (h : good (l ++ m) = true) : good l = true := by
  simp only [good, up_append, lastOf_append, Bool.and_eq_true, decide_eq_true_eq] at h ⊢
  have := up_le h.1.2
  exact ⟨h.1.1, by omega⟩
theorem good_take {l : LL} (k : Nat) (h : good l = true) : good (l.take k) = true := by
  refine good_append (m := l.drop k) ?_; rw [List.take_append_drop]; exact h
theorem up_take {c : Int} {l : LL} (k : Nat) (h : up c l = true) : up c (l.take k) = true := by
  have := up_append c (l.take k) (l.drop k)
  rw [List.take_append_drop, h] at this
  simp only [Bool.true_eq, Bool.and_eq_true] at this
  exact this.1
theorem take_one (l : LL) (k : Nat) (hk : k < l.length) : l.take (k + 1) = l.take k ++ [l[k]] := by rw [List.take_succ_eq_append_getElem hk]
theorem good_step {l : LL} {k : Nat} (hk : k < l.length) (h : good (l.take k) = true) : good (l.take (k + 1)) = (decide (lastOf (-1) (l.take k) < l[k].1) && decide (l[k].1 ≤ 30000)) := by
  simp only [good, Bool.and_eq_true, decide_eq_true_eq] at h
  rw [take_one l k hk, good, up_snoc, lastOf_snoc, h.1, Bool.true_and]
theorem up_mem {c : Int} {l : LL} (h : up c l = true) : ∀ x ∈ l, c < x.1 := by
  induction l generalizing c with
  | nil => simp
  | cons y l ih =>
    simp only [up, Bool.and_eq_true, decide_eq_true_eq] at h
    intro x hx
    rcases List.mem_cons.1 hx with rfl | hx
    · exact h.1
    · have := ih h.2 x hx; omega
theorem last_mem {c : Int} {l : LL} (h : up c l = true) : ∀ x ∈ l, x.1 ≤ lastOf c l := by
  induction l generalizing c with
  | nil => simp
  | cons y l ih =>
    simp only [up, Bool.and_eq_true, decide_eq_true_eq] at h
    intro x hx
    simp only [lastOf]
    rcases List.mem_cons.1 hx with rfl | hx
    · exact up_le h.2
    · exact ih h.2 x hx
theorem lastOf_or (c : Int) (l : LL) : lastOf c l = c ∧ l = [] ∨ ∃ x ∈ l, lastOf c l = x.1 := by
  induction l generalizing c with
  | nil => exact .inl ⟨rfl, rfl⟩
  | cons y l ih =>
    rcases ih y.1 with ⟨e, e'⟩ | ⟨x, hx, e⟩
    · exact .inr ⟨y, by simp, e⟩
    · exact .inr ⟨x, by simp [hx], e⟩
theorem good_iff {l : LL} : good l = true ↔ up (-1) l = true ∧ ∀ x ∈ l, x.1 ≤ 30000 := by
  simp only [good, Bool.and_eq_true, decide_eq_true_eq]
  constructor
  · rintro ⟨h, k⟩
    exact ⟨h, fun x hx => by have := last_mem h x hx; omega⟩
  · rintro ⟨h, k⟩
    refine ⟨h, ?_⟩
    rcases lastOf_or (-1) l with ⟨e, _⟩ | ⟨x, hx, e⟩
    · rw [e]; decide
    · rw [e]; exact k x hx
theorem isLay_iff {l : LL} : isLay l = true ↔ l.length ≤ 40 ∧ up (-1) l = true ∧ ∀ x ∈ l, x.1 ≤ 30000 := by
  simp only [isLay, Bool.and_eq_true, decide_eq_true_eq, good_iff]
theorem lay_in {l : LL} (h : isLay l = true) : ∀ x ∈ l, 0 ≤ x.1 ∧ x.1 ≤ 30000 := fun x hx => by
  have h := isLay_iff.1 h
  have := up_mem h.2.1 x hx
  have := h.2.2 x hx
  omega
theorem lay_len {l : LL} (h : isLay l = true) : l.length ≤ 40 := (isLay_iff.1 h).1

/-! Numbers of layers -/
def inS (t b : Int) (x : Int × Bool) : Bool := decide (t ≤ x.1) && decide (x.1 < b)
def cntA (t b : Int) (l : LL) : Nat := l.countP (inS t b)
def cntS (t b : Int) (l : LL) : Nat := l.countP (fun x => inS t b x && x.2)
def spanOk (t b : Int) : Bool := decide (0 ≤ t) && decide (t ≤ b) && decide (b ≤ 30000)
def cntOk (l : LL) (t b : Int) : Bool := isLay l && spanOk t b
def ageOk (l : LL) (a d : Int) : Bool := cntOk l 0 d && (decide (-400000 ≤ a) && decide (a ≤ 400000))
def cntOf (l : LL) (t b : Int) : Option (Nat × Nat) := if cntOk l t b = true then some (cntS t b l, cntA t b l) else none
theorem cnt_step (p : Int × Bool → Bool) (l : LL) (k : Nat) (hk : k < l.length) : (l.take (k + 1)).countP p = (l.take k).countP p + (if p l[k] = true then 1 else 0) := by
  rw [take_one l k hk, List.countP_append, List.countP_singleton]
theorem filter_get (p : Int × Bool → Bool) (l : LL) (k : Nat) (hk : k < l.length) (hp : p l[k] = true) : ∃ h : (l.take k).countP p < (l.filter p).length, (l.filter p)[(l.take k).countP p] = l[k] := by
  have e : l.filter p = (l.take k).filter p ++ l[k] :: (l.drop (k + 1)).filter p := by
    conv => lhs; rw [← List.take_append_drop k l, List.filter_append, List.drop_eq_getElem_cons hk, List.filter_cons_of_pos hp]
  have n : (l.take k).countP p = ((l.take k).filter p).length := List.countP_eq_length_filter
  refine ⟨by rw [e, n]; simp, ?_⟩
  rw [List.getElem_of_eq e]
  simp only [n]
  rw [List.getElem_append_right (Nat.le_refl _)]
  simp
theorem count_all (p : Int × Bool → Bool) (l : LL) : (l.take l.length).countP p = (l.filter p).length := by rw [List.take_length, List.countP_eq_length_filter]
theorem cntA_le (t b : Int) (l : LL) : cntA t b l ≤ l.length := List.countP_le_length
theorem cntS_le (t b : Int) (l : LL) : cntS t b l ≤ cntA t b l := by
  refine List.countP_mono_left ?_
  intro x _ h; simp only [Bool.and_eq_true] at h; exact h.1
theorem countP_sum (p q r : Int × Bool → Bool) (l : LL) (h : ∀ x ∈ l, (if p x then 1 else 0) + (if q x then 1 else 0) = (if r x then 1 else 0)) : l.countP p + l.countP q = l.countP r := by
  induction l with
  | nil => rfl
  | cons x l ih =>
    have h1 := h x (by simp)
    have h2 := ih fun y hy => h y (by simp [hy])
    simp only [List.countP_cons]
    omega
theorem cnt_split (t d b : Int) (h1 : t ≤ d) (h2 : d ≤ b) (l : LL) : cntA t d l + cntA d b l = cntA t b l ∧ cntS t d l + cntS d b l = cntS t b l := by
  refine ⟨countP_sum _ _ _ l fun x _ => ?_, countP_sum _ _ _ l fun x _ => ?_⟩
  · simp only [inS]
    by_cases a1 : t ≤ x.1 <;> by_cases a2 : x.1 < d <;> by_cases a3 : x.1 < b <;> by_cases a4 : d ≤ x.1 <;> simp [a1, a2, a3, a4] <;> omega
  · simp only [inS]
    cases x.2 <;> by_cases a1 : t ≤ x.1 <;> by_cases a2 : x.1 < d <;> by_cases a3 : x.1 < b <;> by_cases a4 : d ≤ x.1 <;> simp [a1, a2, a3, a4] <;> omega
theorem cnt_wide (t t' b b' : Int) (h1 : t' ≤ t) (h2 : b ≤ b') (l : LL) : cntA t b l ≤ cntA t' b' l ∧ cntS t b l ≤ cntS t' b' l := by
  constructor
  · refine List.countP_mono_left ?_
    intro x _ h; simp only [inS, Bool.and_eq_true, decide_eq_true_eq] at h ⊢; omega
  · refine List.countP_mono_left ?_
    intro x _ h; simp only [inS, Bool.and_eq_true, decide_eq_true_eq] at h ⊢; exact ⟨by omega, h.2⟩
theorem cnt_none (t b : Int) (h : b ≤ t) (l : LL) : cntA t b l = 0 ∧ cntS t b l = 0 := by
  constructor
  · refine List.countP_eq_zero.2 fun x _ => ?_
    simp only [inS, Bool.and_eq_true, decide_eq_true_eq]; omega
  · refine List.countP_eq_zero.2 fun x _ => ?_
    simp only [inS, Bool.and_eq_true, decide_eq_true_eq]; omega
/-- With all of them sure, or none. -/
def setS (s : Bool) (l : LL) : LL := l.map fun x => (x.1, s)
theorem setS_length (s : Bool) (l : LL) : (setS s l).length = l.length := by simp [setS]
theorem setS_up (s : Bool) (c : Int) (l : LL) : up c (setS s l) = up c l := by
  induction l generalizing c with
  | nil => rfl
  | cons x l ih => show (decide (c < x.1) && up x.1 (setS s l)) = _; rw [ih]; rfl
theorem setS_lay (s : Bool) {l : LL} (h : isLay l = true) : isLay (setS s l) = true := by
  have k := isLay_iff.1 h
  refine isLay_iff.2 ⟨by rw [setS_length]; exact k.1, by rw [setS_up]; exact k.2.1, fun x hx => ?_⟩
  simp only [setS, List.mem_map] at hx
  obtain ⟨y, hy, rfl⟩ := hx
  exact k.2.2 y hy
theorem setS_cnt (s : Bool) (t b : Int) (l : LL) : cntA t b (setS s l) = cntA t b l ∧ cntS t b (setS s l) = if s then cntA t b l else 0 := by
  constructor
  · simp only [cntA, setS, List.countP_map]; rfl
  · simp only [cntA, cntS, setS, List.countP_map]
    cases s
    · simp only [Bool.false_eq_true, if_false]
      refine List.countP_eq_zero.2 fun x _ => by simp
    · simp only [if_true]
      congr 1; funext x; simp [inS]
theorem lay_take (k : Nat) {l : LL} (h : isLay l = true) : isLay (l.take k) = true := by
  have j := isLay_iff.1 h
  refine isLay_iff.2 ⟨by rw [List.length_take]; omega, up_take k j.2.1, fun x hx => j.2.2 x (List.mem_of_mem_take hx)⟩
theorem lay_nil : isLay [] = true := rfl
/-- The last one twice. -/
theorem lay_twice {l : LL} (h0 : 0 < l.length) : isLay (l ++ [l[l.length - 1]]) = false := by
  cases e : isLay (l ++ [l[l.length - 1]])
  · rfl
  · have k := (isLay_iff.1 e).2.1
    rw [up_snoc] at k
    simp only [Bool.and_eq_true, decide_eq_true_eq] at k
    have := last_mem k.1 _ (List.getElem_mem (show l.length - 1 < l.length by omega))
    omega
/-- At one depth there is at most one. -/
theorem up_at (c : Int) (l : LL) (h : up c l = true) (d : Int) : cntA d (d + 1) l ≤ 1 := by
  induction l generalizing c with
  | nil => simp [cntA]
  | cons x l ih =>
    simp only [up, Bool.and_eq_true, decide_eq_true_eq] at h
    have h1 := ih _ h.2
    by_cases e : inS d (d + 1) x = true
    · have h3 : cntA d (d + 1) l = 0 := by
        refine List.countP_eq_zero.2 fun y hy => ?_
        have := up_mem h.2 y hy
        simp only [inS, Bool.and_eq_true, decide_eq_true_eq] at e ⊢
        omega
      have : cntA d (d + 1) (x :: l) = cntA d (d + 1) l + 1 := by simp [cntA, e]
      omega
    · have : cntA d (d + 1) (x :: l) = cntA d (d + 1) l := by simp [cntA, e]
      omega

/-! Two lists in order -/
def mg : LL → LL → LL
  | [], b => b
  | a, [] => a
  | x :: a, y :: b => if x.1 < y.1 then x :: mg a (y :: b) else if y.1 < x.1 then y :: mg (x :: a) b else (x.1, x.2 || y.2) :: mg a b
termination_by a b => a.length + b.length
theorem mg_nil (a : LL) : mg a [] = a := by cases a <;> simp [mg]
theorem nil_mg (a : LL) : mg [] a = a := by simp [mg]
theorem mg_cons (x y : Int × Bool) (a b : LL) : mg (x :: a) (y :: b) = if x.1 < y.1 then x :: mg a (y :: b) else if y.1 < x.1 then y :: mg (x :: a) b else (x.1, x.2 || y.2) :: mg a b := by rw [mg]
/-- Any two lists, step by step. -/
theorem mg_ind {P : LL → LL → Prop} (h1 : ∀ b, P [] b) (h2 : ∀ x a, P (x :: a) []) (h3 : ∀ x y a b, x.1 < y.1 → P a (y :: b) → P (x :: a) (y :: b))
    (h4 : ∀ x y a b, y.1 < x.1 → P (x :: a) b → P (x :: a) (y :: b)) (h5 : ∀ x y a b, x.1 = y.1 → P a b → P (x :: a) (y :: b)) : ∀ n a b, a.length + b.length = n → P a b := by
  intro n
  induction n using Nat.strongRecOn with
  | ind n ih =>
    intro a b e
    cases a with
    | nil => exact h1 b
    | cons x a =>
      cases b with
      | nil => exact h2 x a
      | cons y b =>
        simp only [List.length_cons] at e
        rcases Int.lt_trichotomy x.1 y.1 with k | k | k
        · exact h3 x y a b k (ih (a.length + (b.length + 1)) (by omega) a (y :: b) rfl)
        · exact h5 x y a b k (ih (a.length + b.length) (by omega) a b rfl)
        · exact h4 x y a b k (ih (a.length + 1 + b.length) (by omega) (x :: a) b rfl)
theorem mg_lt {x y : Int × Bool} (a b : LL) (h : x.1 < y.1) : mg (x :: a) (y :: b) = x :: mg a (y :: b) := by rw [mg_cons, if_pos h]
theorem mg_gt {x y : Int × Bool} (a b : LL) (h : y.1 < x.1) : mg (x :: a) (y :: b) = y :: mg (x :: a) b := by rw [mg_cons, if_neg (by omega), if_pos h]
theorem mg_eq {x y : Int × Bool} (a b : LL) (h : x.1 = y.1) : mg (x :: a) (y :: b) = (x.1, x.2 || y.2) :: mg a b := by rw [mg_cons, if_neg (by omega), if_neg (by omega)]
theorem mg_length (a b : LL) : (mg a b).length ≤ a.length + b.length := by
  refine mg_ind (P := fun a b => (mg a b).length ≤ a.length + b.length) ?_ ?_ ?_ ?_ ?_ _ a b rfl
  · intro b; simp [nil_mg]
  · intro x a; simp [mg_nil]
  · intro x y a b h ih; rw [mg_lt a b h]; simp only [List.length_cons] at ih ⊢; omega
  · intro x y a b h ih; rw [mg_gt a b h]; simp only [List.length_cons] at ih ⊢; omega
  · intro x y a b h ih; rw [mg_eq a b h]; simp only [List.length_cons] at ih ⊢; omega
theorem mg_up (a b : LL) : ∀ c, up c a = true → up c b = true → up c (mg a b) = true := by
  refine mg_ind (P := fun a b => ∀ c, up c a = true → up c b = true → up c (mg a b) = true) ?_ ?_ ?_ ?_ ?_ _ a b rfl
  · intro b c _ h; rw [nil_mg]; exact h
  · intro x a c h _; rw [mg_nil]; exact h
  · intro x y a b h ih c ha hb
    rw [mg_lt a b h]
    simp only [up, Bool.and_eq_true, decide_eq_true_eq] at ha hb ih ⊢
    exact ⟨ha.1, ih _ ha.2 ⟨h, hb.2⟩⟩
  · intro x y a b h ih c ha hb
    rw [mg_gt a b h]
    simp only [up, Bool.and_eq_true, decide_eq_true_eq] at ha hb ih ⊢
    exact ⟨hb.1, ih _ ⟨h, ha.2⟩ hb.2⟩
  · intro x y a b h ih c ha hb
    rw [mg_eq a b h]
    simp only [up, Bool.and_eq_true, decide_eq_true_eq] at ha hb ⊢
    exact ⟨ha.1, ih _ ha.2 (by rw [h]; exact hb.2)⟩
theorem mg_le (m : Int) (a b : LL) : (∀ x ∈ a, x.1 ≤ m) → (∀ x ∈ b, x.1 ≤ m) → ∀ x ∈ mg a b, x.1 ≤ m := by
  refine mg_ind (P := fun a b => (∀ x ∈ a, x.1 ≤ m) → (∀ x ∈ b, x.1 ≤ m) → ∀ x ∈ mg a b, x.1 ≤ m) ?_ ?_ ?_ ?_ ?_ _ a b rfl
  · intro b _ h; rw [nil_mg]; exact h
  · intro x a h _; rw [mg_nil]; exact h
  · intro x y a b h ih ha hb z hz
    rw [mg_lt a b h] at hz
    rcases List.mem_cons.1 hz with rfl | hz
    · exact ha _ (by simp)
    · exact ih (fun w hw => ha w (by simp [hw])) hb z hz
  · intro x y a b h ih ha hb z hz
    rw [mg_gt a b h] at hz
    rcases List.mem_cons.1 hz with rfl | hz
    · exact hb _ (by simp)
    · exact ih ha (fun w hw => hb w (by simp [hw])) z hz
  · intro x y a b h ih ha hb z hz
    rw [mg_eq a b h] at hz
    rcases List.mem_cons.1 hz with rfl | hz
    · exact ha x (by simp)
    · exact ih (fun w hw => ha w (by simp [hw])) (fun w hw => hb w (by simp [hw])) z hz
theorem mg_good {a b : LL} (ha : isLay a = true) (hb : isLay b = true) : good (mg a b) = true :=
  good_iff.2 ⟨mg_up a b _ (isLay_iff.1 ha).2.1 (isLay_iff.1 hb).2.1, mg_le _ a b (isLay_iff.1 ha).2.2 (isLay_iff.1 hb).2.2⟩
theorem mg_lay {a b : LL} (ha : isLay a = true) (hb : isLay b = true) : isLay (mg a b) = decide ((mg a b).length ≤ 40) := by rw [isLay, mg_good ha hb, Bool.and_true]
/-- How many have a mark that a layer of both has if one of both has it. -/
theorem mg_count (p : Int × Bool → Bool) (hp : ∀ d s t, p (d, s || t) = (p (d, s) || p (d, t))) (a b : LL) : a.countP p ≤ (mg a b).countP p ∧ b.countP p ≤ (mg a b).countP p ∧ (mg a b).countP p ≤ a.countP p + b.countP p := by
  refine mg_ind (P := fun a b => a.countP p ≤ (mg a b).countP p ∧ b.countP p ≤ (mg a b).countP p ∧ (mg a b).countP p ≤ a.countP p + b.countP p) ?_ ?_ ?_ ?_ ?_ _ a b rfl
  · intro b; rw [nil_mg]; simp
  · intro x a; rw [mg_nil]; simp
  · intro x y a b h ih; rw [mg_lt a b h]; simp only [List.countP_cons] at ih ⊢; omega
  · intro x y a b h ih; rw [mg_gt a b h]; simp only [List.countP_cons] at ih ⊢; omega
  · intro x y a b h ih; rw [mg_eq a b h]
    obtain ⟨d, s⟩ := x; obtain ⟨d', t⟩ := y
    simp only at h; subst h
    simp only [List.countP_cons, hp] at ih ⊢
    cases p (d, s) <;> cases p (d, t) <;> simp <;> omega
theorem mg_cnt (t b : Int) (l m : LL) : cntA t b l ≤ cntA t b (mg l m) ∧ cntA t b m ≤ cntA t b (mg l m) ∧ cntA t b (mg l m) ≤ cntA t b l + cntA t b m :=
  mg_count (inS t b) (fun d s t => by simp [inS]) l m
theorem mg_cntS (t b : Int) (l m : LL) : cntS t b l ≤ cntS t b (mg l m) ∧ cntS t b m ≤ cntS t b (mg l m) ∧ cntS t b (mg l m) ≤ cntS t b l + cntS t b m :=
  mg_count (fun x => inS t b x && x.2) (fun d s t => by simp [inS, Bool.and_or_distrib_left]) l m
/-- What lies at a depth. -/
def lk : LL → Int → Option Bool
  | [], _ => none
  | x :: l, d => if x.1 = d then some x.2 else lk l d
def oj : Option Bool → Option Bool → Option Bool
  | none, o => o
  | some p, none => some p
  | some p, some q => some (p || q)
theorem lk_lt {c d : Int} {l : LL} (h : up c l = true) (hd : d ≤ c) : lk l d = none := by
  induction l generalizing c with
  | nil => rfl
  | cons x l ih =>
    simp only [up, Bool.and_eq_true, decide_eq_true_eq] at h
    rw [lk, if_neg (by omega)]
    exact ih h.2 (by omega)
theorem lk_ext (l m : LL) : ∀ c, up c l = true → up c m = true → (∀ d, lk l d = lk m d) → l = m := by
  induction l generalizing m with
  | nil =>
    intro c _ hm h
    cases m with
    | nil => rfl
    | cons y m => have := h y.1; simp [lk] at this
  | cons x l ih =>
    intro c hl hm h
    cases m with
    | nil => have := h x.1; simp [lk] at this
    | cons y m =>
      simp only [up, Bool.and_eq_true, decide_eq_true_eq] at hl hm
      have e : x.1 = y.1 := by
        rcases Int.lt_trichotomy x.1 y.1 with k | k | k
        · have := h x.1
          rw [lk, if_pos rfl, lk, if_neg (by omega), lk_lt hm.2 (by omega)] at this
          cases this
        · exact k
        · have := h y.1
          rw [lk, if_neg (by omega), lk_lt hl.2 (by omega), lk, if_pos rfl] at this
          cases this
      have e2 : x.2 = y.2 := by
        have := h x.1
        rw [lk, if_pos rfl, lk, if_pos e.symm] at this
        exact Option.some.inj this
      have e3 : l = m := ih m x.1 hl.2 (by rw [e]; exact hm.2) fun d => by
        by_cases hd : x.1 < d
        · have := h d
          rwa [lk, if_neg (by omega), lk, if_neg (by omega)] at this
        · rw [lk_lt hl.2 (by omega), lk_lt hm.2 (by omega)]
      rw [e3, Prod.ext e e2]
theorem oj_none (o : Option Bool) : oj o none = o := by cases o <;> rfl
theorem lk_mg (a b : LL) : ∀ c, up c a = true → up c b = true → ∀ d, lk (mg a b) d = oj (lk a d) (lk b d) := by
  refine mg_ind (P := fun a b => ∀ c, up c a = true → up c b = true → ∀ d, lk (mg a b) d = oj (lk a d) (lk b d)) ?_ ?_ ?_ ?_ ?_ _ a b rfl
  · intro b c _ _ d; rw [nil_mg]; rfl
  · intro x a c _ _ d; rw [mg_nil, show lk [] d = none from rfl, oj_none]
  · intro x y a b h ih c ha hb d
    simp only [up, Bool.and_eq_true, decide_eq_true_eq] at ha hb
    have hb' : up x.1 (y :: b) = true := by simp [up, h, hb.2]
    rw [mg_lt a b h, lk]
    by_cases e : x.1 = d
    · rw [if_pos e, lk, if_pos e, lk_lt hb' (by omega)]; rfl
    · rw [if_neg e, ih _ ha.2 hb' d, show lk (x :: a) d = if x.1 = d then some x.2 else lk a d from rfl, if_neg e]
  · intro x y a b h ih c ha hb d
    simp only [up, Bool.and_eq_true, decide_eq_true_eq] at ha hb
    have ha' : up y.1 (x :: a) = true := by simp [up, h, ha.2]
    rw [mg_gt a b h, lk]
    by_cases e : y.1 = d
    · rw [if_pos e, lk_lt ha' (by omega), lk, if_pos e]; rfl
    · rw [if_neg e, ih _ ha' hb.2 d, show lk (y :: b) d = if y.1 = d then some y.2 else lk b d from rfl, if_neg e]
  · intro x y a b h ih c ha hb d
    simp only [up, Bool.and_eq_true, decide_eq_true_eq] at ha hb
    rw [mg_eq a b h, lk]
    by_cases e : x.1 = d
    · rw [if_pos e, lk, if_pos e, lk, if_pos (by omega)]; rfl
    · rw [if_neg e, ih _ ha.2 (by rw [h]; exact hb.2) d, lk, if_neg e, lk, if_neg (by omega)]
theorem oj_comm (a b : Option Bool) : oj a b = oj b a := by cases a <;> cases b <;> simp [oj, Bool.or_comm]
theorem oj_assoc (a b c : Option Bool) : oj (oj a b) c = oj a (oj b c) := by cases a <;> cases b <;> cases c <;> simp [oj, Bool.or_assoc]
theorem oj_self (a : Option Bool) : oj a a = a := by cases a <;> simp [oj]
theorem mg_comm {c : Int} {a b : LL} (ha : up c a = true) (hb : up c b = true) : mg b a = mg a b :=
  lk_ext _ _ c (mg_up _ _ c hb ha) (mg_up _ _ c ha hb) fun d => by rw [lk_mg _ _ c hb ha, lk_mg _ _ c ha hb, oj_comm]
theorem mg_self {c : Int} {a : LL} (ha : up c a = true) : mg a a = a :=
  lk_ext _ _ c (mg_up _ _ c ha ha) ha fun d => by rw [lk_mg _ _ c ha ha, oj_self]
theorem mg_assoc {c : Int} {a b e : LL} (ha : up c a = true) (hb : up c b = true) (he : up c e = true) : mg (mg a b) e = mg a (mg b e) :=
  lk_ext _ _ c (mg_up _ _ c (mg_up _ _ c ha hb) he) (mg_up _ _ c ha (mg_up _ _ c hb he)) fun d => by
    rw [lk_mg _ _ c (mg_up _ _ c ha hb) he, lk_mg _ _ c ha hb, lk_mg _ _ c ha (mg_up _ _ c hb he), lk_mg _ _ c hb he, oj_assoc]
theorem mg_again {c : Int} {a b : LL} (ha : up c a = true) (hb : up c b = true) : mg (mg a b) a = mg a b ∧ mg b (mg a b) = mg a b := by
  have hm := mg_up _ _ c ha hb
  refine ⟨?_, ?_⟩
  · rw [mg_comm ha hm, ← mg_assoc ha ha hb, mg_self ha]
  · rw [mg_comm hm hb, mg_assoc ha hb hb, mg_self hb]
def mgOf (a b : LL) : Option LL := if isLay a = true ∧ isLay b = true ∧ isLay (mg a b) = true then some (mg a b) else none

/-! Sure layers -/
def sures (l : LL) : List Int := (l.filter (·.2)).map (·.1)
theorem sures_append (l m : LL) : sures (l ++ m) = sures l ++ sures m := by simp [sures]
theorem sures_cons (x : Int × Bool) (l : LL) : sures (x :: l) = if x.2 then x.1 :: sures l else sures l := by
  simp only [sures, List.filter_cons]; split <;> simp
theorem sures_step (l : LL) (k : Nat) (hk : k < l.length) : sures (l.take (k + 1)) = if l[k].2 then sures (l.take k) ++ [l[k].1] else sures (l.take k) := by
  rw [take_one l k hk, sures_append, sures_cons]; split <;> simp [sures]
theorem sures_len (l : LL) : (sures l).length ≤ l.length := by simp only [sures, List.length_map]; exact List.length_filter_le _ _
theorem sures_up {c : Int} {l : LL} (h : up c l = true) : (sures l).Pairwise (· < ·) ∧ ∀ d ∈ sures l, c < d := by
  induction l generalizing c with
  | nil => simp [sures]
  | cons x l ih =>
    simp only [up, Bool.and_eq_true, decide_eq_true_eq] at h
    obtain ⟨k1, k2⟩ := ih h.2
    rw [sures_cons]
    split
    · refine ⟨List.pairwise_cons.2 ⟨k2, k1⟩, fun d hd => ?_⟩
      rcases List.mem_cons.1 hd with rfl | hd
      · exact h.1
      · have := k2 d hd; omega
    · exact ⟨k1, fun d hd => by have := k2 d hd; omega⟩
theorem sures_mem {c : Int} {l : LL} (h : up c l = true) (d : Int) : d ∈ sures l ↔ lk l d = some true := by
  induction l generalizing c with
  | nil => simp [sures, lk]
  | cons x l ih =>
    simp only [up, Bool.and_eq_true, decide_eq_true_eq] at h
    have i := ih h.2
    rw [sures_cons, lk]
    by_cases e : x.1 = d
    · subst e
      rw [if_pos rfl]
      have : x.1 ∉ sures l := fun hd => by have := (sures_up h.2).2 _ hd; omega
      cases x.2 <;> simp [this]
    · rw [if_neg e, ← i]
      split
      · simp only [List.mem_cons]
        exact ⟨fun hd => hd.resolve_left (fun q => e q.symm), .inr⟩
      · rfl
theorem asc_ext (l m : List Int) (hl : l.Pairwise (· < ·)) (hm : m.Pairwise (· < ·)) (h : ∀ d, d ∈ l ↔ d ∈ m) : l = m := by
  induction l generalizing m with
  | nil =>
    cases m with
    | nil => rfl
    | cons y m => have := (h y).2 (by simp); simp at this
  | cons x l ih =>
    cases m with
    | nil => have := (h x).1 (by simp); simp at this
    | cons y m =>
      rw [List.pairwise_cons] at hl hm
      have e : x = y := by
        rcases List.mem_cons.1 ((h x).1 (by simp)) with e | e
        · exact e
        · rcases List.mem_cons.1 ((h y).2 (by simp)) with e' | e'
          · exact e'.symm
          · have := hl.1 _ e'; have := hm.1 _ e; omega
      subst e
      rw [ih m hl.2 hm.2 fun d => ?_]
      have := h d
      simp only [List.mem_cons] at this
      constructor
      · intro hd
        rcases this.1 (.inr hd) with rfl | k
        · have := hl.1 _ hd; omega
        · exact k
      · intro hd
        rcases this.2 (.inr hd) with rfl | k
        · have := hm.1 _ hd; omega
        · exact k
/-- A sure one between the first two. -/
theorem sures_mg {c a b m : Int} {l : LL} {rest : List Int} (h : up c l = true) (hs : sures l = a :: b :: rest) (h1 : a < m) (h2 : m < b) : sures (mg l [(m, true)]) = a :: m :: b :: rest := by
  have hc := (sures_up h).2 a (by rw [hs]; simp)
  have hm : up c [(m, true)] = true := by simp [up]; omega
  have hu := mg_up _ _ c h hm
  have hp := (sures_up h).1
  rw [hs] at hp
  simp only [List.pairwise_cons, List.mem_cons] at hp
  refine asc_ext _ _ (sures_up hu).1 ?_ fun d => ?_
  · simp only [List.pairwise_cons, List.mem_cons]
    refine ⟨?_, ?_, hp.2.1, hp.2.2⟩
    · rintro d (rfl | rfl | hd)
      · exact h1
      · exact hp.1 _ (.inl rfl)
      · exact hp.1 _ (.inr hd)
    · rintro d (rfl | hd)
      · exact h2
      · have := hp.2.1 d hd; omega
  · rw [sures_mem hu, lk_mg _ _ c h hm]
    have h3 := sures_mem h d
    rw [hs] at h3
    simp only [List.mem_cons] at h3 ⊢
    simp only [lk]
    by_cases e : m = d
    · subst e
      simp only [if_true]
      cases lk l m <;> simp [oj]
    · rw [if_neg e, oj_none, ← h3]
      constructor
      · rintro (rfl | rfl | hd)
        · simp
        · simp
        · simp [hd]
      · rintro (rfl | rfl | rfl | hd)
        · simp
        · exact absurd rfl e
        · simp
        · simp [hd]
def dthOk (l : LL) (n : Int) : Option Int := if isLay l = true ∧ 1 ≤ n then (sures l)[(n - 1).toNat]? else none
/-- How many sure ones lie above the one of a number. -/
theorem cnt_pair (l : List Int) (h : l.Pairwise (· < ·)) (k : Nat) (hk : k < l.length) (d : Int) : (d = l[k] → l.countP (fun x => decide (x < d)) = k) ∧ (d = l[k] + 1 → l.countP (fun x => decide (x < d)) = k + 1) := by
  induction l generalizing k with
  | nil => simp at hk
  | cons x l ih =>
    rw [List.pairwise_cons] at h
    cases k with
    | zero =>
      simp only [List.getElem_cons_zero]
      constructor
      · rintro rfl
        refine List.countP_eq_zero.2 fun y hy => ?_
        simp only [decide_eq_true_eq]
        rcases List.mem_cons.1 hy with rfl | hy
        · omega
        · have := h.1 y hy; omega
      · rintro rfl
        rw [List.countP_cons, List.countP_eq_zero.2 fun y hy => ?_]
        · rw [if_pos (by simp only [decide_eq_true_eq]; omega)]
        · have := h.1 y hy; simp only [decide_eq_true_eq]; omega
    | succ k =>
      simp only [List.length_cons] at hk
      simp only [List.getElem_cons_succ]
      have hx := h.1 _ (List.getElem_mem (show k < l.length by omega))
      obtain ⟨i1, i2⟩ := ih h.2 k (by omega)
      constructor
      · intro e
        rw [List.countP_cons, i1 e, if_pos (by simp only [decide_eq_true_eq]; omega)]
      · intro e
        rw [List.countP_cons, i2 e, if_pos (by simp only [decide_eq_true_eq]; omega)]
theorem cntS_sures {l : LL} (h : isLay l = true) (d : Int) : cntS 0 d l = (sures l).countP (fun x => decide (x < d)) := by
  rw [cntS, sures, List.countP_map, List.countP_filter]
  refine List.countP_congr fun x hx => ?_
  have := lay_in h x hx
  simp only [inS, Function.comp, Bool.and_eq_true, decide_eq_true_eq]
  constructor
  · rintro ⟨⟨_, k⟩, s⟩; exact ⟨k, s⟩
  · rintro ⟨k, s⟩; exact ⟨⟨this.1, k⟩, s⟩
theorem dth_cnt {l : LL} {n d : Int} (h : dthOk l n = some d) : isLay l = true ∧ 1 ≤ n ∧ n ≤ (sures l).length ∧ 0 ≤ d ∧ d ≤ 30000 ∧ (cntS 0 d l : Int) = n - 1 ∧ (cntS 0 (d + 1) l : Int) = n := by
  unfold dthOk at h
  split at h
  · rename_i hh
    obtain ⟨hl, hn⟩ := hh
    obtain ⟨hk, e⟩ := List.getElem?_eq_some_iff.1 h
    have hp := (sures_up (isLay_iff.1 hl).2.1).1
    obtain ⟨c1, c2⟩ := cnt_pair _ hp _ hk d
    obtain ⟨_, c3⟩ := cnt_pair _ hp _ hk (d + 1)
    have hm : d ∈ sures l := e ▸ List.getElem_mem hk
    simp only [sures, List.mem_map, List.mem_filter] at hm
    obtain ⟨x, ⟨hx, _⟩, ex⟩ := hm
    have := lay_in hl x hx
    rw [cntS_sures hl, cntS_sures hl, c1 e.symm, c3 (by omega)]
    exact ⟨hl, hn, by omega, by omega, by omega, by omega, by omega⟩
  · cases h
theorem dth_rises {l : LL} {n d e : Int} (h : dthOk l n = some d) (k : dthOk l (n + 1) = some e) : d < e := by
  unfold dthOk at h k
  split at h
  · rename_i hh
    obtain ⟨hl, hn⟩ := hh
    rw [if_pos ⟨hl, by omega⟩] at k
    obtain ⟨h1, rfl⟩ := List.getElem?_eq_some_iff.1 h
    obtain ⟨h2, rfl⟩ := List.getElem?_eq_some_iff.1 k
    have hp := (sures_up (isLay_iff.1 hl).2.1).1
    exact List.pairwise_iff_getElem.1 hp _ _ h1 h2 (by omega)
  · cases h
theorem dth_more (l : LL) : dthOk l (l.length + 1) = none := by
  unfold dthOk
  split
  · refine List.getElem?_eq_none ?_
    have := sures_len l
    omega
  · rfl
/-- Differences of numbers that follow each other. -/
def diffs : List Int → List Int
  | [] => []
  | [_] => []
  | a :: b :: l => (b - a) :: diffs (b :: l)
def thk (l : LL) : List Int := if isLay l = true then diffs (sures l) else []
theorem diffs_two (a b : Int) (l : List Int) : diffs (a :: b :: l) = (b - a) :: diffs (b :: l) := rfl
theorem diffs_length (l : List Int) : (diffs l).length = l.length - 1 := by
  match l with
  | [] => rfl
  | [_] => rfl
  | a :: b :: l => rw [diffs_two, List.length_cons, diffs_length (b :: l)]; simp
theorem diffs_snoc (l : List Int) (x : Int) (h : l ≠ []) : diffs (l ++ [x]) = diffs l ++ [x - l.getLast h] := by
  match l, h with
  | [a], _ => rfl
  | a :: b :: l, _ =>
    have := diffs_snoc (b :: l) x (by simp)
    simp only [List.cons_append, diffs_two] at this ⊢
    rw [this]; simp
theorem diffs_pos {l : List Int} (h : l.Pairwise (· < ·)) : ∀ d ∈ diffs l, 1 ≤ d := by
  match l, h with
  | [], _ => simp [diffs]
  | [_], _ => simp [diffs]
  | a :: b :: l, h =>
    rw [List.pairwise_cons] at h
    rw [diffs_two]
    intro d hd
    rcases List.mem_cons.1 hd with rfl | hd
    · have := h.1 b (by simp); omega
    · exact diffs_pos h.2 d hd
theorem diffs_sum (a : Int) (l : List Int) : (diffs (a :: l)).sum = (a :: l).getLast (by simp) - a := by
  match l with
  | [] => simp [diffs]
  | b :: l => rw [diffs_two, List.sum_cons, diffs_sum b l]; simp only [List.getLast_cons_cons]; omega
/-- The last sure depth, or -1. -/
def lastS (l : LL) : Int := (sures l).getLast?.getD (-1)
theorem lastS_step (l : LL) (k : Nat) (hk : k < l.length) : lastS (l.take (k + 1)) = if l[k].2 then l[k].1 else lastS (l.take k) := by
  rw [lastS, sures_step l k hk]; split <;> simp [lastS]
theorem lastS_nil : lastS ([] : LL) = -1 := rfl
/-- What a sure one more adds to the differences. -/
theorem diffs_step {l : LL} (h : isLay l = true) (k : Nat) (hk : k < l.length) (hs : l[k].2 = true) :
    diffs (sures (l.take (k + 1))) = if 0 ≤ lastS (l.take k) then diffs (sures (l.take k)) ++ [l[k].1 - lastS (l.take k)] else diffs (sures (l.take k)) := by
  rw [sures_step l k hk, if_pos hs]
  by_cases e : sures (l.take k) = []
  · rw [e, lastS, e]; simp [diffs]
  · rw [diffs_snoc _ _ e]
    have hm : (sures (l.take k)).getLast e ∈ sures (l.take k) := List.getLast_mem e
    have h0 : lastS (l.take k) = (sures (l.take k)).getLast e := by rw [lastS, List.getLast?_eq_some_getLast e]; rfl
    have := (sures_up (up_take k (isLay_iff.1 h).2.1)).2 _ hm
    rw [h0, if_pos (by omega)]
theorem thk_first {l : LL} (h : thk l ≠ []) : ∃ a b rest, isLay l = true ∧ sures l = a :: b :: rest ∧ thk l = (b - a) :: diffs (b :: rest) := by
  unfold thk at h ⊢
  split at h
  · rename_i hl
    rw [if_pos hl]
    match hs : sures l with
    | [] => rw [hs] at h; exact absurd rfl h
    | [_] => rw [hs] at h; exact absurd rfl h
    | a :: b :: rest => exact ⟨a, b, rest, hl, rfl, diffs_two a b rest⟩
  · exact absurd rfl h
theorem dth_get {l : LL} (h : isLay l = true) (n : Nat) (hn : n < (sures l).length) : dthOk l ((n : Int) + 1) = some (sures l)[n] := by
  rw [dthOk, if_pos ⟨h, by omega⟩, show ((n : Int) + 1 - 1).toNat = n by omega, List.getElem?_eq_getElem hn]
theorem thk_sum {l : LL} (h : thk l ≠ []) : ∃ a b, dthOk l 1 = some a ∧ dthOk l ((thk l).length + 1) = some b ∧ (thk l).sum = b - a ∧ (∀ d ∈ thk l, 1 ≤ d) ∧ isLay l = true ∧ (sures l).length = (thk l).length + 1 := by
  obtain ⟨a, b, rest, hl, hs, ht⟩ := thk_first h
  have hlen : (thk l).length + 1 = (sures l).length := by
    rw [thk, if_pos hl, diffs_length, hs]; simp
  have hp := (sures_up (isLay_iff.1 hl).2.1).1
  refine ⟨a, (sures l).getLast (by rw [hs]; simp), ?_, ?_, ?_, ?_, hl, hlen.symm⟩
  · have := dth_get hl 0 (by rw [hs]; simp)
    simpa [hs] using this
  · rw [dth_get hl (thk l).length (by omega), List.getLast_eq_getElem]
    congr 2; omega
  · have := diffs_sum a (b :: rest)
    rw [thk, if_pos hl]
    simp only [hs] at this ⊢
    exact this
  · rw [thk, if_pos hl]; exact diffs_pos hp
theorem cntS_all (l : LL) (t b : Int) : cntS t b l ≤ (sures l).length := by
  rw [cntS, sures, List.length_map, ← List.countP_eq_length_filter]
  refine List.countP_mono_left ?_
  intro x _ h; simp only [Bool.and_eq_true] at h; exact h.2
def onlyS (l : LL) : LL := l.filter (·.2)
theorem onlyS_up {c : Int} {l : LL} (h : up c l = true) : up c (onlyS l) = true := by
  induction l generalizing c with
  | nil => rfl
  | cons x l ih =>
    simp only [up, Bool.and_eq_true, decide_eq_true_eq] at h
    have hw : ∀ {c c' : Int} {m : LL}, c ≤ c' → up c' m = true → up c m = true := by
      intro c c' m hc hm
      cases m with
      | nil => rfl
      | cons y m => simp only [up, Bool.and_eq_true, decide_eq_true_eq] at hm ⊢; exact ⟨by omega, hm.2⟩
    simp only [onlyS, List.filter_cons]
    split
    · simp only [up, Bool.and_eq_true, decide_eq_true_eq]; exact ⟨h.1, ih h.2⟩
    · exact hw (Int.le_of_lt h.1) (ih h.2)
theorem onlyS_lay {l : LL} (h : isLay l = true) : isLay (onlyS l) = true := by
  have k := isLay_iff.1 h
  exact isLay_iff.2 ⟨Nat.le_trans (List.length_filter_le _ _) k.1, onlyS_up k.2.1, fun x hx => k.2.2 x ((List.mem_filter.1 hx).1)⟩
theorem onlyS_sures (l : LL) : sures (onlyS l) = sures l := by simp [sures, onlyS]
theorem onlyS_thk {l : LL} (h : thk l ≠ []) : thk (onlyS l) = thk l ∧ (thk l).length + 1 = (onlyS l).length := by
  obtain ⟨a, b, rest, hl, hs, ht⟩ := thk_first h
  refine ⟨by rw [thk, thk, if_pos hl, if_pos (onlyS_lay hl), onlyS_sures], ?_⟩
  have : (onlyS l).length = (sures l).length := by simp [sures, onlyS]
  rw [this, thk, if_pos hl, diffs_length, hs]; simp
/-- A sure one more, in the middle of the first two. -/
theorem thk_mg {l : LL} (h : thk l ≠ []) {a b m : Int} (ha : dthOk l 1 = some a) (hb : dthOk l 2 = some b) (h1 : a < m) (h2 : m < b) (hg : isLay (mg l [(m, true)]) = true) :
    (thk (mg l [(m, true)])).length = (thk l).length + 1 ∧ ∃ x y z r r', thk (mg l [(m, true)]) = x :: y :: r ∧ thk l = z :: r' ∧ x + y = z := by
  obtain ⟨a', b', rest, hl, hs, ht⟩ := thk_first h
  obtain rfl : a = a' := by have := dth_get hl 0 (by rw [hs]; simp); rw [show ((0 : Nat) : Int) + 1 = 1 from rfl, ha] at this; simpa [hs] using this
  obtain rfl : b = b' := by have := dth_get hl 1 (by rw [hs]; simp); rw [show ((1 : Nat) : Int) + 1 = 2 from rfl, hb] at this; simpa [hs] using this
  have hm := sures_mg (isLay_iff.1 hl).2.1 hs h1 h2
  have e : thk (mg l [(m, true)]) = (m - a) :: (b - m) :: diffs (b :: rest) := by rw [thk, if_pos hg, hm, diffs_two, diffs_two]
  rw [e, ht]
  exact ⟨by simp, _, _, _, _, _, rfl, rfl, by omega⟩
end Go.Proofs.Ytbjeedeapioljac
