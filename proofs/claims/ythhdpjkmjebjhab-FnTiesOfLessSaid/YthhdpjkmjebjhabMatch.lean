/- Matchings of two lists of sizes: plain mathematics, no program in it. -/
import Derived.Test.YthhdpjkmjebjhabRows
namespace Go.Proofs.Ythhdpjkmjebjhab

/-- Two sizes are alike. -/
def like (tol x y : Int) : Bool := decide (x - y ≤ tol) && decide (y - x ≤ tol)
theorem like_iff {tol x y : Int} : like tol x y = true ↔ x - y ≤ tol ∧ y - x ≤ tol := by simp [like]
theorem like_comm (tol x y : Int) : like tol x y = like tol y x := by
  rw [Bool.eq_iff_iff, like_iff, like_iff]; omega
theorem like_self {tol : Int} (h : 0 ≤ tol) (x : Int) : like tol x x = true := like_iff.2 (by omega)
theorem like_more {tol tol' x y : Int} (h : tol ≤ tol') (k : like tol x y = true) : like tol' x y = true := by
  have := like_iff.1 k; exact like_iff.2 (by omega)
def one (b : Bool) : Nat := if b then 1 else 0

/-! The greatest number of pairs. -/
def most (tol : Int) : List Int → List Int → Nat
  | [], _ => 0
  | _ :: _, [] => 0
  | x :: s, y :: t => max (max (most tol s (y :: t)) (most tol (x :: s) t)) (if like tol x y then most tol s t + 1 else 0)
termination_by s t => s.length + t.length
theorem most_nil (tol : Int) (t : List Int) : most tol [] t = 0 := by unfold most; rfl
theorem most_nil' (tol : Int) (s : List Int) : most tol s [] = 0 := by cases s <;> (unfold most; rfl)
theorem most_cons (tol x y : Int) (s t : List Int) : most tol (x :: s) (y :: t) = max (max (most tol s (y :: t)) (most tol (x :: s) t)) (if like tol x y then most tol s t + 1 else 0) := by
  rw [most]
theorem most_comm (tol : Int) (s t : List Int) : most tol s t = most tol t s := by
  match s, t with
  | [], t => rw [most_nil, most_nil']
  | x :: s, [] => rw [most_nil, most_nil']
  | x :: s, y :: t =>
    rw [most_cons, most_cons, most_comm tol s (y :: t), most_comm tol (x :: s) t, most_comm tol s t, like_comm tol x y, Nat.max_comm (most tol (y :: t) s)]
termination_by s.length + t.length
theorem most_tail (tol x : Int) (s t : List Int) : most tol s t ≤ most tol (x :: s) t := by
  cases t with
  | nil => rw [most_nil', most_nil']; exact Nat.le_refl _
  | cons y t => rw [most_cons]; omega
theorem most_tail' (tol y : Int) (s t : List Int) : most tol s t ≤ most tol s (y :: t) := by
  rw [most_comm tol s t, most_comm tol s (y :: t)]; exact most_tail tol y t s
/-- One more event has one more pair at most. -/
theorem most_head (tol x : Int) (s t : List Int) : most tol (x :: s) t ≤ most tol s t + 1 := by
  induction t generalizing s with
  | nil => rw [most_nil', most_nil']; exact Nat.zero_le _
  | cons y t ih =>
    rw [most_cons]
    have h1 := ih s
    have h2 := most_tail' tol y s t
    split <;> omega
theorem most_head' (tol y : Int) (s t : List Int) : most tol s (y :: t) ≤ most tol s t + 1 := by
  rw [most_comm tol s t, most_comm tol s (y :: t)]; exact most_head tol y t s
theorem max_mix (a b : Bool) (P1 Q1 R1 P2 Q2 R2 P3 Q3 R3 : Nat) :
    max (max (max (max P1 Q1) (if b then R1 + 1 else 0)) (max (max P2 Q2) (if b then R2 + 1 else 0))) (if a then max (max P3 Q3) (if b then R3 + 1 else 0) + 1 else 0) =
    max (max (max (max P1 P2) (if a then P3 + 1 else 0)) (max (max Q1 Q2) (if a then Q3 + 1 else 0))) (if b then max (max R1 R2) (if a then R3 + 1 else 0) + 1 else 0) := by
  cases a <;> cases b <;> simp only [Bool.false_eq_true, if_false, if_true, Nat.max_zero, ← Nat.add_max_add_right] <;> ac_rfl
/-- .. and at the end. -/
theorem most_snoc (tol x y : Int) (s t : List Int) : most tol (s ++ [x]) (t ++ [y]) = max (max (most tol s (t ++ [y])) (most tol (s ++ [x]) t)) (if like tol x y then most tol s t + 1 else 0) := by
  match s, t with
  | [], [] => simp only [List.nil_append]; rw [most_cons]
  | x0 :: s, [] =>
    have ih := most_snoc tol x y s []
    simp only [List.nil_append, List.cons_append] at *
    rw [most_cons, ih, most_cons tol x0 y s []]
    simp only [most_nil', Nat.max_zero, Nat.zero_add]
    ac_rfl
  | [], y0 :: t =>
    have ih := most_snoc tol x y [] t
    simp only [List.nil_append, List.cons_append] at *
    rw [most_cons, ih, most_cons tol x y0 [] t]
    simp only [most_nil, Nat.zero_max, Nat.zero_add]
    ac_rfl
  | x0 :: s, y0 :: t =>
    have i1 := most_snoc tol x y s (y0 :: t)
    have i2 := most_snoc tol x y (x0 :: s) t
    have i3 := most_snoc tol x y s t
    simp only [List.cons_append] at *
    rw [most_cons, i1, i2, i3, most_cons tol x0 y0 s (t ++ [y]), most_cons tol x0 y0 (s ++ [x]) t, most_cons tol x0 y0 s t]
    exact max_mix _ _ _ _ _ _ _ _ _ _ _
termination_by s.length + t.length
theorem most_reverse (tol : Int) (s t : List Int) : most tol s.reverse t.reverse = most tol s t := by
  match s, t with
  | [], t => simp [most_nil]
  | x :: s, [] => simp [most_nil']
  | x :: s, y :: t =>
    have i1 := most_reverse tol s (y :: t)
    have i2 := most_reverse tol (x :: s) t
    have i3 := most_reverse tol s t
    simp only [List.reverse_cons] at *
    rw [most_snoc, i1, i2, i3, most_cons]
termination_by s.length + t.length
theorem most_last (tol x : Int) (s t : List Int) : most tol s t ≤ most tol (s ++ [x]) t ∧ most tol (s ++ [x]) t ≤ most tol s t + 1 := by
  rw [← most_reverse tol (s ++ [x]) t, ← most_reverse tol s t, List.reverse_append]
  exact ⟨most_tail tol x _ _, most_head tol x _ _⟩
theorem most_last' (tol y : Int) (s t : List Int) : most tol s t ≤ most tol s (t ++ [y]) ∧ most tol s (t ++ [y]) ≤ most tol s t + 1 := by
  rw [most_comm tol s t, most_comm tol s (t ++ [y])]; exact most_last tol y t s
theorem most_more {tol tol' : Int} (h : tol ≤ tol') (s t : List Int) : most tol s t ≤ most tol' s t := by
  match s, t with
  | [], t => rw [most_nil, most_nil]; exact Nat.le_refl _
  | x :: s, [] => rw [most_nil', most_nil']; exact Nat.le_refl _
  | x :: s, y :: t =>
    have i1 := most_more h s (y :: t)
    have i2 := most_more h (x :: s) t
    have i3 := most_more h s t
    rw [most_cons, most_cons]
    have := @like_more tol tol' x y h
    cases h1 : like tol x y <;> cases h2 : like tol' x y <;> simp_all <;> omega
termination_by s.length + t.length
theorem most_le (tol : Int) (s t : List Int) : most tol s t ≤ s.length := by
  induction s with
  | nil => rw [most_nil]; exact Nat.le_refl _
  | cons x s ih => have := most_head tol x s t; simp only [List.length_cons]; omega
theorem most_le' (tol : Int) (s t : List Int) : most tol s t ≤ t.length := by rw [most_comm]; exact most_le tol t s
theorem most_self {tol : Int} (h : 0 ≤ tol) (s : List Int) : most tol s s = s.length := by
  induction s with
  | nil => exact most_nil tol []
  | cons x s ih =>
    rw [most_cons, ih, like_self h]
    have h1 := most_le tol s (x :: s)
    have h2 := most_le' tol (x :: s) s
    simp; omega
theorem most_drop (tol : Int) (s t : List Int) (k : Nat) : most tol s (t.drop k) ≤ most tol s t := by
  induction k generalizing t with
  | zero => exact Nat.le_refl _
  | succ k ih =>
    cases t with
    | nil => exact Nat.le_refl _
    | cons y t => rw [List.drop_succ_cons]; exact Nat.le_trans (ih t) (most_tail' tol y s t)

/-! The number of matchings. -/
/-- Those where the first event of one list has a partner: ways x s t. -/
def cnt (tol : Int) : List Int → List Int → Nat
  | [], _ => 1
  | x :: s, t => cnt tol s t + with1 tol x s t
where
  with1 (tol x : Int) (s : List Int) : List Int → Nat
    | [] => 0
    | y :: t => (if like tol x y then cnt tol s t else 0) + with1 tol x s t
theorem cnt_nil (tol : Int) (t : List Int) : cnt tol [] t = 1 := by unfold cnt; rfl
theorem cnt_cons (tol x : Int) (s t : List Int) : cnt tol (x :: s) t = cnt tol s t + cnt.with1 tol x s t := by rw [cnt]
theorem with1_nil (tol x : Int) (s : List Int) : cnt.with1 tol x s [] = 0 := by rw [cnt.with1]
theorem with1_cons (tol x y : Int) (s t : List Int) : cnt.with1 tol x s (y :: t) = (if like tol x y then cnt tol s t else 0) + cnt.with1 tol x s t := by rw [cnt.with1]
theorem cnt_nil' (tol : Int) (s : List Int) : cnt tol s [] = 1 := by
  induction s with
  | nil => exact cnt_nil tol []
  | cons x s ih => rw [cnt_cons, with1_nil, ih]
theorem cnt_both (tol x y : Int) (s t : List Int) : cnt tol (x :: s) (y :: t) + cnt tol s t = cnt tol s (y :: t) + cnt tol (x :: s) t + (if like tol x y then cnt tol s t else 0) := by
  rw [cnt_cons tol x s (y :: t), with1_cons, cnt_cons tol x s t]; omega
theorem cnt_comm (tol : Int) (s t : List Int) : cnt tol s t = cnt tol t s := by
  match s, t with
  | [], t => rw [cnt_nil, cnt_nil']
  | x :: s, [] => rw [cnt_nil, cnt_nil']
  | x :: s, y :: t =>
    have i1 := cnt_comm tol s (y :: t)
    have i2 := cnt_comm tol (x :: s) t
    have i3 := cnt_comm tol s t
    have h1 := cnt_both tol x y s t
    have h2 := cnt_both tol y x t s
    rw [like_comm tol y x] at h2
    split at h1 <;> simp_all <;> omega
termination_by s.length + t.length
theorem cnt_snoc (tol x y : Int) (s t : List Int) : cnt tol (s ++ [x]) (t ++ [y]) + cnt tol s t = cnt tol s (t ++ [y]) + cnt tol (s ++ [x]) t + (if like tol x y then cnt tol s t else 0) := by
  match s, t with
  | [], [] => exact cnt_both tol x y [] []
  | x0 :: s, [] =>
    have ih := cnt_snoc tol x y s []
    have h1 := cnt_both tol x0 y (s ++ [x]) []
    have h2 := cnt_both tol x0 y s []
    simp only [List.nil_append, List.cons_append, cnt_nil'] at *
    omega
  | [], y0 :: t =>
    have ih := cnt_snoc tol x y [] t
    have h1 := cnt_both tol x y0 [] (t ++ [y])
    have h2 := cnt_both tol x y0 [] t
    simp only [List.nil_append, List.cons_append, cnt_nil] at *
    omega
  | x0 :: s, y0 :: t =>
    have i1 := cnt_snoc tol x y s (y0 :: t)
    have i2 := cnt_snoc tol x y (x0 :: s) t
    have i3 := cnt_snoc tol x y s t
    have h1 := cnt_both tol x0 y0 (s ++ [x]) (t ++ [y])
    have h2 := cnt_both tol x0 y0 s (t ++ [y])
    have h3 := cnt_both tol x0 y0 (s ++ [x]) t
    have h4 := cnt_both tol x0 y0 s t
    simp only [List.cons_append] at *
    cases ha : like tol x0 y0 <;> cases hb : like tol x y <;> simp only [ha, hb, Bool.false_eq_true, if_false, if_true] at i1 i2 i3 h1 h2 h3 h4 ⊢ <;> omega
termination_by s.length + t.length
/-- The first j partners that the last event can have. -/
def lastP (tol x : Int) (s t : List Int) : Nat → Nat
  | 0 => 0
  | j + 1 => lastP tol x s t j + (if like tol x (t.getD j 0) then cnt tol s (t.take j) else 0)
theorem cnt_last (tol x : Int) (s t : List Int) (j : Nat) (h : j ≤ t.length) : cnt tol (s ++ [x]) (t.take j) = cnt tol s (t.take j) + lastP tol x s t j := by
  induction j with
  | zero => rw [List.take_zero, cnt_nil', cnt_nil']; rfl
  | succ j ih =>
    have i1 := ih (by omega)
    have h1 := cnt_snoc tol x t[j] s (t.take j)
    rw [← List.take_succ_eq_append_getElem (show j < t.length by omega)] at h1
    simp only [lastP]
    rw [List.getD_eq_getElem?_getD, List.getElem?_eq_getElem (show j < t.length by omega), Option.getD_some]
    omega
theorem cnt_pos (tol : Int) (s t : List Int) : 1 ≤ cnt tol s t := by
  induction s with
  | nil => rw [cnt_nil]; exact Nat.le_refl _
  | cons x s ih => rw [cnt_cons]; omega
/-- No two are alike. -/
def unlike (tol : Int) (s t : List Int) : Prop := ∀ x ∈ s, ∀ y ∈ t, like tol x y = false
theorem most_zero (tol : Int) (s t : List Int) : most tol s t = 0 ↔ unlike tol s t := by
  match s, t with
  | [], t => rw [most_nil]; exact ⟨fun _ x hx => by simp at hx, fun _ => rfl⟩
  | x :: s, [] => rw [most_nil']; exact ⟨fun _ x hx y hy => by simp at hy, fun _ => rfl⟩
  | x :: s, y :: t =>
    have i1 := most_zero tol s (y :: t)
    have i2 := most_zero tol (x :: s) t
    rw [most_cons]
    constructor
    · intro h
      have h1 := i1.1 (by omega)
      have h2 := i2.1 (by omega)
      have h3 : like tol x y = false := by cases k : like tol x y; rfl; rw [k] at h; simp at h
      intro a ha b hb
      rcases List.mem_cons.1 ha with rfl | ha
      · rcases List.mem_cons.1 hb with rfl | hb
        · exact h3
        · exact h2 a (by simp) b hb
      · exact h1 a ha b hb
    · intro h
      have h1 := i1.2 fun a ha b hb => h a (by simp [ha]) b hb
      have h2 := i2.2 fun a ha b hb => h a ha b (by simp [hb])
      rw [h1, h2, h x (by simp) y (by simp)]; simp
termination_by s.length + t.length
theorem with1_zero (tol x : Int) (s t : List Int) : cnt.with1 tol x s t = 0 ↔ ∀ y ∈ t, like tol x y = false := by
  induction t with
  | nil => rw [with1_nil]; simp
  | cons y t ih =>
    rw [with1_cons]
    have := cnt_pos tol s t
    cases h : like tol x y
    · simp [h, ih]
    · simp [h]; omega
theorem cnt_one (tol : Int) (s t : List Int) : cnt tol s t = 1 ↔ most tol s t = 0 := by
  rw [most_zero]
  induction s with
  | nil => rw [cnt_nil]; exact ⟨fun _ x hx => by simp at hx, fun _ => rfl⟩
  | cons x s ih =>
    rw [cnt_cons]
    have := cnt_pos tol s t
    constructor
    · intro h
      have h1 := ih.1 (by omega)
      have h2 := (with1_zero tol x s t).1 (by omega)
      intro a ha b hb
      rcases List.mem_cons.1 ha with rfl | ha
      · exact h2 b hb
      · exact h1 a ha b hb
    · intro h
      have h1 := ih.2 fun a ha b hb => h a (by simp [ha]) b hb
      have h2 := (with1_zero tol x s t).2 fun b hb => h x (by simp) b hb
      omega
theorem cnt_more {tol tol' : Int} (h : tol ≤ tol') (s t : List Int) : cnt tol s t ≤ cnt tol' s t := by
  induction s generalizing t with
  | nil => rw [cnt_nil, cnt_nil]; exact Nat.le_refl _
  | cons x s ih =>
    rw [cnt_cons, cnt_cons]
    have : ∀ t, cnt.with1 tol x s t ≤ cnt.with1 tol' x s t := by
      intro t
      induction t with
      | nil => rw [with1_nil, with1_nil]; exact Nat.le_refl _
      | cons y t iht =>
        rw [with1_cons, with1_cons]
        have k := ih t
        cases h1 : like tol x y
        · simp; split <;> omega
        · rw [like_more h h1]; simp; omega
    have := this t; have := ih t; omega
/-- How many there are if all are alike. -/
def sumTo (f : Nat → Nat) : Nat → Nat
  | 0 => f 0
  | m + 1 => sumTo f m + f (m + 1)
def all2 : Nat → Nat → Nat
  | 0, _ => 1
  | n + 1, m => sumTo (all2 n) m
theorem all2_zero (m : Nat) : all2 0 m = 1 := rfl
theorem all2_zero' (n : Nat) : all2 n 0 = 1 := by
  induction n with
  | zero => rfl
  | succ n ih => exact ih
theorem all2_succ (n m : Nat) : all2 (n + 1) (m + 1) = all2 n (m + 1) + all2 (n + 1) m := by
  show sumTo (all2 n) m + all2 n (m + 1) = _
  exact Nat.add_comm _ _
theorem all2_step : ∀ m : Nat, m ≤ 8 → ∀ i : Nat, i < 8 → all2 i m * (m + (i + 1)) / (i + 1) = all2 (i + 1) m := by decide +kernel
theorem all2_bound : ∀ n : Nat, n ≤ 8 → ∀ m : Nat, m ≤ 8 → all2 n m ≤ 12870 := by decide +kernel
theorem cnt_all {tol : Int} {s t : List Int} (h : ∀ x ∈ s, ∀ y ∈ t, like tol x y = true) : cnt tol s t = all2 s.length t.length := by
  match s, t with
  | [], t => rw [cnt_nil]; exact (all2_zero _).symm
  | x :: s, [] => rw [cnt_nil']; exact (all2_zero' _).symm
  | x :: s, y :: t =>
    have i1 := cnt_all (s := s) (t := y :: t) fun a ha b hb => h a (by simp [ha]) b hb
    have i2 := cnt_all (s := x :: s) (t := t) fun a ha b hb => h a ha b (by simp [hb])
    have h1 := cnt_both tol x y s t
    rw [h x (by simp) y (by simp)] at h1
    simp only [List.length_cons] at *
    rw [all2_succ]; simp at h1; omega
termination_by s.length + t.length
theorem cnt_le (tol : Int) (s t : List Int) : cnt tol s t ≤ all2 s.length t.length := by
  match s, t with
  | [], t => rw [cnt_nil]; exact Nat.le_of_eq (all2_zero _).symm
  | x :: s, [] => rw [cnt_nil']; exact Nat.le_of_eq (all2_zero' _).symm
  | x :: s, y :: t =>
    have i1 := cnt_le tol s (y :: t)
    have i2 := cnt_le tol (x :: s) t
    have h1 := cnt_both tol x y s t
    simp only [List.length_cons] at *
    rw [all2_succ]; split at h1 <;> omega
termination_by s.length + t.length
end Go.Proofs.Ythhdpjkmjebjhab
