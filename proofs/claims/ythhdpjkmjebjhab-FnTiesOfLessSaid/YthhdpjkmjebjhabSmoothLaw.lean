/- What the laws of smoothing need: plain mathematics, no program in it. -/
import Derived.Test.YthhdpjkmjebjhabSmooth
namespace Go.Proofs.Ythhdpjkmjebjhab

/-! Sums (P83, P89, P92, P99) -/
theorem passFrom_sum (p x : Int) (l : List Int) : (passFrom p (x :: l)).sum = 4 * (x :: l).sum + p - x := by
  induction l generalizing p x with
  | nil => simp [passFrom]; omega
  | cons y l ih => simp only [passFrom, List.sum_cons] at ih ⊢; rw [ih x y]; omega
theorem pass_sum (l : List Int) : (pass l).sum = 4 * l.sum := by
  rw [pass_isR]
  match l with
  | [] => rfl
  | x :: l => simp only [passR]; rw [passFrom_sum]; omega
theorem passN_sum (k : Nat) (l : List Int) : (passN k l).sum = 4 ^ k * l.sum := by
  induction k with
  | zero => simp [passN]
  | succ k ih => simp only [passN]; rw [pass_sum, ih, Int.pow_succ, ← Int.mul_assoc, Int.mul_comm 4]
theorem sum_reverse (l : List Int) : l.reverse.sum = l.sum := by
  induction l with
  | nil => rfl
  | cons x l ih => rw [List.reverse_cons, List.sum_append, ih]; simp only [List.sum_cons, List.sum_nil]; omega
theorem sum_between {l : List Int} {a b : Int} (h : ∀ x ∈ l, a ≤ x ∧ x ≤ b) : a * l.length ≤ l.sum ∧ l.sum ≤ b * l.length := by
  induction l with
  | nil => simp
  | cons x l ih =>
    have h0 := h x (by simp)
    have h1 := ih fun y hy => h y (by simp [hy])
    simp only [List.sum_cons, List.length_cons, Int.natCast_succ]
    rw [Int.mul_add, Int.mul_add]; omega
theorem row_sum {l : List Int} (h : isRow l = true) : -200000 ≤ l.sum ∧ l.sum ≤ 200000 := by
  obtain ⟨h1, h2, h3⟩ := isRow_iff.1 h
  have := sum_between h3
  omega
theorem row_sum_take {l : List Int} (h : isRow l = true) (j : Nat) : -200000 ≤ (l.take j).sum ∧ (l.take j).sum ≤ 200000 := by
  obtain ⟨h1, h2, h3⟩ := isRow_iff.1 h
  have := sum_between (l := l.take j) fun x hx => h3 x (List.mem_of_mem_take hx)
  have := List.length_take_le' j l
  omega
theorem sum_snoc (l : List Int) (x : Int) : (l ++ [x]).sum = l.sum + x := by rw [List.sum_append]; simp

/-! The opposite order and opposite numbers (P84, P91) -/
theorem pass_reverse (l : List Int) : pass l.reverse = (pass l).reverse := by
  apply List.ext_getElem
  · simp [pass_length]
  · intro i h1 h2
    have hi : i < l.length := by simpa [pass_length] using h1
    rw [pass_get, passAt_is (by simpa using hi), show (pass l).reverse[i] = (pass l)[(pass l).length - 1 - i]'(by rw [pass_length]; omega) from List.getElem_reverse _, pass_get, passAt_is (by rw [pass_length]; omega)]
    simp only [List.getElem_reverse, List.length_reverse, pass_length]
    have e1 : l.length - 1 - (i - 1) = min (l.length - 1) (l.length - 1 - i + 1) := by omega
    have e2 : l.length - 1 - min (l.length - 1) (i + 1) = l.length - 1 - i - 1 := by omega
    simp only [e1, e2]; omega
theorem passN_reverse (k : Nat) (l : List Int) : passN k l.reverse = (passN k l).reverse := by
  induction k with
  | zero => rfl
  | succ k ih => simp only [passN]; rw [ih, pass_reverse]
theorem row_reverse {l : List Int} (h : isRow l = true) : isRow l.reverse = true := by
  obtain ⟨h1, h2, h3⟩ := isRow_iff.1 h
  exact isRow_iff.2 ⟨by simpa, by simpa, fun x hx => h3 x (by simpa using hx)⟩
def negL (l : List Int) : List Int := l.map fun x => 0 - x
theorem pass_neg (l : List Int) : pass (negL l) = negL (pass l) := by
  apply List.ext_getElem
  · simp [pass_length, negL]
  · intro i h1 h2
    have hi : i < l.length := by simpa [pass_length, negL] using h1
    simp only [negL, List.getElem_map]
    rw [pass_get, pass_get, passAt_is (by simpa using hi), passAt_is hi]
    simp only [List.getElem_map, List.length_map]; omega
theorem passN_neg (k : Nat) (l : List Int) : passN k (negL l) = negL (passN k l) := by
  induction k with
  | zero => rfl
  | succ k ih => simp only [passN]; rw [ih, pass_neg]
theorem row_neg {l : List Int} (h : isRow l = true) : isRow (negL l) = true := by
  obtain ⟨h1, h2, h3⟩ := isRow_iff.1 h
  refine isRow_iff.2 ⟨by simpa [negL], by simpa [negL], fun x hx => ?_⟩
  simp only [negL, List.mem_map] at hx
  obtain ⟨y, hy, rfl⟩ := hx
  have := h3 y hy; omega

/-! Adding (P85, P95, P97) -/
def bump (l : List Int) (k : Nat) : List Int := l.set k (l.getD k 0 + 1)
def unit (n k : Nat) : List Int := (List.replicate n 0).set k 1
theorem bump_length (l : List Int) (k : Nat) : (bump l k).length = l.length := by simp [bump]
theorem unit_length (n k : Nat) : (unit n k).length = n := by simp [unit]
theorem bump_get {l : List Int} {k i : Nat} (hk : k < l.length) (hi : i < (bump l k).length) : (bump l k)[i] = l[i]'(by rw [bump_length] at hi; exact hi) + (unit l.length k)[i]'(by rw [unit_length]; rw [bump_length] at hi; exact hi) := by
  have hi' : i < l.length := by rw [bump_length] at hi; exact hi
  simp only [bump, unit, List.getElem_set, List.getElem_replicate]
  split
  · rename_i e; subst e; rw [getD_at hk]
  · omega
theorem pass_bump {l : List Int} {k i : Nat} (hk : k < l.length) (hi : i < l.length) : (pass (bump l k))[i]'(by rw [pass_length, bump_length]; exact hi) = (pass l)[i]'(by rw [pass_length]; exact hi) + (pass (unit l.length k))[i]'(by rw [pass_length, unit_length]; exact hi) := by
  rw [pass_get, pass_get, pass_get, passAt_is (by rw [bump_length]; exact hi), passAt_is hi, passAt_is (by rw [unit_length]; exact hi)]
  rw [bump_get hk, bump_get hk, bump_get hk]
  simp only [bump_length, unit_length]; omega
theorem unit_nonneg (n k : Nat) : ∀ x ∈ unit n k, 0 ≤ x ∧ x ≤ 1 := by
  intro x hx
  rcases List.mem_or_eq_of_mem_set hx with h | h
  · have := List.eq_of_mem_replicate h; omega
  · omega
theorem pass_unit_nonneg (n k : Nat) {i : Nat} (hi : i < n) : 0 ≤ (pass (unit n k))[i]'(by rw [pass_length, unit_length]; exact hi) := by
  rw [pass_get, passAt_is (by rw [unit_length]; exact hi)]
  have a := unit_nonneg n k _ (List.getElem_mem (show i - 1 < (unit n k).length by rw [unit_length]; omega))
  have b := unit_nonneg n k _ (List.getElem_mem (show i < (unit n k).length by rw [unit_length]; omega))
  have c := unit_nonneg n k _ (List.getElem_mem (show min ((unit n k).length - 1) (i + 1) < (unit n k).length by rw [unit_length]; omega))
  omega
theorem pass_less {l : List Int} {k i : Nat} (hk : k < l.length) (hi : i < l.length) : (pass l)[i]'(by rw [pass_length]; exact hi) ≤ (pass (bump l k))[i]'(by rw [pass_length, bump_length]; exact hi) := by
  rw [pass_bump hk hi]
  have := pass_unit_nonneg l.length k hi
  omega
theorem row_unit {n k : Nat} (h1 : 1 ≤ n) (h2 : n ≤ 20) : isRow (unit n k) = true :=
  isRow_iff.2 ⟨by rw [unit_length]; exact h1, by rw [unit_length]; exact h2, fun x hx => by have := unit_nonneg n k x hx; omega⟩
def plus (l : List Int) (c : Int) : List Int := l.map fun x => x + c
theorem plus_length (l : List Int) (c : Int) : (plus l c).length = l.length := by simp [plus]
theorem pass_plus (l : List Int) (c : Int) : pass (plus l c) = plus (pass l) (4 * c) := by
  apply List.ext_getElem
  · simp [pass_length, plus]
  · intro i h1 h2
    have hi : i < l.length := by simpa [pass_length, plus] using h1
    simp only [plus, List.getElem_map]
    rw [pass_get, pass_get, passAt_is (by simpa using hi), passAt_is hi]
    simp only [List.getElem_map, List.length_map]; omega
theorem passN_plus (k : Nat) (l : List Int) (c : Int) : passN k (plus l c) = plus (passN k l) (4 ^ k * c) := by
  induction k with
  | zero => simp [passN]
  | succ k ih => simp only [passN]; rw [ih, pass_plus, Int.pow_succ, ← Int.mul_assoc, Int.mul_comm 4]

/-! The least and the greatest number (P87, P90, P92, P93, P94) -/
theorem foldl_min (l : List Int) (a : Int) : l.foldl min a ≤ a ∧ (∀ x ∈ l, l.foldl min a ≤ x) ∧ (l.foldl min a = a ∨ l.foldl min a ∈ l) := by
  induction l generalizing a with
  | nil => simp
  | cons y l ih =>
    obtain ⟨h1, h2, h3⟩ := ih (min a y)
    simp only [List.foldl_cons]
    refine ⟨by omega, fun x hx => ?_, ?_⟩
    · rcases List.mem_cons.1 hx with rfl | hx
      · omega
      · exact h2 x hx
    · rcases h3 with h3 | h3
      · rw [h3]
        by_cases c : a ≤ y
        · exact .inl (by omega)
        · exact .inr (by rw [show min a y = y by omega]; simp)
      · exact .inr (by simp [h3])
theorem foldl_max (l : List Int) (a : Int) : a ≤ l.foldl max a ∧ (∀ x ∈ l, x ≤ l.foldl max a) ∧ (l.foldl max a = a ∨ l.foldl max a ∈ l) := by
  induction l generalizing a with
  | nil => simp
  | cons y l ih =>
    obtain ⟨h1, h2, h3⟩ := ih (max a y)
    simp only [List.foldl_cons]
    refine ⟨by omega, fun x hx => ?_, ?_⟩
    · rcases List.mem_cons.1 hx with rfl | hx
      · omega
      · exact h2 x hx
    · rcases h3 with h3 | h3
      · rw [h3]
        by_cases c : y ≤ a
        · exact .inl (by omega)
        · exact .inr (by rw [show max a y = y by omega]; simp)
      · exact .inr (by simp [h3])
theorem ends_all (l : List Int) : ∀ x ∈ l, lowL l ≤ x ∧ x ≤ highL l := fun x hx => ⟨(foldl_min l _).2.1 x hx, (foldl_max l _).2.1 x hx⟩
theorem low_mem {l : List Int} (h : 1 ≤ l.length) : lowL l ∈ l := by
  match l, h with
  | y :: l, _ =>
    rcases (foldl_min (y :: l) ((y :: l).headD 0)).2.2 with h | h
    · unfold lowL; rw [h]; simp
    · exact h
theorem high_mem {l : List Int} (h : 1 ≤ l.length) : highL l ∈ l := by
  match l, h with
  | y :: l, _ =>
    rcases (foldl_max (y :: l) ((y :: l).headD 0)).2.2 with h | h
    · unfold highL; rw [h]; simp
    · exact h
theorem low_high {l : List Int} (h : 1 ≤ l.length) : lowL l ≤ highL l := (ends_all l _ (low_mem h)).2
theorem row_ends {l : List Int} (h : isRow l = true) : -10000 ≤ lowL l ∧ lowL l ≤ highL l ∧ highL l ≤ 10000 := by
  obtain ⟨h1, h2, h3⟩ := isRow_iff.1 h
  have a := h3 _ (low_mem h1); have b := h3 _ (high_mem h1); have c := low_high h1
  omega
theorem pass_ends {l : List Int} {a b : Int} (h : ∀ x ∈ l, a ≤ x ∧ x ≤ b) : ∀ x ∈ pass l, 4 * a ≤ x ∧ x ≤ 4 * b := by
  intro x hx
  obtain ⟨i, hi, rfl⟩ := List.getElem_of_mem hx
  have hi' : i < l.length := by rwa [pass_length] at hi
  rw [pass_get, passAt_is hi']
  have p := h _ (List.getElem_mem (show i - 1 < l.length by omega))
  have q := h _ (List.getElem_mem hi')
  have r := h _ (List.getElem_mem (show min (l.length - 1) (i + 1) < l.length by omega))
  omega
theorem passN_ends {l : List Int} {a b : Int} (h : ∀ x ∈ l, a ≤ x ∧ x ≤ b) (k : Nat) : ∀ x ∈ passN k l, 4 ^ k * a ≤ x ∧ x ≤ 4 ^ k * b := by
  induction k with
  | zero => simpa [passN] using h
  | succ k ih =>
    intro x hx
    have := pass_ends ih x hx
    rw [Int.pow_succ, Int.mul_comm (4 ^ k) 4, Int.mul_assoc, Int.mul_assoc]
    exact this

/-! Roughness (P86, P90, P93, P98) -/
theorem rough_nonneg (l : List Int) : 0 ≤ roughL l := by
  match l with
  | [] => simp [roughL]
  | [x] => simp [roughL]
  | a :: b :: l => simp only [roughL]; have := rough_nonneg (b :: l); omega
theorem rough_pass (p x y : Int) (l : List Int) : roughL (passFrom p (x :: y :: l)) ≤ max (x - p) (p - x) + 3 * max (y - x) (x - y) + 4 * roughL (y :: l) := by
  induction l generalizing p x y with
  | nil => simp only [passFrom, roughL]; omega
  | cons z l ih =>
    have h := ih x y z
    simp only [passFrom, roughL] at h ⊢
    omega
theorem pass_rough (l : List Int) : roughL (pass l) ≤ 4 * roughL l := by
  rw [pass_isR]
  match l with
  | [] => simp [passR, roughL]
  | [x] => simp [passR, passFrom, roughL]
  | x :: y :: l => simp only [passR]; have := rough_pass x x y l; simp only [roughL]; omega
theorem passN_rough (k : Nat) (l : List Int) : roughL (passN k l) ≤ 4 ^ k * roughL l := by
  induction k with
  | zero => simp [passN]
  | succ k ih =>
    have := pass_rough (passN k l)
    simp only [passN]
    rw [Int.pow_succ, Int.mul_comm (4 ^ k) 4, Int.mul_assoc]; omega
theorem rough_from (a : Int) (l : List Int) : ∀ x ∈ a :: l, x - a ≤ roughL (a :: l) ∧ a - x ≤ roughL (a :: l) := by
  induction l generalizing a with
  | nil => intro x hx; simp only [List.mem_singleton] at hx; subst hx; simp [roughL]
  | cons b l ih =>
    intro x hx
    simp only [roughL]
    have hn := rough_nonneg (b :: l)
    rcases List.mem_cons.1 hx with rfl | hx
    · omega
    · have := ih b x hx; omega
theorem rough_any (l : List Int) : ∀ x ∈ l, ∀ y ∈ l, x - y ≤ roughL l := by
  induction l with
  | nil => intro x hx; cases hx
  | cons a l ih =>
    intro x hx y hy
    rcases List.mem_cons.1 hx with rfl | hx'
    · exact (rough_from x l y hy).2
    · rcases List.mem_cons.1 hy with rfl | hy'
      · exact (rough_from y l x hx).1
      · have := ih x hx' y hy'
        match l, hx' with
        | b :: l, _ => simp only [roughL] at this ⊢; omega
theorem rough_range {l : List Int} (h : 1 ≤ l.length) : highL l - lowL l ≤ roughL l := rough_any l _ (high_mem h) _ (low_mem h)
theorem rough_flat {l : List Int} {c : Int} (h : ∀ x ∈ l, x = c) : roughL l = 0 := by
  match l with
  | [] => rfl
  | [x] => rfl
  | a :: b :: l =>
    have ha := h a (by simp); have hb := h b (by simp)
    simp only [roughL]; rw [rough_flat (l := b :: l) (c := c) fun x hx => h x (by simp [List.mem_cons.1 hx])]; omega
theorem rough_zero {l : List Int} (h : 1 ≤ l.length) : roughL l = 0 ↔ lowL l = highL l := by
  constructor
  · intro e; have := rough_range h; have := low_high h; omega
  · intro e
    exact rough_flat (c := lowL l) fun x hx => by have := ends_all l x hx; omega
theorem rough_snoc (l : List Int) (y x : Int) : roughL (l ++ [y, x]) = roughL (l ++ [y]) + max (x - y) (y - x) := by
  match l with
  | [] => simp [roughL]
  | [a] => simp only [List.cons_append, List.nil_append, roughL]; omega
  | a :: b :: l =>
    have := rough_snoc (b :: l) y x
    simp only [List.cons_append, roughL] at this ⊢
    rw [this]; omega
theorem rough_reverse (l : List Int) : roughL l.reverse = roughL l := by
  match l with
  | [] => rfl
  | [x] => rfl
  | a :: b :: l =>
    have := rough_reverse (b :: l)
    rw [List.reverse_cons] at this
    rw [List.reverse_cons, List.reverse_cons, List.append_assoc, List.singleton_append, rough_snoc, this]
    simp only [roughL]; omega
theorem rough_take_step {l : List Int} {j : Nat} (h : j + 1 < l.length) : roughL (l.take (j + 1 + 1)) = roughL (l.take (j + 1)) + max (l[j + 1] - l[j]) (l[j] - l[j + 1]) := by
  rw [List.take_succ_eq_append_getElem h, List.take_succ_eq_append_getElem (show j < l.length by omega), List.append_assoc, List.singleton_append, rough_snoc]
theorem rough_bound {l : List Int} {c : Int} (h : ∀ x ∈ l, -c ≤ x ∧ x ≤ c) : roughL l ≤ 2 * c * l.length := by
  match l with
  | [] => simp [roughL]
  | [x] => have := h x (by simp); simp [roughL]; omega
  | a :: b :: l =>
    have := rough_bound (l := b :: l) (c := c) fun x hx => h x (by simp [List.mem_cons.1 hx])
    have ha := h a (by simp); have hb := h b (by simp)
    simp only [roughL]
    rw [List.length_cons, Int.natCast_succ, Int.mul_add]; omega

/-! Flat rows (P88, P96) -/
def flat (n : Nat) (c : Int) : List Int := List.replicate n c
theorem pass_flat (n : Nat) (c : Int) : pass (flat n c) = flat n (4 * c) := by
  apply List.ext_getElem
  · simp [pass_length, flat]
  · intro i h1 h2
    have hi : i < n := by simpa [pass_length, flat] using h1
    rw [pass_get, passAt_is (by simpa [flat] using hi)]
    simp only [flat, List.getElem_replicate]; omega
theorem passN_flat (k n : Nat) (c : Int) : passN k (flat n c) = flat n (4 ^ k * c) := by
  induction k with
  | zero => simp [passN]
  | succ k ih => simp only [passN]; rw [ih, pass_flat, Int.pow_succ, ← Int.mul_assoc, Int.mul_comm 4]
theorem row_flat {n : Nat} {c : Int} (h1 : 1 ≤ n) (h2 : n ≤ 20) (hc : -10000 ≤ c ∧ c ≤ 10000) : isRow (flat n c) = true :=
  isRow_iff.2 ⟨by simpa [flat], by simpa [flat], fun x hx => by have := List.eq_of_mem_replicate hx; omega⟩

/-! A single step (P98) -/
def stepL (n : Nat) : List Int := (List.range n).map fun i => if i < n / 2 then 3 else 10
theorem step_all : ∀ n : Fin 21, 4 ≤ n.val → isRow (stepL n.val) = true ∧ roughL (stepL n.val) = 7 ∧ roughL (pass (stepL n.val)) = 28 := by decide
theorem step_is {n : Nat} (h1 : 4 ≤ n) (h2 : n ≤ 20) : isRow (stepL n) = true ∧ roughL (stepL n) = 7 ∧ roughL (pass (stepL n)) = 28 := step_all ⟨n, by omega⟩ h1

/-! One number more, and the first alone (P99) -/
theorem row_snoc {l : List Int} (h : isRow l = true) (h2 : l.length < 20) : isRow (l ++ [0]) = true := by
  obtain ⟨h1, _, h3⟩ := isRow_iff.1 h
  refine isRow_iff.2 ⟨by simp, by simp; omega, fun x hx => ?_⟩
  rcases List.mem_append.1 hx with q | q
  · exact h3 x q
  · simp only [List.mem_singleton] at q; omega
theorem row_full {l : List Int} (h2 : 20 ≤ l.length) : isRow (l ++ [0]) = false := by
  cases k : isRow (l ++ [0])
  · rfl
  · have := (isRow_iff.1 k).2.1; simp at this; omega
theorem row_first {l : List Int} (h : isRow l = true) (h0 : 0 < l.length) : isRow [l[0]] = true :=
  isRow_iff.2 ⟨by simp, by simp, fun x hx => by simp only [List.mem_singleton] at hx; subst hx; exact (isRow_iff.1 h).2.2 _ (List.getElem_mem h0)⟩
end Go.Proofs.Ythhdpjkmjebjhab
