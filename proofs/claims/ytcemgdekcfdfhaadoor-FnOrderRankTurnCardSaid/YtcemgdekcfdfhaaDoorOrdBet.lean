/- How many orders have a layer of the first core ahead of one of the second: the formula, its laws, and that it counts the orders of all ranks. Plain mathematics, no program in it. -/
import Derived.Test.YtcemgdekcfdfhaaDoorOrdMix
namespace Go.Proofs.YtcemgdekcfdfhaaDoor

/-- Of a single part, both layers within. -/
def bet (a b x : Nat) : Nat → Nat
  | 0 => ch x 0 * ch (a - 1 - x) b
  | y + 1 => bet a b x y + ch x (y + 1) * ch (a - 1 - x) (b - (y + 1))
theorem bet_turn : ∀ a, a < 7 → ∀ b, b < 7 → ∀ x, x < a → ∀ y, y < b → bet a b x y + bet b a y x = ch a b := by decide +kernel
theorem bet_pos : ∀ a, a < 7 → ∀ b, b < 7 → ∀ x, x < a → ∀ y, y < b → 0 < bet a b x y := by decide +kernel
theorem bet_ends : ∀ a, a < 7 → ∀ b, b < 7 → 0 < a → 0 < b → bet a b 0 0 = ch (a - 1) b := by decide +kernel
theorem bet_left : ∀ a, a < 7 → ∀ b, b < 7 → ∀ x, x < 6 → x + 1 < a → ∀ y, y < b → bet a b (x + 1) y ≤ bet a b x y := by decide +kernel
theorem bet_right (a b x y : Nat) : bet a b x y ≤ bet a b x (y + 1) := by simp only [bet]; omega
theorem bet_less {a b x y : Nat} (ha : a < 7) (hb : b < 7) (hx : x < a) (hy : y < b) : bet a b x y < ch a b := by
  have h := bet_turn a ha b hb x hx y hy
  have k := bet_pos b hb a ha y hy x hx
  omega
theorem bet_step : ∀ a, a < 6 → ∀ b, b < 6 → ∀ x, x < a + 1 → ∀ y, y < b + 1 → bet (a + 1) (b + 1) x y = (if x = 0 then ch a (b + 1) else bet a (b + 1) (x - 1) y) + (if y = 0 then 0 else bet (a + 1) b x (y - 1)) := by decide +kernel

/-- The sum of the first n of a row. -/
def sumTo (f : Nat → Nat) : Nat → Nat
  | 0 => 0
  | n + 1 => sumTo f n + f n
theorem sumTo_congr {f g : Nat → Nat} {n : Nat} (h : ∀ i, i < n → f i = g i) : sumTo f n = sumTo g n := by
  induction n with
  | zero => rfl
  | succ n ih => simp only [sumTo, ih fun i hi => h i (by omega), h n (by omega)]
theorem sumTo_add (f : Nat → Nat) (n m : Nat) : sumTo f (n + m) = sumTo f n + sumTo (fun i => f (n + i)) m := by
  induction m with
  | zero => rfl
  | succ m ih =>
    show sumTo f (n + m) + f (n + m) = sumTo f n + (sumTo (fun i => f (n + i)) m + f (n + m))
    rw [ih, Nat.add_assoc]
theorem sumTo_const (c n : Nat) : sumTo (fun _ => c) n = n * c := by
  induction n with
  | zero => simp [sumTo]
  | succ n ih => simp only [sumTo, ih, Nat.add_mul, Nat.one_mul]
theorem sumTo_mul (f : Nat → Nat) (c n : Nat) : sumTo (fun i => f i * c) n = sumTo f n * c := by
  induction n with
  | zero => simp [sumTo]
  | succ n ih => simp only [sumTo, ih, Nat.add_mul]
theorem sumTo_le {f g : Nat → Nat} {n : Nat} (h : ∀ i, i < n → f i ≤ g i) : sumTo f n ≤ sumTo g n := by
  induction n with
  | zero => exact Nat.le_refl _
  | succ n ih => have := ih fun i hi => h i (by omega); have := h n (by omega); simp only [sumTo]; omega
/-- Digits: first the great one, then the small one. -/
theorem sumTo_digits (f : Nat → Nat → Nat) (c m : Nat) (hc : 0 < c) : sumTo (fun n => f (n / c) (n % c)) (m * c) = sumTo (fun d => sumTo (f d) c) m := by
  induction m with
  | zero => simp [sumTo]
  | succ m ih =>
    rw [Nat.succ_mul, sumTo_add, ih]
    simp only [sumTo]
    congr 1
    refine sumTo_congr fun i hi => ?_
    rw [Nat.mul_comm m c, Nat.mul_add_div hc, Nat.div_eq_of_lt hi, Nat.mul_add_mod, Nat.mod_eq_of_lt hi, Nat.add_zero]

/-- Letter by letter: is the i-th 'a' ahead of the k-th 'b'? -/
def ahead : Nat → Nat → Tx → Bool
  | _, _, [] => false
  | i, k, false :: t => if i = 0 then true else ahead (i - 1) k t
  | i, k, true :: t => if k = 0 then false else ahead i (k - 1) t
theorem ahead_in (i k : Nat) (t u : Tx) (h : i < na t ∨ k < nb t) : ahead i k (t ++ u) = ahead i k t := by
  induction t generalizing i k with
  | nil => simp [na, nb] at h
  | cons x t ih =>
    cases x with
    | false =>
      rw [na_a, nb_a] at h
      show (if i = 0 then true else ahead (i - 1) k (t ++ u)) = if i = 0 then true else ahead (i - 1) k t
      split
      · rfl
      · exact ih _ _ (by omega)
    | true =>
      rw [na_b, nb_b] at h
      show (if k = 0 then false else ahead i (k - 1) (t ++ u)) = if k = 0 then false else ahead i (k - 1) t
      split
      · rfl
      · exact ih _ _ (by omega)
theorem ahead_out (i k : Nat) (t u : Tx) (hi : na t ≤ i) (hk : nb t ≤ k) : ahead i k (t ++ u) = ahead (i - na t) (k - nb t) u := by
  induction t generalizing i k with
  | nil => simp [na, nb]
  | cons x t ih =>
    cases x with
    | false =>
      rw [na_a] at hi ⊢; rw [nb_a] at hk ⊢
      show (if i = 0 then true else ahead (i - 1) k (t ++ u)) = _
      rw [if_neg (by omega), ih _ _ (by omega) hk]
      congr 1
      omega
    | true =>
      rw [na_b] at hi ⊢; rw [nb_b] at hk ⊢
      show (if k = 0 then false else ahead i (k - 1) (t ++ u)) = _
      rw [if_neg (by omega), ih _ _ hi (by omega)]
      congr 1
      omega
theorem ahead_all (i k : Nat) (t : Tx) (hi : i < na t) (hk : nb t ≤ k) : ahead i k t = true := by
  induction t generalizing i k with
  | nil => simp [na] at hi
  | cons x t ih =>
    cases x with
    | false =>
      rw [na_a] at hi; rw [nb_a] at hk
      show (if i = 0 then true else ahead (i - 1) k t) = true
      split
      · rfl
      · exact ih _ _ (by omega) hk
    | true =>
      rw [na_b] at hi; rw [nb_b] at hk
      show (if k = 0 then false else ahead i (k - 1) t) = true
      rw [if_neg (by omega)]
      exact ih _ _ hi (by omega)
theorem ahead_no (i k : Nat) (t : Tx) (hi : na t ≤ i) (_hk : k < nb t) : ahead i k t = false := by
  induction t generalizing i k with
  | nil => rfl
  | cons x t ih =>
    cases x with
    | false =>
      rw [na_a] at hi; rw [nb_a] at _hk
      show (if i = 0 then true else ahead (i - 1) k t) = false
      rw [if_neg (by omega)]
      exact ih _ _ (by omega) _hk
    | true =>
      rw [na_b] at hi; rw [nb_b] at _hk
      show (if k = 0 then false else ahead i (k - 1) t) = false
      split
      · rfl
      · exact ih _ _ hi (by omega)
def one (b : Bool) : Nat := if b then 1 else 0
/-- The formula counts the texts of all ranks. -/
theorem bet_counts : ∀ a b, a < 7 → b < 7 → ∀ x, x < a → ∀ y, y < b → sumTo (fun n => one (ahead x y (tx a b n))) (ch a b) = bet a b x y := two_ind
  (fun b _ _ x hx => by omega)
  (fun a _ _ _ x _ y hy => by omega)
  (fun a b h1 h2 ha hb x hx y hy => by
    rw [bet_step a (by omega) b (by omega) x hx y hy, ch_step, sumTo_add]
    congr 1
    · have e : sumTo (fun n => one (ahead x y (tx (a + 1) (b + 1) n))) (ch a (b + 1)) = sumTo (fun n => if x = 0 then 1 else one (ahead (x - 1) y (tx a (b + 1) n))) (ch a (b + 1)) := by
        refine sumTo_congr fun n hn => ?_
        rw [tx_step, if_pos hn]
        show one (if x = 0 then true else ahead (x - 1) y (tx a (b + 1) n)) = _
        split <;> rfl
      rw [e]
      split
      · rw [sumTo_const, Nat.mul_one]
      · exact h1 (by omega) hb (x - 1) (by omega) y hy
    · have e : sumTo (fun i => one (ahead x y (tx (a + 1) (b + 1) (ch a (b + 1) + i)))) (ch (a + 1) b) = sumTo (fun n => if y = 0 then 0 else one (ahead x (y - 1) (tx (a + 1) b n))) (ch (a + 1) b) := by
        refine sumTo_congr fun n hn => ?_
        rw [tx_step, if_neg (by omega), Nat.add_sub_cancel_left]
        show one (if y = 0 then false else ahead x (y - 1) (tx (a + 1) b n)) = _
        split <;> rfl
      rw [e]
      split
      · rw [sumTo_const, Nat.mul_zero]
      · exact h2 ha (by omega) x hx (y - 1) (by omega))

/-! Several parts. -/
def sumA (ps : List Pt) : Nat := (ps.map Prod.fst).sum
def sumB (ps : List Pt) : Nat := (ps.map Prod.snd).sum
def Small (ps : List Pt) : Prop := ∀ p ∈ ps, p.1 < 7 ∧ p.2 < 7
/-- How many orders of parts have the layer i ahead of the layer k. -/
def betOf : List Pt → Nat → Nat → Nat
  | [], _, _ => 0
  | p :: ps, i, k => if i < p.1 then (if k < p.2 then bet p.1 p.2 i k * cnt ps else ch p.1 p.2 * cnt ps) else if k < p.2 then 0 else ch p.1 p.2 * betOf ps (i - p.1) (k - p.2)
theorem betOf_counts (ps : List Pt) (hs : Small ps) (i k : Nat) (hi : i < sumA ps) (hk : k < sumB ps) : sumTo (fun n => one (ahead i k (txs ps n).flatten)) (cnt ps) = betOf ps i k := by
  induction ps generalizing i k with
  | nil => simp [sumA] at hi
  | cons p ps ih =>
    have c := cnt_pos ps
    have sp := hs p (by simp)
    simp only [sumA, sumB, List.map_cons, List.sum_cons] at hi hk
    have e : sumTo (fun n => one (ahead i k (txs (p :: ps) n).flatten)) (cnt (p :: ps)) = sumTo (fun d => sumTo (fun m => one (ahead i k (tx p.1 p.2 d ++ (txs ps m).flatten))) (cnt ps)) (ch p.1 p.2) :=
      sumTo_digits (fun d m => one (ahead i k (tx p.1 p.2 d ++ (txs ps m).flatten))) (cnt ps) (ch p.1 p.2) (by omega)
    rw [e]
    simp only [betOf]
    by_cases h1 : i < p.1
    · rw [if_pos h1]
      by_cases h2 : k < p.2
      · rw [if_pos h2, ← bet_counts p.1 p.2 sp.1 sp.2 i h1 k h2, ← sumTo_mul]
        refine sumTo_congr fun d _ => ?_
        rw [Nat.mul_comm, ← sumTo_const]
        refine sumTo_congr fun m _ => ?_
        rw [ahead_in _ _ _ _ (.inl (by rw [(tx_counts _ _ _).1]; exact h1))]
      · rw [if_neg h2, ← sumTo_const]
        refine sumTo_congr fun d _ => ?_
        have e2 : sumTo (fun m => one (ahead i k (tx p.1 p.2 d ++ (txs ps m).flatten))) (cnt ps) = sumTo (fun _ => 1) (cnt ps) := sumTo_congr fun m _ => by
          rw [ahead_in _ _ _ _ (.inl (by rw [(tx_counts _ _ _).1]; exact h1)), ahead_all _ _ _ (by rw [(tx_counts _ _ _).1]; exact h1) (by rw [(tx_counts _ _ _).2]; omega)]
          rfl
        rw [e2, sumTo_const, Nat.mul_one]
    · rw [if_neg h1]
      by_cases h2 : k < p.2
      · rw [if_pos h2, ← Nat.mul_zero (ch p.1 p.2), ← sumTo_const]
        refine sumTo_congr fun d _ => ?_
        rw [← Nat.mul_zero (cnt ps), ← sumTo_const]
        refine sumTo_congr fun m _ => ?_
        rw [ahead_in _ _ _ _ (.inr (by rw [(tx_counts _ _ _).2]; exact h2)), ahead_no _ _ _ (by rw [(tx_counts _ _ _).1]; omega) (by rw [(tx_counts _ _ _).2]; exact h2)]
        rfl
      · rw [if_neg h2, ← sumTo_const]
        refine sumTo_congr fun d _ => ?_
        rw [← ih (fun q hq => hs q (by simp [hq])) (i - p.1) (k - p.2) (by simp only [sumA]; omega) (by simp only [sumB]; omega)]
        refine sumTo_congr fun m _ => ?_
        rw [ahead_out _ _ _ _ (by rw [(tx_counts _ _ _).1]; omega) (by rw [(tx_counts _ _ _).2]; omega), (tx_counts _ _ _).1, (tx_counts _ _ _).2]
theorem small_swap {ps : List Pt} (h : Small ps) : Small (ps.map Prod.swap) := fun p hp => by
  obtain ⟨q, hq, rfl⟩ := List.mem_map.1 hp
  exact ⟨(h q hq).2, (h q hq).1⟩
/-- Either layer is ahead. -/
theorem betOf_turn (ps : List Pt) (hs : Small ps) (i k : Nat) (hi : i < sumA ps) (hk : k < sumB ps) : betOf ps i k + betOf (ps.map Prod.swap) k i = cnt ps := by
  induction ps generalizing i k with
  | nil => simp [sumA] at hi
  | cons p ps ih =>
    have sp := hs p (by simp)
    simp only [sumA, sumB, List.map_cons, List.sum_cons] at hi hk
    simp only [betOf, List.map_cons, Prod.fst_swap, Prod.snd_swap, cnt, cnt_swap]
    by_cases h1 : i < p.1
    · by_cases h2 : k < p.2
      · rw [if_pos h1, if_pos h2, if_pos h2, if_pos h1, ← Nat.add_mul, bet_turn p.1 sp.1 p.2 sp.2 i h1 k h2]
      · rw [if_pos h1, if_neg h2, if_neg h2, if_pos h1, Nat.add_zero]
    · by_cases h2 : k < p.2
      · rw [if_neg h1, if_pos h2, if_pos h2, if_neg h1, Nat.zero_add, ch_comm p.2 p.1]
      · rw [if_neg h1, if_neg h2, if_neg h2, if_neg h1, ch_comm p.2 p.1, ← Nat.mul_add, ih (fun q hq => hs q (by simp [hq])) _ _ (by simp only [sumA]; omega) (by simp only [sumB]; omega)]
theorem betOf_le (ps : List Pt) (hs : Small ps) (i k : Nat) : betOf ps i k ≤ cnt ps := by
  induction ps generalizing i k with
  | nil => simp [betOf]
  | cons p ps ih =>
    have sp := hs p (by simp)
    simp only [betOf, cnt]
    split
    · split
      · rename_i h1 h2
        exact Nat.mul_le_mul_right _ (Nat.le_of_lt (bet_less sp.1 sp.2 h1 h2))
      · exact Nat.le_refl _
    · split
      · omega
      · exact Nat.mul_le_mul_left _ (ih (fun q hq => hs q (by simp [hq])) _ _)
/-- A later layer of the first core is ahead no more often. -/
theorem betOf_left (ps : List Pt) (hs : Small ps) (i k : Nat) (hk : k < sumB ps) : betOf ps (i + 1) k ≤ betOf ps i k := by
  induction ps generalizing i k with
  | nil => simp [betOf]
  | cons p ps ih =>
    have sp := hs p (by simp)
    have hs' : Small ps := fun q hq => hs q (by simp [hq])
    simp only [sumB, List.map_cons, List.sum_cons] at hk
    simp only [betOf]
    by_cases h1 : i + 1 < p.1
    · rw [if_pos h1, if_pos (show i < p.1 by omega)]
      split
      · rename_i h2; exact Nat.mul_le_mul_right _ (bet_left p.1 sp.1 p.2 sp.2 i (by omega) h1 k h2)
      · exact Nat.le_refl _
    · rw [if_neg h1]
      split
      · exact Nat.zero_le _
      · rename_i h2
        by_cases h3 : i < p.1
        · rw [if_pos h3]; exact Nat.mul_le_mul_left _ (betOf_le ps hs' _ _)
        · rw [if_neg h3, show i + 1 - p.1 = i - p.1 + 1 by omega]
          exact Nat.mul_le_mul_left _ (ih hs' _ _ (by simp only [sumB]; omega))
/-- Ahead of a later layer of the second core it is no less often. -/
theorem betOf_right (ps : List Pt) (hs : Small ps) (i k : Nat) : betOf ps i k ≤ betOf ps i (k + 1) := by
  induction ps generalizing i k with
  | nil => simp [betOf]
  | cons p ps ih =>
    have sp := hs p (by simp)
    have hs' : Small ps := fun q hq => hs q (by simp [hq])
    simp only [betOf]
    by_cases h1 : i < p.1
    · rw [if_pos h1, if_pos h1]
      by_cases h2 : k + 1 < p.2
      · rw [if_pos h2, if_pos (show k < p.2 by omega)]; exact Nat.mul_le_mul_right _ (bet_right _ _ _ _)
      · rw [if_neg h2]
        split
        · rename_i h3; exact Nat.mul_le_mul_right _ (Nat.le_of_lt (bet_less sp.1 sp.2 h1 h3))
        · exact Nat.le_refl _
    · rw [if_neg h1, if_neg h1]
      by_cases h2 : k < p.2
      · rw [if_pos h2]; exact Nat.zero_le _
      · rw [if_neg h2, if_neg (show ¬ k + 1 < p.2 by omega), show k + 1 - p.2 = k - p.2 + 1 by omega]
        exact Nat.mul_le_mul_left _ (ih hs' _ _)
end Go.Proofs.YtcemgdekcfdfhaaDoor
