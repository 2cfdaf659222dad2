/- Orders of one part: how many there are, the one with a rank, the rank of one. Letters: false stands for 'a', true for 'b'. Plain mathematics, no program in it. -/
import Derived.Test.YtcemgdekcfdfhaaDoorRows
namespace Go.Proofs.YtcemgdekcfdfhaaDoor

/-- The number of texts with so many letters of both. -/
def ch : Nat → Nat → Nat
  | 0 => fun _ => 1
  | a + 1 => fun b => Nat.rec 1 (fun b prev => ch a (b + 1) + prev) b
theorem ch_none (b : Nat) : ch 0 b = 1 := rfl
theorem ch_left (a : Nat) : ch a 0 = 1 := by cases a <;> rfl
theorem ch_step (a b : Nat) : ch (a + 1) (b + 1) = ch a (b + 1) + ch (a + 1) b := rfl
/-- Both numbers from nothing on. -/
theorem two_ind {p : Nat → Nat → Prop} (h0 : ∀ b, p 0 b) (h1 : ∀ a, p a 0 → p (a + 1) 0) (h2 : ∀ a b, p a (b + 1) → p (a + 1) b → p (a + 1) (b + 1)) : ∀ a b, p a b
  | 0, b => h0 b
  | a + 1, b => by
    have ih := two_ind h0 h1 h2 a
    induction b with
    | zero => exact h1 a (ih 0)
    | succ b ihb => exact h2 a b (ih (b + 1)) ihb
theorem ch_pos : ∀ a b, 1 ≤ ch a b := two_ind (fun _ => Nat.le_refl _) (fun a _ => by rw [ch_left]; exact Nat.le_refl _) (fun a b h _ => by rw [ch_step]; omega)
theorem ch_right (b : Nat) : ch b 0 = ch 0 b := by rw [ch_left, ch_none]
theorem ch_comm : ∀ a b, ch a b = ch b a := two_ind (fun b => (ch_left b).symm) (fun a _ => by rw [ch_left, ch_none]) (fun a b h1 h2 => by rw [ch_step, ch_step, h1, h2, Nat.add_comm])
theorem ch_mul : ∀ a, a < 7 → ∀ b, b < 7 → ch (a + 1) b * (a + 1) = ch a b * (b + (a + 1)) := by decide
theorem ch_most : ∀ a, a < 7 → ∀ b, b < 7 → ch a b ≤ 924 := by decide
theorem ch_mono {a b : Nat} : ch a b ≤ ch (a + 1) b := by
  cases b with
  | zero => rw [ch_left, ch_left]; exact Nat.le_refl _
  | succ b => rw [ch_step]; omega

abbrev Tx := List Bool
def na (t : Tx) : Nat := t.count false
def nb (t : Tx) : Nat := t.count true
theorem na_a (t : Tx) : na (false :: t) = na t + 1 := by simp [na]
theorem na_b (t : Tx) : na (true :: t) = na t := by simp [na]
theorem nb_a (t : Tx) : nb (false :: t) = nb t := by simp [nb]
theorem nb_b (t : Tx) : nb (true :: t) = nb t + 1 := by simp [nb]
theorem na_nb (t : Tx) : na t + nb t = t.length := by
  induction t with
  | nil => rfl
  | cons x t ih =>
    cases x
    · rw [na_a, nb_a, List.length_cons]; omega
    · rw [na_b, nb_b, List.length_cons]; omega
/-- The rank of a text. -/
def rk : Tx → Nat
  | [] => 0
  | false :: t => rk t
  | true :: t => (if na t = 0 then 0 else ch (na t - 1) (nb t + 1)) + rk t
/-- The text of so many letters of both with a rank. -/
def tx : Nat → Nat → Nat → Tx
  | 0 => fun b _ => List.replicate b true
  | a + 1 => fun b => Nat.rec (fun _ => false :: tx a 0 0) (fun b prev n => if n < ch a (b + 1) then false :: tx a (b + 1) n else true :: prev (n - ch a (b + 1))) b
theorem tx_none (b n : Nat) : tx 0 b n = List.replicate b true := rfl
theorem tx_left (a n : Nat) : tx (a + 1) 0 n = false :: tx a 0 0 := rfl
theorem tx_step (a b n : Nat) : tx (a + 1) (b + 1) n = if n < ch a (b + 1) then false :: tx a (b + 1) n else true :: tx (a + 1) b (n - ch a (b + 1)) := rfl
theorem tx_counts : ∀ a b n, na (tx a b n) = a ∧ nb (tx a b n) = b := two_ind
  (fun b n => by rw [tx_none]; simp [na, nb, List.count_replicate])
  (fun a h n => by rw [tx_left, na_a, nb_a]; have := h 0; omega)
  (fun a b h1 h2 n => by
    rw [tx_step]
    split
    · rw [na_a, nb_a]; have := h1 n; omega
    · rw [na_b, nb_b]; have := h2 (n - ch a (b + 1)); omega)
theorem tx_length (a b n : Nat) : (tx a b n).length = a + b := by
  have h := tx_counts a b n
  have := na_nb (tx a b n)
  omega
theorem rk_all_b (b : Nat) : rk (List.replicate b true) = 0 := by
  induction b with
  | zero => rfl
  | succ b ih => rw [List.replicate_succ]; simp [rk, ih, na, List.count_replicate]
/-- The rank of the text with a rank. -/
theorem rk_tx : ∀ a b n, n < ch a b → rk (tx a b n) = n := two_ind
  (fun b n h => by rw [tx_none, rk_all_b]; rw [ch_none] at h; omega)
  (fun a h n hn => by rw [tx_left]; show rk (tx a 0 0) = n; rw [h 0 (by rw [ch_left]; omega)]; rw [ch_left] at hn; omega)
  (fun a b h1 h2 n hn => by
    rw [tx_step]
    rw [ch_step] at hn
    split
    · rename_i c; exact h1 n c
    · rename_i c
      have k := tx_counts (a + 1) b (n - ch a (b + 1))
      show (if na (tx (a + 1) b (n - ch a (b + 1))) = 0 then 0 else ch (na (tx (a + 1) b (n - ch a (b + 1))) - 1) (nb (tx (a + 1) b (n - ch a (b + 1))) + 1)) + rk (tx (a + 1) b (n - ch a (b + 1))) = n
      rw [k.1, k.2, h2 _ (by omega), if_neg (by omega), Nat.add_sub_cancel]
      omega)
theorem rk_lt (t : Tx) : rk t < ch (na t) (nb t) := by
  induction t with
  | nil => exact Nat.one_pos
  | cons x t ih =>
    cases x with
    | false =>
      rw [na_a, nb_a]
      show rk t < _
      exact Nat.lt_of_lt_of_le ih ch_mono
    | true =>
      rw [na_b, nb_b]
      show (if na t = 0 then 0 else ch (na t - 1) (nb t + 1)) + rk t < _
      cases c : na t with
      | zero => rw [c, ch_none] at ih; rw [if_pos rfl, ch_none]; omega
      | succ a => rw [c] at ih; rw [if_neg (by omega), ch_step, Nat.add_sub_cancel]; omega
theorem tx_rk (t : Tx) : tx (na t) (nb t) (rk t) = t := by
  induction t with
  | nil => rfl
  | cons x t ih =>
    cases x with
    | false =>
      rw [na_a, nb_a]
      show tx (na t + 1) (nb t) (rk t) = _
      have l := rk_lt t
      cases c : nb t with
      | zero =>
        rw [c] at ih l
        rw [tx_left]
        rw [ch_left] at l
        rw [show rk t = 0 by omega] at ih
        rw [ih]
      | succ b =>
        rw [c] at ih l
        rw [tx_step, if_pos l, ih]
    | true =>
      rw [na_b, nb_b]
      show tx (na t) (nb t + 1) ((if na t = 0 then 0 else ch (na t - 1) (nb t + 1)) + rk t) = _
      cases c : na t with
      | zero =>
        rw [c] at ih
        rw [tx_none] at ih ⊢
        rw [List.replicate_succ, ih]
      | succ a =>
        rw [c] at ih
        rw [if_neg (by omega), Nat.add_sub_cancel, tx_step, if_neg (by omega), Nat.add_sub_cancel_left, ih]
/-- A lesser text: 'a' ahead of 'b'. -/
def lesser : Tx → Tx → Bool
  | [], [] => false
  | [], _ :: _ => true
  | _ :: _, [] => false
  | x :: s, y :: t => if x = y then lesser s t else (!x && y)
theorem lesser_irr (s : Tx) : lesser s s = false := by
  induction s with
  | nil => rfl
  | cons x s ih => simp [lesser, ih]
theorem tx_lesser : ∀ a b n m, n < m → m < ch a b → lesser (tx a b n) (tx a b m) = true := two_ind
  (fun b n m h1 h2 => by rw [ch_none] at h2; omega)
  (fun a _ n m h1 h2 => by rw [ch_left] at h2; omega)
  (fun a b h1 h2 n m l1 l2 => by
    rw [ch_step] at l2
    rw [tx_step, tx_step]
    by_cases c : n < ch a (b + 1)
    · rw [if_pos c]
      by_cases d : m < ch a (b + 1)
      · rw [if_pos d]; simp [lesser, h1 n m l1 d]
      · rw [if_neg d]; simp [lesser]
    · rw [if_neg c, if_neg (by omega)]
      simp only [lesser, if_true]
      exact h2 _ _ (by omega) (by omega))
theorem tx_first : ∀ a b, tx a b 0 = List.replicate a false ++ List.replicate b true := two_ind
  (fun b => by rw [tx_none]; rfl)
  (fun a h => by rw [tx_left, h, List.replicate_succ]; rfl)
  (fun a b h1 _ => by
    rw [tx_step, if_pos (by have := ch_pos a (b + 1); omega), h1, List.replicate_succ (n := a)]
    rfl)
theorem tx_last : ∀ a b, tx a b (ch a b - 1) = List.replicate b true ++ List.replicate a false := two_ind
  (fun b => by rw [tx_none]; simp)
  (fun a h => by rw [ch_left, tx_left, List.replicate_succ]; rw [ch_left] at h; simp only [Nat.sub_self] at h; rw [h]; rfl)
  (fun a b _ h2 => by
    have p := ch_pos (a + 1) b
    rw [ch_step, tx_step, if_neg (by omega), show ch a (b + 1) + ch (a + 1) b - 1 - ch a (b + 1) = ch (a + 1) b - 1 by omega, h2, List.replicate_succ (n := b)]
    rfl)
/-- Both letters exchanged. -/
def turn (t : Tx) : Tx := t.map not
theorem turn_na (t : Tx) : na (turn t) = nb t := by
  induction t with
  | nil => rfl
  | cons x t ih =>
    show na ((!x) :: turn t) = _
    cases x
    · rw [nb_a]; show na (true :: turn t) = _; rw [na_b, ih]
    · rw [nb_b]; show na (false :: turn t) = _; rw [na_a, ih]
theorem turn_nb (t : Tx) : nb (turn t) = na t := by
  induction t with
  | nil => rfl
  | cons x t ih =>
    show nb ((!x) :: turn t) = _
    cases x
    · rw [na_a]; show nb (true :: turn t) = _; rw [nb_b, ih]
    · rw [na_b]; show nb (false :: turn t) = _; rw [nb_a, ih]
/-- The ranks of a text and of the turned one. -/
theorem rk_turn (t : Tx) : rk (turn t) + rk t + 1 = ch (na t) (nb t) := by
  induction t with
  | nil => rfl
  | cons x t ih =>
    cases x with
    | false =>
      rw [na_a, nb_a]
      show (if na (turn t) = 0 then 0 else ch (na (turn t) - 1) (nb (turn t) + 1)) + rk (turn t) + rk t + 1 = _
      rw [turn_na, turn_nb]
      cases c : nb t with
      | zero => rw [c, ch_left] at ih; rw [if_pos rfl, ch_left]; omega
      | succ b =>
        rw [c] at ih
        rw [if_neg (by omega), Nat.add_sub_cancel, ch_step, ch_comm b (na t + 1)]
        omega
    | true =>
      rw [na_b, nb_b]
      show rk (turn t) + ((if na t = 0 then 0 else ch (na t - 1) (nb t + 1)) + rk t) + 1 = _
      cases c : na t with
      | zero => rw [c, ch_none] at ih; rw [if_pos rfl, ch_none]; omega
      | succ a => rw [c] at ih; rw [if_neg (by omega), Nat.add_sub_cancel, ch_step]; omega
end Go.Proofs.YtcemgdekcfdfhaaDoor
