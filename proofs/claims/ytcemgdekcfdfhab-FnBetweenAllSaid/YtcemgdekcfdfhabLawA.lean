/- What the walk of the law that counts orders one by one names. -/
import Derived.Test.YtcemgdekcfdfhabLawN
namespace Go.Proofs.Ytcemgdekcfdfhab
open Go.RowKit

/-- Whether the letter a number i is ahead of the letter b number k, in a text with bars. -/
def aheadB : Nat → Nat → List UInt8 → Bool
  | _, _, [] => false
  | i, k, c :: r => if c = 97 then (if i = 0 then true else aheadB (i - 1) k r) else if c = 98 then (if k = 0 then false else aheadB i (k - 1) r) else aheadB i k r
theorem aheadB_bar (i k : Nat) (r : List UInt8) : aheadB i k (124 :: r) = aheadB i k r := by simp [aheadB]
theorem aheadB_byt (i k : Nat) (x : Bool) (r : List UInt8) : aheadB i k (byt x :: r) = if x = false then (if i = 0 then true else aheadB (i - 1) k r) else (if k = 0 then false else aheadB i (k - 1) r) := by
  cases x <;> simp [aheadB, byt]
theorem aheadB_body (t : Tx) : ∀ (i k : Nat) (r : List UInt8) (u : Tx), (∀ i k, aheadB i k r = ahead i k u) → aheadB i k (body t ++ r) = ahead i k (t ++ u) := by
  induction t with
  | nil => intro i k r u h; exact h i k
  | cons x t ih =>
    intro i k r u h
    show aheadB i k (byt x :: (body t ++ r)) = _
    rw [aheadB_byt]
    cases x
    · simp only [List.cons_append, ahead, if_true]
      split
      · rfl
      · exact ih _ _ r u h
    · simp only [List.cons_append, ahead, Bool.true_eq_false, if_false]
      split
      · rfl
      · exact ih _ _ r u h
theorem aheadB_jn : ∀ (ts : List Tx) (i k : Nat), aheadB i k (jn ts) = ahead i k ts.flatten
  | [], i, k => by simp [jn, aheadB, ahead]
  | [t], i, k => by
    rw [jn_one]
    have := aheadB_body t i k [] [] (fun i k => by simp [aheadB, ahead])
    simpa using this
  | t :: u :: ts, i, k => by
    rw [jn_more, List.flatten_cons]
    exact aheadB_body t i k _ _ fun i k => by rw [aheadB_bar]; exact aheadB_jn (u :: ts) i k
/-- Behind some letters of a text: how it goes on, or that it is decided. -/
def Scan (i k : Nat) (T : List UInt8) (p x y : Nat) : Prop :=
  (x ≤ i ∧ y ≤ k ∧ aheadB i k T = aheadB (i - x) (k - y) (T.drop p)) ∨ (x = i + 1 ∧ y ≤ k ∧ aheadB i k T = true) ∨ (x ≤ i ∧ y = k + 1 ∧ aheadB i k T = false)
theorem scan_next {i k : Nat} {T : List UInt8} {p x y : Nat} (h : aheadB i k T = aheadB (i - x) (k - y) (T.drop p)) (hx : x ≤ i) (hy : y ≤ k) (hp : p < T.length) :
    Scan i k T (p + 1) (if T[p] = 97 then x + 1 else x) (if T[p] = 98 then y + 1 else y) := by
  rw [List.drop_eq_getElem_cons hp] at h
  by_cases ca : T[p] = 97
  · have cb : T[p] ≠ 98 := by rw [ca]; decide
    rw [if_pos ca, if_neg cb]
    simp only [aheadB, if_pos ca] at h
    by_cases e : i - x = 0
    · rw [if_pos e] at h
      exact .inr (.inl ⟨by omega, hy, h⟩)
    · rw [if_neg e] at h
      exact .inl ⟨by omega, hy, by rw [h, show i - (x + 1) = i - x - 1 by omega]⟩
  · by_cases cb : T[p] = 98
    · rw [if_neg ca, if_pos cb]
      simp only [aheadB, if_neg ca, if_pos cb] at h
      by_cases e : k - y = 0
      · rw [if_pos e] at h
        exact .inr (.inr ⟨hx, by omega, h⟩)
      · rw [if_neg e] at h
        exact .inl ⟨hx, by omega, by rw [h, show k - (y + 1) = k - y - 1 by omega]⟩
    · rw [if_neg ca, if_neg cb]
      simp only [aheadB, if_neg ca, if_neg cb] at h
      exact .inl ⟨hx, hy, h⟩
theorem scan_end {i k : Nat} {T : List UInt8} {p x y : Nat} (h : Scan i k T p x y) (hs : T.length ≤ p ∨ i < x ∨ k < y) : aheadB i k T = decide (i < x) := by
  rcases h with ⟨h1, h2, h3⟩ | ⟨h1, h2, h3⟩ | ⟨h1, h2, h3⟩
  · rcases hs with c | c | c
    · rw [h3, List.drop_of_length_le c, decide_eq_false (by omega)]; rfl
    · omega
    · omega
  · rw [h3, decide_eq_true (by omega)]
  · rw [h3, decide_eq_false (by omega)]
/-- How many of the first orders have the layer i ahead of the layer k. -/
def manyN (ps : List Pt) (i k n : Nat) : Nat := sumTo (fun m => one (aheadB i k (jn (txs ps m)))) n
theorem manyN_next (ps : List Pt) (i k n : Nat) : manyN ps i k (n + 1) = manyN ps i k n + one (aheadB i k (jn (txs ps n))) := rfl
theorem manyN_le (ps : List Pt) (i k n : Nat) : manyN ps i k n ≤ n := by
  induction n with
  | zero => exact Nat.le_refl _
  | succ n ih =>
    rw [manyN_next]
    have : one (aheadB i k (jn (txs ps n))) ≤ 1 := by unfold one; split <;> omega
    omega
theorem manyN_all {ps : List Pt} (hs : Small ps) {i k : Nat} (hi : i < sumA ps) (hk : k < sumB ps) : manyN ps i k (cnt ps) = betOf ps i k := by
  rw [← betOf_counts ps hs i k hi hk]
  exact sumTo_congr fun n _ => by rw [aheadB_jn]
theorem str_is (T : List UInt8) (p : Nat) (h : p < T.length) {c : UInt8} (hc : T[p] = c) (n : UInt8) : ((((str T)[p]'(by rw [str_size]; exact h)).toNat : Int) == (n.toNat : Int)) = decide (c = n) := by
  have e : (str T)[p]'(by rw [str_size]; exact h) = c := by rw [← hc]; rfl
  rw [e, Bool.eq_iff_iff, beq_iff_eq, decide_eq_true_eq]
  exact ⟨fun h => UInt8.toNat_inj.1 (by omega), fun h => by rw [h]⟩
end Go.Proofs.Ytcemgdekcfdfhab
