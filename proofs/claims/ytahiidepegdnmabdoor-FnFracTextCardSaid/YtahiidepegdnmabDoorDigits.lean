/- Decimal digits as bytes, and what they spell: no program. -/
import Derived.Lib.ItoaNum
import Derived.Lib.AtoiTie
import Derived.Lib.IndexMore
import Derived.Laws.Strings
namespace Go.Proofs.YtahiidepegdnmabDoor

/-- A byte is a decimal digit. -/
def isDigit (c : UInt8) : Bool := decide (48 ≤ c.toNat ∧ c.toNat ≤ 57)
/-- What digits spell, behind what the digits before spell. -/
def spell (acc : Nat) : List UInt8 → Nat
  | [] => acc
  | c :: r => spell (acc * 10 + (c.toNat - 48)) r
theorem spell_append (a b : List UInt8) (acc : Nat) : spell acc (a ++ b) = spell (spell acc a) b := by
  induction a generalizing acc with
  | nil => rfl
  | cons c r ih => exact ih _
theorem digit_byte (u : Nat) (h : u < 10) : (UInt8.ofNat (48 + u)).toNat = 48 + u := by
  rw [UInt8.toNat_ofNat']; omega
theorem digits_all (u : Nat) : ∀ c ∈ Lib.decDigits u, isDigit c = true := by
  induction u using Nat.strongRecOn with
  | _ u ih =>
    intro c hc
    rw [Lib.decDigits] at hc
    split at hc
    · rename_i h
      simp only [List.mem_singleton] at hc
      subst hc
      unfold isDigit; rw [digit_byte u h]; simp; omega
    · rename_i h
      rcases List.mem_append.1 hc with k | k
      · exact ih (u / 10) (by omega) c k
      · simp only [List.mem_singleton] at k
        subst k
        unfold isDigit; rw [digit_byte _ (Nat.mod_lt _ (by decide))]; simp; omega
theorem spell_digits (u : Nat) : spell 0 (Lib.decDigits u) = u := by
  induction u using Nat.strongRecOn with
  | _ u ih =>
    rw [Lib.decDigits]
    split
    · rename_i h
      show 0 * 10 + ((UInt8.ofNat (48 + u)).toNat - 48) = u
      rw [digit_byte u h]; omega
    · rename_i h
      rw [spell_append, ih (u / 10) (by omega)]
      show u / 10 * 10 + ((UInt8.ofNat (48 + u % 10)).toNat - 48) = u
      rw [digit_byte _ (Nat.mod_lt _ (by decide))]; omega
theorem digits_inj {u v : Nat} (h : Lib.decDigits u = Lib.decDigits v) : u = v := by
  rw [← spell_digits u, ← spell_digits v, h]
theorem digits_pos (u : Nat) : 1 ≤ (Lib.decDigits u).length := by
  rw [Lib.decDigits_length]; exact Lib.nDigits_pos u
theorem digits_len (u k : Nat) (h : u < 10 ^ (k + 1)) : (Lib.decDigits u).length ≤ k + 1 := by
  induction k generalizing u with
  | zero => rw [Lib.decDigits, dif_pos (by omega)]; simp
  | succ k ih =>
    rw [Lib.decDigits]
    split
    · simp
    · have := ih (u / 10) (by rw [Nat.pow_succ] at h; omega)
      simp; omega
theorem digitVal_of {c : UInt8} (h : isDigit c = true) : Lib.digitVal c = some (c.toNat - 48) := by
  unfold isDigit at h
  simp only [decide_eq_true_eq] at h
  unfold Lib.digitVal
  first
    | rw [if_pos h]
    | simp [h]
theorem decFrom_spell : ∀ (l : List UInt8) (acc : Nat), (∀ c ∈ l, isDigit c = true) → Lib.decFrom acc l = some (spell acc l)
  | [], acc, _ => rfl
  | c :: r, acc, h => by
    unfold Lib.decFrom
    rw [digitVal_of (h c (by simp))]
    exact decFrom_spell r _ (fun x hx => h x (by simp [hx]))
/-- The library reads a number's own text. -/
theorem atoi_digits (u : Nat) (h : u < 1000000000000000000) : Lib.atoiAll (Lib.decDigits u) = .ok (u : Int) := by
  rw [Lib.atoiAll_short _ (digits_len u 17 h)]
  have hp := digits_pos u
  have ha := digits_all u
  cases e : Lib.decDigits u with
  | nil => rw [e] at hp; simp at hp
  | cons c r =>
    rw [e] at ha
    have hc := ha c (by simp)
    unfold isDigit at hc
    simp only [decide_eq_true_eq] at hc
    have h45 : ¬ c = 45 := by intro k; subst k; revert hc; decide
    have h43 : ¬ c = 43 := by intro k; subst k; revert hc; decide
    have hs : spell 0 (c :: r) = u := by rw [← e]; exact spell_digits u
    simp [Lib.atoi, h45, h43, Lib.decNat, decFrom_spell _ 0 ha, hs, Lib.NumEnd.ofOption]
/-- The first blank of digits and what begins with one. -/
theorem index_blank : ∀ (l r : List UInt8), (∀ c ∈ l, isDigit c = true) → Lib.index (l ++ 32 :: r) [32] = l.length
  | [], r, _ => by simp [Lib.index]
  | c :: l, r, h => by
    have hc := h c (by simp)
    unfold isDigit at hc
    simp only [decide_eq_true_eq] at hc
    have h32 : ¬ (32 : UInt8) = c := by intro k; subst k; revert hc; decide
    have ih := index_blank l r (fun x hx => h x (by simp [hx]))
    show Lib.index (c :: (l ++ 32 :: r)) [32] = _
    unfold Lib.index
    rw [ih]
    simp [List.isPrefixOf, h32]
theorem cut_blank (l r : List UInt8) (h : ∀ c ∈ l, isDigit c = true) : Lib.cut (l ++ 32 :: r) [32] = (l, r, true) := by
  unfold Lib.cut
  rw [index_blank l r h, if_pos (by omega)]
  simp
end Go.Proofs.YtahiidepegdnmabDoor
