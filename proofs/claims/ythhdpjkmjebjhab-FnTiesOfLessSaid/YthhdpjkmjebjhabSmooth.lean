/- Rows and passes of smoothing: plain mathematics, no program in it. -/
import Derived.Test.YthhdpjkmjebjhabRows
namespace Go.Proofs.Ythhdpjkmjebjhab

def inA (x : Int) : Bool := decide (-10000 ≤ x) && decide (x ≤ 10000)
/-- A row: 1 to 20 numbers in range. -/
def isRow (l : List Int) : Bool := decide (1 ≤ l.length) && decide (l.length ≤ 20) && l.all inA
theorem isRow_iff {l : List Int} : isRow l = true ↔ 1 ≤ l.length ∧ l.length ≤ 20 ∧ ∀ x ∈ l, -10000 ≤ x ∧ x ≤ 10000 := by
  simp only [isRow, inA, Bool.and_eq_true, decide_eq_true_eq, List.all_eq_true, and_assoc]
/-- The number at a place behind a pass. -/
def passAt (l : List Int) (i : Nat) : Int := l.getD (i - 1) 0 + 2 * l.getD i 0 + l.getD (min (l.length - 1) (i + 1)) 0
def pass (l : List Int) : List Int := (List.range l.length).map (passAt l)
def passN : Nat → List Int → List Int
  | 0, l => l
  | k + 1, l => pass (passN k l)
def roughL : List Int → Int
  | a :: b :: l => (max (b - a) (a - b)) + roughL (b :: l)
  | _ => 0
def lowL (l : List Int) : Int := l.foldl min (l.headD 0)
def highL (l : List Int) : Int := l.foldl max (l.headD 0)
def passOf (l : List Int) : Option (List Int) := if isRow l = true then some (pass l) else none
def manyOk (l : List Int) (n : Int) : Bool := isRow l && decide (0 ≤ n) && decide (n ≤ 8)
def manyOf (l : List Int) (n : Int) : Option (List Int) := if manyOk l n = true then some (passN n.toNat l) else none
def sumOk (l : List Int) : Option Int := if isRow l = true then some l.sum else none
def roughOk (l : List Int) : Int := if isRow l = true then roughL l else -1
def rangeOk (l : List Int) : Option (Int × Int) := if isRow l = true then some (lowL l, highL l) else none
theorem manyOk_iff {l : List Int} {n : Int} : manyOk l n = true ↔ isRow l = true ∧ 0 ≤ n ∧ n ≤ 8 := by
  simp only [manyOk, Bool.and_eq_true, decide_eq_true_eq, and_assoc]

theorem pass_length (l : List Int) : (pass l).length = l.length := by simp [pass]
theorem passN_length (k : Nat) (l : List Int) : (passN k l).length = l.length := by
  induction k with
  | zero => rfl
  | succ k ih => simp only [passN]; rw [pass_length, ih]
theorem pass_get {l : List Int} {i : Nat} (h : i < (pass l).length) : (pass l)[i] = passAt l i := by simp [pass]
theorem getD_at {l : List Int} {i : Nat} (h : i < l.length) : l.getD i 0 = l[i] := by
  rw [List.getD_eq_getElem?_getD, List.getElem?_eq_getElem h]; rfl
/-- .. with the neighbors spelled out. -/
theorem passAt_is {l : List Int} {i : Nat} (h : i < l.length) : passAt l i = l[i - 1]'(by omega) + 2 * l[i] + l[min (l.length - 1) (i + 1)]'(by omega) := by
  unfold passAt
  rw [getD_at (by omega), getD_at h, getD_at (by omega)]
/-- The first numbers behind a pass. -/
theorem pass_take {l : List Int} {j : Nat} : (List.range j).map (passAt l) ++ [passAt l j] = (List.range (j + 1)).map (passAt l) := by
  rw [List.range_succ, List.map_append]; rfl
theorem passAt_bound {l : List Int} {c : Int} (hc : ∀ x ∈ l, -c ≤ x ∧ x ≤ c) {i : Nat} (h : i < l.length) : -(4 * c) ≤ passAt l i ∧ passAt l i ≤ 4 * c := by
  rw [passAt_is h]
  have a := hc _ (List.getElem_mem (show i - 1 < l.length by omega))
  have b := hc _ (List.getElem_mem h)
  have d := hc _ (List.getElem_mem (show min (l.length - 1) (i + 1) < l.length by omega))
  omega
theorem pass_bound {l : List Int} {c : Int} (hc : ∀ x ∈ l, -c ≤ x ∧ x ≤ c) : ∀ x ∈ pass l, -(4 * c) ≤ x ∧ x ≤ 4 * c := by
  intro x hx
  obtain ⟨i, hi, rfl⟩ := List.getElem_of_mem hx
  rw [pass_get]
  exact passAt_bound hc (by rwa [pass_length] at hi)
theorem passN_bound {l : List Int} {c : Int} (hc : ∀ x ∈ l, -c ≤ x ∧ x ≤ c) (k : Nat) : ∀ x ∈ passN k l, -(4 ^ k * c) ≤ x ∧ x ≤ 4 ^ k * c := by
  induction k with
  | zero => simpa [passN] using hc
  | succ k ih =>
    have := pass_bound ih
    intro x hx
    have h := this x hx
    rw [show (4 : Int) ^ (k + 1) * c = 4 * (4 ^ k * c) by rw [Int.pow_succ]; rw [Int.mul_comm (4 ^ k) 4, Int.mul_assoc]]
    exact h
theorem row_passN {l : List Int} (h : isRow l = true) {k : Nat} (hk : k ≤ 8) : ∀ x ∈ passN k l, -655360000 ≤ x ∧ x ≤ 655360000 := by
  intro x hx
  have := passN_bound (isRow_iff.1 h).2.2 k x hx
  have p : (4 : Int) ^ k ≤ 4 ^ 8 := by exact_mod_cast Nat.pow_le_pow_right (by omega) hk
  have q : (4 : Int) ^ 8 = 65536 := by decide
  omega

/-! The same pass, number by number. -/
def passFrom : Int → List Int → List Int
  | _, [] => []
  | p, [x] => [p + 2 * x + x]
  | p, x :: y :: l => (p + 2 * x + y) :: passFrom x (y :: l)
def passR : List Int → List Int
  | [] => []
  | x :: l => passFrom x (x :: l)
theorem passFrom_length (p : Int) (l : List Int) : (passFrom p l).length = l.length := by
  match l with
  | [] => rfl
  | [x] => rfl
  | x :: y :: l => simp only [passFrom, List.length_cons]; rw [passFrom_length x (y :: l)]; rfl
theorem passFrom_get (p : Int) (l : List Int) (i : Nat) (h : i < (passFrom p l).length) (h' : i < l.length) :
    (passFrom p l)[i] = (if i = 0 then p else l[i - 1]'(by omega)) + 2 * l[i] + l[min (l.length - 1) (i + 1)]'(by omega) := by
  match l, i with
  | [x], 0 => simp [passFrom]
  | x :: y :: l, 0 => simp [passFrom]
  | x :: y :: l, i + 1 =>
    simp only [passFrom, List.getElem_cons_succ]
    rw [passFrom_get x (y :: l) i (by simpa [passFrom] using h) (by simpa using h')]
    have e : min ((x :: y :: l).length - 1) (i + 1 + 1) = min ((y :: l).length - 1) (i + 1) + 1 := by simp only [List.length_cons]; omega
    simp only [e, List.getElem_cons_succ]
    rcases Nat.eq_zero_or_pos i with rfl | hi
    · simp
    · rw [if_neg (by omega), if_neg (by omega)]
      obtain ⟨k, rfl⟩ : ∃ k, i = k + 1 := ⟨i - 1, by omega⟩
      simp
theorem pass_isR (l : List Int) : pass l = passR l := by
  apply List.ext_getElem
  · rw [pass_length]
    match l with
    | [] => rfl
    | x :: l => exact (passFrom_length x (x :: l)).symm
  · intro i h1 h2
    rw [pass_get]
    match l with
    | [] => simp [pass_length] at h1
    | x :: l =>
      rw [passAt_is (by simpa [pass_length] using h1)]
      show _ = (passFrom x (x :: l))[i]
      rw [passFrom_get x (x :: l) i h2 (by simpa [pass_length] using h1)]
      rcases Nat.eq_zero_or_pos i with rfl | hi
      · simp
      · rw [if_neg (by omega)]
end Go.Proofs.Ythhdpjkmjebjhab
