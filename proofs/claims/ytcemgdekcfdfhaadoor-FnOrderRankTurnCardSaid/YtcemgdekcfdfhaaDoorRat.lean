/- Valid fractions and the rational numbers: no program. -/
import Init.Data.Rat.Lemmas
namespace Go.Proofs.YtcemgdekcfdfhaaDoor

/-- A numerator and a denominator are a valid fraction. -/
def fv (n d : Int) : Bool := decide (1 ≤ d ∧ d ≤ 1000000000 ∧ -1000000000 ≤ n ∧ n ≤ 1000000000 ∧ Int.gcd n d = 1)
/-- A rational number that a valid fraction can hold. -/
def fits (r : Rat) : Bool := decide (-1000000000 ≤ r.num ∧ r.num ≤ 1000000000 ∧ r.den ≤ 1000000000)
/-- The number of a fraction. -/
def fq (n d : Int) : Rat := Rat.divInt n d
theorem fv_iff {n d : Int} : fv n d = true ↔ (1 ≤ d ∧ d ≤ 1000000000 ∧ -1000000000 ≤ n ∧ n ≤ 1000000000 ∧ Int.gcd n d = 1) := by simp [fv]
theorem fits_iff {r : Rat} : fits r = true ↔ (-1000000000 ≤ r.num ∧ r.num ≤ 1000000000 ∧ r.den ≤ 1000000000) := by simp [fits]
theorem fq_mk {n d : Int} (h : 1 ≤ d) (c : Int.gcd n d = 1) : fq n d = ⟨n, d.toNat, by omega, by rw [Nat.Coprime, ← c, Int.gcd]; congr 1; omega⟩ := by
  rw [Rat.mk_eq_divInt]
  unfold fq
  congr 1; omega
theorem fq_num {n d : Int} (h : fv n d = true) : (fq n d).num = n := by
  have k := fv_iff.1 h
  rw [fq_mk k.1 k.2.2.2.2]
theorem fq_den {n d : Int} (h : fv n d = true) : ((fq n d).den : Int) = d := by
  have k := fv_iff.1 h
  rw [fq_mk k.1 k.2.2.2.2]
  show (d.toNat : Int) = d
  omega
theorem fq_fits {n d : Int} (h : fv n d = true) : fits (fq n d) = true := by
  have k := fv_iff.1 h
  have h1 := fq_num h
  have h2 := fq_den h
  rw [fits_iff]; omega
/-- What fits is a valid fraction with this number. -/
theorem fits_fv {r : Rat} (h : fits r = true) : fv r.num r.den = true := by
  have k := fits_iff.1 h
  have hp := r.den_pos
  rw [fv_iff]
  refine ⟨by omega, by omega, k.1, k.2.1, ?_⟩
  have := r.reduced
  rw [Nat.Coprime] at this
  rw [← this, Int.gcd]; rfl
theorem fq_self (r : Rat) : fq r.num r.den = r := Rat.num_divInt_den r
theorem fq_inj {a b c d : Int} (h : fv a b = true) (k : fv c d = true) (e : fq a b = fq c d) : a = c ∧ b = d := by
  have h1 := fq_num h; have h2 := fq_den h; have k1 := fq_num k; have k2 := fq_den k
  rw [e] at h1 h2
  omega
theorem fq_add {a b c d : Int} (h : fv a b = true) (k : fv c d = true) : Rat.divInt (a * d + c * b) (b * d) = fq a b + fq c d := by
  have h1 := (fv_iff.1 h).1; have k1 := (fv_iff.1 k).1
  unfold fq
  rw [Rat.divInt_add_divInt _ _ (by omega) (by omega)]
theorem fq_sub {a b c d : Int} (h : fv a b = true) (k : fv c d = true) : Rat.divInt (a * d - c * b) (b * d) = fq a b - fq c d := by
  have h1 := (fv_iff.1 h).1; have k1 := (fv_iff.1 k).1
  unfold fq
  rw [Rat.divInt_sub_divInt _ _ (by omega) (by omega)]
theorem fq_mul (a b c d : Int) : Rat.divInt (a * c) (b * d) = fq a b * fq c d := by
  unfold fq
  rw [Rat.divInt_mul_divInt]
theorem fq_div (a b c d : Int) : Rat.divInt (a * d) (b * c) = fq a b / fq c d := by
  unfold fq
  rw [Rat.div_def, Rat.inv_divInt, Rat.divInt_mul_divInt]
theorem fq_lt {a b c d : Int} (h : fv a b = true) (k : fv c d = true) : (a * d < c * b) ↔ fq a b < fq c d := by
  rw [Rat.lt_iff, fq_num h, fq_den h, fq_num k, fq_den k]
theorem fq_zero {a b : Int} (h : fv a b = true) : a = 0 ↔ fq a b = 0 := by
  have h1 := fq_num h
  constructor
  · intro e; subst e; unfold fq; exact Rat.zero_divInt b
  · intro e; rw [e] at h1; exact h1.symm
theorem fq_whole (n : Int) : fq n 1 = (n : Rat) := by
  have h := fq_self (n : Rat)
  rwa [Rat.num_intCast, Rat.den_intCast] at h
theorem fv_neg {a b : Int} (h : fv a b = true) : fv (0 - a) b = true ∧ fq (0 - a) b = - fq a b := by
  have k := fv_iff.1 h
  constructor
  · rw [fv_iff]
    refine ⟨k.1, k.2.1, by omega, by omega, ?_⟩
    rw [Int.zero_sub, Int.gcd, Int.natAbs_neg, ← Int.gcd]; exact k.2.2.2.2
  · unfold fq
    rw [Int.zero_sub, Rat.neg_divInt]
theorem fits_neg {r : Rat} (h : fits r = true) : fits (-r) = true := by
  have k := fits_iff.1 h
  rw [fits_iff, Rat.neg_num, Rat.neg_den]; omega
/-- What an operation on fractions comes to: the fraction of the number r, if v holds and r fits; or zeros. -/
def Res (v : Bool) (r : Rat) (n d : Int) (ok : Bool) : Prop :=
  (ok = true ∧ v = true ∧ fv n d = true ∧ fq n d = r) ∨ (ok = false ∧ n = 0 ∧ d = 0 ∧ (v = false ∨ fits r = false))
theorem Res.same {v : Bool} {r : Rat} {n d n' d' : Int} {ok ok' : Bool} (h : Res v r n d ok) (k : Res v r n' d' ok') : n' = n ∧ d' = d ∧ ok' = ok := by
  rcases h with ⟨h1, h2, h3, h4⟩ | ⟨h1, h2, h3, h4⟩ <;> rcases k with ⟨k1, k2, k3, k4⟩ | ⟨k1, k2, k3, k4⟩
  · have e := fq_inj k3 h3 (by rw [k4, h4])
    exact ⟨e.1, e.2, by rw [k1, h1]⟩
  · have := fq_fits h3
    rw [h4] at this
    rcases k4 with k4 | k4
    · rw [h2] at k4; cases k4
    · rw [this] at k4; cases k4
  · have := fq_fits k3
    rw [k4] at this
    rcases h4 with h4 | h4
    · rw [k2] at h4; cases h4
    · rw [this] at h4; cases h4
  · exact ⟨by omega, by omega, by rw [k1, h1]⟩
theorem Res.no {v : Bool} {r : Rat} (h : v = false ∨ fits r = false) : Res v r 0 0 false := .inr ⟨rfl, rfl, rfl, h⟩
theorem Res.yes {v : Bool} {r : Rat} {n d : Int} (h : v = true) (k : fv n d = true) (e : fq n d = r) : Res v r n d true := .inl ⟨rfl, h, k, e⟩
/-- What is called is known, or it fails. -/
theorem Res.of {v : Bool} {r : Rat} {n d a b : Int} {ok : Bool} (h : Res v r n d ok) (hv : v = true) (k : fv a b = true) (e : fq a b = r) : n = a ∧ d = b ∧ ok = true := by
  have := Res.same (Res.yes hv k e) h
  exact this

theorem Res.cast {v v' : Bool} {r r' : Rat} {n d : Int} {ok : Bool} (h : Res v r n d ok) (e : v = v') (f : r = r') : Res v' r' n d ok := by rw [← e, ← f]; exact h
theorem quot {a b : Int} (hb : 0 < b) : Int.tdiv a (Int.gcd a b) = (Rat.divInt a b).num ∧ Int.tdiv b (Int.gcd a b) = ((Rat.divInt a b).den : Int) := by
  have h1 : ((Int.gcd a b : Nat) : Int) ∣ a := Int.gcd_dvd_left a b
  have h2 : ((Int.gcd a b : Nat) : Int) ∣ b := Int.gcd_dvd_right a b
  constructor
  · rw [Rat.num_divInt, Int.sign_eq_one_of_pos hb, Int.one_mul, Int.tdiv_eq_ediv_of_dvd h1, Int.gcd_comm]
  · rw [Rat.den_divInt, if_neg (by omega), Int.tdiv_eq_ediv_of_dvd h2, Int.gcd_comm b a, Int.natCast_ediv]
    congr 1; omega
/-- What FracOf can divide. -/
def ofV (a b : Int) : Bool := decide (b ≠ 0 ∧ -4000000000000000000 ≤ a ∧ a ≤ 4000000000000000000 ∧ -4000000000000000000 ≤ b ∧ b ≤ 4000000000000000000)
theorem ofV_iff {a b : Int} : ofV a b = true ↔ (b ≠ 0 ∧ -4000000000000000000 ≤ a ∧ a ≤ 4000000000000000000 ∧ -4000000000000000000 ≤ b ∧ b ≤ 4000000000000000000) := by simp [ofV]
theorem fv_num (r : Rat) : fv r.num r.den = fits r := by
  cases h : fits r
  · cases k : fv r.num r.den
    · rfl
    · have := fq_fits k
      rw [fq_self, h] at this; cases this
  · exact fits_fv h
theorem res_of {v : Bool} {r : Rat} (hv : v = true) (h : fv r.num r.den = true) : Res v r r.num r.den true := Res.yes hv h (fq_self r)
theorem res_not {v : Bool} {r : Rat} (h : fv r.num r.den = false) : Res v r 0 0 false := Res.no (.inr (by rw [← fv_num]; exact h))
theorem gcd_step (x y : Nat) : Nat.gcd y (x % y) = Nat.gcd x y := by
  rw [Nat.gcd_comm y (x % y), ← Nat.gcd_rec, Nat.gcd_comm]
theorem gcd_step' (x y : Nat) : Nat.gcd (y % x) x = Nat.gcd x y := (Nat.gcd_rec x y).symm
theorem quot_small {a b : Int} (hb : 0 < b) : a.natAbs ≥ (Rat.divInt a b).num.natAbs := by
  rw [← (quot hb).1, Int.natAbs_tdiv]
  exact Nat.div_le_self _ _
/-- Both parts of two valid fractions, multiplied. -/
theorem fv_part {a b : Int} (h : fv a b = true) : 1 ≤ b ∧ b ≤ 1000000000 ∧ -1000000000 ≤ a ∧ a ≤ 1000000000 := by
  have k := fv_iff.1 h
  exact ⟨k.1, k.2.1, k.2.2.1, k.2.2.2.1⟩
theorem mul_part {a d : Int} (h1 : -1000000000 ≤ a) (h2 : a ≤ 1000000000) (h3 : -1000000000 ≤ d) (h4 : d ≤ 1000000000) : -1000000000000000000 ≤ a * d ∧ a * d ≤ 1000000000000000000 := by
  have k : (a * d).natAbs ≤ 1000000000 * 1000000000 := by
    rw [Int.natAbs_mul]; exact Nat.mul_le_mul (by omega) (by omega)
  omega
end Go.Proofs.YtcemgdekcfdfhaaDoor
