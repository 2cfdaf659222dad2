/- When the value of a curve is a fraction in range: plain mathematics, no program in it. -/
import Derived.Test.YthhdpjkmjebjhabRat
import Derived.Test.YthhdpjkmjebjhabCurve
namespace Go.Proofs.Ythhdpjkmjebjhab

theorem fits_less {x : Rat} (h : fits x = true) {a : Int} (h0 : 0 ≤ a) (h1 : (a : Rat) ≤ x) : fits (x - (a : Rat)) = true := by
  have k := fv_iff.1 (fits_fv h)
  have hle : a * (x.den : Int) ≤ x.num := by have := (Rat.le_iff _ _).1 h1; simpa using this
  have h2 : 0 ≤ a * (x.den : Int) := Int.mul_nonneg h0 (by omega)
  have hv : fv (x.num - a * (x.den : Int)) (x.den : Int) = true := fv_iff.2 ⟨k.1, k.2.1, by omega, by omega, by have := k.2.2.2.2; simpa using this⟩
  have e : x - (a : Rat) = fq (x.num - a * (x.den : Int)) (x.den : Int) := by
    have e1 := Rat.divInt_sub_divInt x.num a (d₁ := (x.den : Int)) (d₂ := 1) (by omega) (by omega)
    rw [Rat.num_divInt_den, ← show fq a 1 = Rat.divInt a 1 from rfl, fq_whole] at e1
    rw [e1]; unfold fq; simp
  rw [e]; exact fq_fits hv
/-- If the sum with what is not negative fits, the part does. -/
theorem fits_part {e : Rat} {a : Int} (h : fits ((a : Rat) + e) = true) (h0 : 0 ≤ a) (he : 0 ≤ e) : fits e = true := by
  have := fits_less h h0 (by grind)
  rwa [show (a : Rat) + e - (a : Rat) = e by grind] at this
theorem den_le {a b : Int} (hb : 0 < b) : ((Rat.divInt a b).den : Int) ≤ b := by
  rw [← (quot hb).2]
  exact Int.tdiv_le_self _ (by omega)
theorem fits_slope {a b : Int} (h0 : 0 ≤ a) (h1 : a ≤ 30000) (hb : 0 < b) (h2 : b ≤ 30000) : fits ((a : Rat) / (b : Rat)) = true := by
  rw [← Rat.divInt_eq_div]
  have k := quot_small (a := a) hb
  have d := den_le (a := a) hb
  rw [fits_iff]; omega
/-- What is between 0 and 30000 and has a small denominator fits. -/
theorem fits_small {r : Rat} (h0 : 0 ≤ r) (h1 : r ≤ 30000) (hd : r.den ≤ 30000) : fits r = true := by
  have a := Rat.num_nonneg.2 h0
  have b : r.num ≤ 30000 * (r.den : Int) := by have := (Rat.le_iff _ _).1 h1; simpa using this
  rw [fits_iff]; omega
theorem seg_den {p q : Kn} (h : p.1 < q.1) (x : Int) : (seg p q (x : Rat)).den ≤ (q.1 - p.1).toNat := by
  have hb : 0 < q.1 - p.1 := by omega
  have a := rat_lt h
  have e : seg p q (x : Rat) = Rat.divInt (p.2 * (q.1 - p.1) + (x - p.1) * (q.2 - p.2)) (q.1 - p.1) := by
    rw [Rat.divInt_eq_div]
    have h3 : (q.1 : Rat) - (p.1 : Rat) ≠ 0 := by grind
    simp only [Rat.intCast_add, Rat.intCast_mul, Rat.intCast_sub]
    unfold seg; grind
  rw [e]
  have := den_le (a := p.2 * (q.1 - p.1) + (x - p.1) * (q.2 - p.2)) hb
  omega
/-- In range. -/
def Dp (p : Kn) : Prop := 0 ≤ p.1 ∧ p.1 ≤ 30000 ∧ 0 ≤ p.2 ∧ p.2 ≤ 30000
theorem lastK_mem (p : Kn) (l : List Kn) : lastK p l ∈ p :: l := by
  induction l generalizing p with
  | nil => simp [lastK]
  | cons q l ih => simp only [lastK]; exact List.mem_cons_of_mem _ (ih q)
theorem at_den {p : Kn} {l : List Kn} (h : Ri p l) (hd : ∀ k ∈ p :: l, Dp k) (x : Int) : (atR p l (x : Rat)).den ≤ 30000 := by
  induction l generalizing p with
  | nil => show ((p.2 : Int) : Rat).den ≤ 30000; simp
  | cons q l ih =>
    simp only [atR]
    split
    · exact ih h.2.2 (fun k hk => hd k (List.mem_cons_of_mem _ hk))
    · have := seg_den h.1 x
      have a := hd p (by simp); have b := hd q (by simp)
      unfold Dp at a b; omega
/-- At a whole number a curve has a fraction in range. -/
theorem at_fits {p : Kn} {l : List Kn} (h : Ri p l) (hd : ∀ k ∈ p :: l, Dp k) {x : Int} (h0 : p.1 ≤ x) (h1 : x ≤ (lastK p l).1) : fits (atR p l (x : Rat)) = true := by
  have r := at_range h (rat_le h0) (rat_le h1)
  have a := hd p (by simp); have b := hd _ (lastK_mem p l)
  have c := rat_le a.2.2.1; have d := rat_le b.2.2.2
  have e0 : ((0 : Int) : Rat) = 0 := rfl
  have e1 : ((30000 : Int) : Rat) = 30000 := rfl
  exact fits_small (by grind) (by grind) (at_den h hd x)
end Go.Proofs.Ythhdpjkmjebjhab
