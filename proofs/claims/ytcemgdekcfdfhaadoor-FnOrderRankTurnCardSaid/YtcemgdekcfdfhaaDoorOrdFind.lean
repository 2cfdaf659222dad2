/- The part of a layer: the model's l24Find and OrderBetween. -/
import Derived.Test.YtcemgdekcfdfhaaDoorOrdSpec
namespace Go.Proofs.YtcemgdekcfdfhaaDoor
open Go.RowKit

/-- The part of a layer and its index there. -/
def findI : List Int → Int → Option (Nat × Int)
  | [], _ => none
  | x :: xs, k => if k < 0 then none else if k < x then some (0, k) else (findI xs (k - x)).map fun p => (p.1 + 1, p.2)
theorem findI_less (xs : List Int) {k : Int} (h : k < 0) : findI xs k = none := by
  cases xs with
  | nil => rfl
  | cons x xs => simp only [findI]; rw [if_pos h]
theorem findI_fnd : ∀ (l : List Int) (k : Int), (∀ x ∈ l, 0 ≤ x) → 0 ≤ k → findI l k = if k.toNat < (l.map Int.toNat).sum then some ((fnd (l.map Int.toNat) k.toNat).1, ((fnd (l.map Int.toNat) k.toNat).2 : Int)) else none
  | [], k, _, _ => by simp [findI]
  | x :: xs, k, h, h0 => by
    have hx := h x (by simp)
    simp only [findI, List.map_cons, List.sum_cons, fnd]
    rw [if_neg (by omega)]
    by_cases c : k < x
    · rw [if_pos c, if_pos (by omega), if_pos (by omega), Int.toNat_of_nonneg h0]
    · rw [if_neg c, if_neg (show ¬ k.toNat < x.toNat by omega), findI_fnd xs (k - x) (fun y hy => h y (by simp [hy])) (by omega), show (k - x).toNat = k.toNat - x.toNat by omega]
      by_cases d : k.toNat - x.toNat < (xs.map Int.toNat).sum
      · rw [if_pos d, if_pos (by omega)]; rfl
      · rw [if_neg d, if_neg (by omega)]; rfl
/-- What l24Find answers. -/
def fndV (o : Option (Nat × Int)) : Value := match o with
  | some (p, x) => .tuple #[.int .i64 p, .int .i64 x]
  | none => .tuple #[.int .i64 (-1), .int .i64 0]
/-- The sum of the first rows of 'bet'. -/
def betS (a b x : Nat) : Nat → Nat
  | 0 => 0
  | n + 1 => betS a b x n + ch x n * ch (a - 1 - x) (b - n)
theorem betS_bet (a b x y : Nat) : betS a b x (y + 1) = bet a b x y := by
  induction y with
  | zero => simp [betS, bet]
  | succ y ih => rw [betS, ih]; rfl
theorem betS_le (a b x : Nat) {n m : Nat} (h : n ≤ m) : betS a b x n ≤ betS a b x m := by
  induction m with
  | zero => obtain rfl : n = 0 := by omega
            exact Nat.le_refl _
  | succ m ih =>
    by_cases e : n = m + 1
    · rw [e]; exact Nat.le_refl _
    · exact Nat.le_trans (ih (by omega)) (by rw [betS]; omega)
theorem all_nat {l : List Int} (h : ∀ i (h : i < l.length), 0 ≤ l[i] ∧ l[i] ≤ 6) : ∀ x ∈ l, 0 ≤ x := fun x hx => by
  obtain ⟨i, hi, rfl⟩ := List.mem_iff_getElem.1 hx
  exact (h i hi).1
theorem findI_some {l : List Int} {k x : Int} {p : Nat} (h : ∀ x ∈ l, 0 ≤ x) (e : findI l k = some (p, x)) : 0 ≤ k ∧ k.toNat < (natL l).sum ∧ (fnd (natL l) k.toNat).1 = p ∧ ((fnd (natL l) k.toNat).2 : Int) = x := by
  by_cases c : k < 0
  · rw [findI_less l c] at e; cases e
  · rw [findI_fnd l k h (by omega)] at e
    by_cases d : k.toNat < (l.map Int.toNat).sum
    · rw [if_pos d] at e
      simp only [Option.some.injEq, Prod.mk.injEq] at e
      exact ⟨by omega, d, e.1, e.2⟩
    · rw [if_neg d] at e; cases e
theorem findI_none {l : List Int} {k : Int} (h : ∀ x ∈ l, 0 ≤ x) (e : findI l k = none) : ¬ (0 ≤ k ∧ k.toNat < (natL l).sum) := by
  rintro ⟨c, d⟩
  unfold natL at d
  rw [findI_fnd l k h c, if_pos d] at e; cases e
theorem between_a {a b : List Int} {i : Int} (k : Int) (h : IsPar a b) (e : findI a i = none) : betweenOf a b i k = -1 := by
  unfold betweenOf
  rw [if_neg]
  rintro ⟨_, h1, _, h2, _⟩
  exact findI_none (all_nat h.a6) e ⟨h1, by rw [← par_fst a b h.len]; exact h2⟩
theorem between_b {a b : List Int} (i : Int) {k : Int} (h : IsPar a b) (e : findI b k = none) : betweenOf a b i k = -1 := by
  unfold betweenOf
  rw [if_neg]
  rintro ⟨_, _, h1, _, h2⟩
  exact findI_none (all_nat h.b6) e ⟨h1, by rw [← par_snd a b h.len]; exact h2⟩
theorem between_at {a b : List Int} {i k x y : Int} {p q : Nat} (h : IsPar a b) (e1 : findI a i = some (p, x)) (e2 : findI b k = some (q, y)) :
    betweenOf a b i k = (betOf (par a b) i.toNat k.toNat : Int) ∧ (p < q → betOf (par a b) i.toNat k.toNat = cnt (par a b)) ∧ (q < p → betOf (par a b) i.toNat k.toNat = 0) ∧
    (p = q → ∃ (hp : p < a.length) (hq : p < b.length) (c : Nat), 1 ≤ c ∧ cnt (par a b) = ch a[p].toNat b[p].toNat * c ∧ betOf (par a b) i.toNat k.toNat = bet a[p].toNat b[p].toNat x.toNat y.toNat * c ∧ x < a[p] ∧ y < b[p] ∧ 0 ≤ x ∧ 0 ≤ y) := by
  obtain ⟨i0, i1, i2, i3⟩ := findI_some (all_nat h.a6) e1
  obtain ⟨k0, k1, k2, k3⟩ := findI_some (all_nat h.b6) e2
  have sa : i.toNat < sumA (par a b) := by unfold sumA; rw [par_fst a b h.len]; exact i1
  have sb : k.toNat < sumB (par a b) := by unfold sumB; rw [par_snd a b h.len]; exact k1
  rw [← par_fst a b h.len] at i2 i3
  rw [← par_snd a b h.len] at k2 k3
  refine ⟨?_, fun c => betOf_first sa sb (by omega), fun c => betOf_last sa sb (by omega), fun c => ?_⟩
  · unfold betweenOf; rw [if_pos ⟨isPar_iff.2 h, i0, k0, sa, sb⟩]
  · obtain ⟨hp, d, d1, d2, d3, d4, d5⟩ := betOf_same sa sb (by omega)
    have hp' := hp
    rw [par_length a b h.len] at hp'
    rw [par_get a b _ hp hp' (by rw [h.len]; exact hp')] at d2 d3 d4 d5
    have x1 : x.toNat = (fnd ((par a b).map Prod.fst) i.toNat).2 := by omega
    have y1 : y.toNat = (fnd ((par a b).map Prod.snd) k.toNat).2 := by omega
    rw [← x1] at d3 d4
    rw [← y1] at d3 d5
    subst i2
    refine ⟨hp', by rw [h.len]; exact hp', d, d1, d2, d3, ?_, ?_, by omega, by omega⟩
    · simp only at d4; omega
    · simp only at d5; omega
end Go.Proofs.YtcemgdekcfdfhaaDoor
