/- What the walk of the law on layers of other parts names. -/
import Derived.Test.YtcemgdekcfdfhabLawP
namespace Go.Proofs.Ytcemgdekcfdfhab
open Go.RowKit

theorem fnd_at : ∀ (xs : List Nat) (j x : Nat), j < xs.length → (xs.take j).sum ≤ x → x < (xs.take (j + 1)).sum → (fnd xs x).1 = j
  | [], j, x, h, _, _ => by simp at h
  | a :: xs, 0, x, _, _, h2 => by
    simp only [List.take_succ_cons, List.take_zero, List.sum_cons, List.sum_nil, Nat.add_zero] at h2
    unfold fnd; rw [if_pos h2]
  | a :: xs, j + 1, x, h, h1, h2 => by
    simp only [List.take_succ_cons, List.sum_cons] at h1 h2
    unfold fnd
    rw [if_neg (by omega)]
    have := fnd_at xs j (x - a) (by simpa using h) (by omega) (by omega)
    simp only [this]
theorem take_nat {l : List Int} (h : ∀ i (h : i < l.length), 0 ≤ l[i] ∧ l[i] ≤ 6) (j : Nat) : (l.take j).sum = (((natL l).take j).sum : Nat) := by
  have := sum_nat (l := l.take j) fun x hx => (all_nn h x (List.mem_of_mem_take hx)).1
  rw [this]
  simp [natL, List.map_take]
theorem bet_parts {a b : List Int} {x y p q : Nat} (h : IsPar a b) (hx : x < sumA (par a b)) (hy : y < sumB (par a b)) (hp : (a.take p).sum ≤ (x : Int) ∧ (x : Int) < (a.take (p + 1)).sum) (hq : (b.take q).sum ≤ (y : Int) ∧ (y : Int) < (b.take (q + 1)).sum) :
    (p < q → betOf (par a b) x y = cnt (par a b)) ∧ (q < p → betOf (par a b) x y = 0) ∧ (p = q → 0 < betOf (par a b) x y ∧ betOf (par a b) x y < cnt (par a b)) := by
  have lt : ∀ (l : List Int) (j z : Nat), (∀ i (h : i < l.length), 0 ≤ l[i] ∧ l[i] ≤ 6) → (l.take j).sum ≤ (z : Int) ∧ (z : Int) < (l.take (j + 1)).sum → (fnd (natL l) z).1 = j := fun l j z h6 hz => by
    have hj : j < l.length := by
      rcases Nat.lt_or_ge j l.length with c | c
      · exact c
      · rw [List.take_of_length_le c, List.take_of_length_le (by omega)] at hz; omega
    rw [take_nat h6, take_nat h6] at hz
    exact fnd_at _ j z (by simpa [natL] using hj) (by omega) (by omega)
  have e1 := lt a p x h.a6 hp
  have e2 := lt b q y h.b6 hq
  rw [← par_fst a b h.len] at e1
  rw [← par_snd a b h.len] at e2
  refine ⟨fun c => betOf_first hx hy (by omega), fun c => betOf_last hx hy (by omega), fun c => ?_⟩
  obtain ⟨hp', d, d1, d2, d3, d4, d5⟩ := betOf_same hx hy (by omega)
  have sm := h.small _ (List.getElem_mem hp')
  have k1 := bet_pos _ sm.1 _ sm.2 _ d4 _ d5
  have k2 := bet_less sm.1 sm.2 d4 d5
  rw [d2, d3]
  exact ⟨Nat.mul_pos k1 (by omega), Nat.mul_lt_mul_of_pos_right k2 (by omega)⟩
end Go.Proofs.Ytcemgdekcfdfhab
