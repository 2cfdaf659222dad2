/- More that the walks of the laws on records in other bins name. -/
import Derived.Test.YtkcbgeldnibjcaaLawB
namespace Go.Proofs.Ytkcbgeldnibjcaa
open Go.RowKit

theorem irow_pair {w : World} {b : Nat} {p q : Int} (h0 : w.cell? ⟨b, 0, none⟩ = some (.int .i64 p)) (h1 : w.cell? ⟨b, 1, none⟩ = some (.int .i64 q)) : IRow w (.slice (some ⟨b, 0, none⟩) 2 2) [p, q] :=
  ⟨_, 2, 2, rfl, rfl, Nat.le_refl _, by unfold maxLen; omega, .inr ⟨b, 0, rfl, fun i hi => by
    match i, hi with
    | 0, _ => exact h0
    | 1, _ => exact h1⟩⟩
theorem three_of {l : List Int} {n : Nat} (h : l.length = n + 1) (hn : n = 2) : ∃ x y z, l = [x, y, z] := by
  subst hn
  match l, h with
  | [x, y, z], _ => exact ⟨x, y, z, rfl⟩
theorem three_up {x y z : Int} (h : isEdges [x, y, z] = true) : 0 ≤ x ∧ x < y ∧ y < z ∧ z ≤ 30000 :=
  ⟨(edges_range h 0 (by simp)).1, edges_up h 0 1 (by omega) (by simp), edges_up h 1 2 (by omega) (by simp), (edges_range h 2 (by simp)).2⟩
theorem reb_two {l m : List Int} {x y z : Int} {rs : List Rat} (h : rebOf l m [x, y, z] = some rs) : ∃ r0 r1, rs = [r0, r1] ∧ bet l m x y = some r0 ∧ bet l m y z = some r1 := by
  obtain ⟨t, o', e, _, _, h3⟩ := rebOf_is h
  injection e with e1 e2
  subst e1 e2
  simp only [bets] at h3
  cases hb : bet l m x y with
  | none => rw [hb] at h3; cases h3
  | some r0 =>
    cases hc : bet l m y z with
    | none => rw [hb, hc] at h3; cases h3
    | some r1 =>
      rw [hb, hc] at h3
      cases h3
      exact ⟨r0, r1, rfl, rfl, rfl⟩
theorem edges_pair {x y : Int} (h0 : 0 ≤ x) (h1 : x < y) (h2 : y ≤ 30000) : isEdges [x, y] = true := by
  refine isEdges_of (by simp) (by simp) (fun i hi => ?_) (fun i hi => ?_)
  · match i, hi with
    | 0, _ => exact ⟨h0, by show x ≤ 30000; omega⟩
    | 1, _ => exact ⟨by show 0 ≤ y; omega, h2⟩
  · match i, hi with
    | 0, _ => exact h1
theorem reb_pair_no {l m : List Int} {x y : Int} (h : bet l m x y = none) : rebOf l m [x, y] = none := by
  unfold rebOf
  simp only [bets, h]
  split <;> rfl
theorem reb_pair {l m : List Int} {x y : Int} {q : Rat} (h1 : x < y) (h : bet l m x y = some q) : rebOf l m [x, y] = some [q] := by
  obtain ⟨_, _, hv, h0, _, h2⟩ := bet_is h
  unfold rebOf
  simp only [bets, h, hv, edges_pair h0 h1 h2, Bool.and_self, if_true]; rfl
theorem reb_fine {l m : List Int} {x y z : Int} {p q r : Rat} (hx : x < y) (hy : y < z) (h0 : bet l m x y = some p) (h1 : bet l m y z = some q) (h2 : bet l m x z = some r) : p + q = r := by
  rw [(bet_is h0).1, (bet_is h1).1, (bet_is h2).1]
  exact amt_split (rec_edges (bet_is h0).2.2.1) (Int.le_of_lt hx) (Int.le_of_lt hy)
end Go.Proofs.Ytkcbgeldnibjcaa
