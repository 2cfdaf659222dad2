/- What the walks of the laws on orders name. -/
import Derived.Test.YtcemgdekcfdfhaaDoorOrdI3
import Derived.Test.YtcemgdekcfdfhaaDoorOrdFind
import Derived.Test.YtcemgdekcfdfhaaDoorOrdDraws
namespace Go.Proofs.YtcemgdekcfdfhaaDoor
open Go.RowKit

variable {w : World} {v u : Value} {a b : List Int} {z i k : Int}
theorem plen_n {w : World} {v : Value} {l : List Int} (h : IRow w v l) : ∃ a c, v = .slice a l.length c ∧ l.length ≤ c ∧ c ≤ 9223372036854775807 := by
  obtain ⟨a, c, e, h1, h2⟩ := h.len
  unfold maxLen at h2
  exact ⟨a, c, e, h1, by omega⟩
theorem irow_lit {w : World} {b : Nat} {x : Int} (h : w.cell? ⟨b, 0, none⟩ = some (.int .i64 x)) : IRow w (.slice (some ⟨b, 0, none⟩) 1 1) [x] :=
  ⟨some ⟨b, 0, none⟩, 1, 1, rfl, rfl, Nat.le_refl _, by unfold maxLen; omega, .inr ⟨b, 0, rfl, fun i hi => by
    have h0 : i = 0 := by simp at hi; omega
    subst h0; exact h⟩⟩
theorem irow_late {w w' : World} {b : Nat} {x : Int} (k : Below w.heap.size w w') (h : w.cell? ⟨b, 0, none⟩ = some (.int .i64 x)) : IRow w' (.slice (some ⟨b, 0, none⟩) 1 1) [x] := (irow_lit h).grow k
theorem cntI_is (h : IRow w v a) (h' : IRow w u b) (e : countOf a b = z) : Calls Tryd.prog 15 #[v, u] w fun e w' => e = .returned (.int .i64 z) ∧ Below w.heap.size w w' := by
  have := countI_any h h'; rwa [e] at this
theorem cntS_is (h : IRow w v a) (h' : IRow w u b) (e : countOf a b = z) : Calls Tryd.prog 21 #[v, u] w fun e w' => e = .returned (.int .i64 z) ∧ Below w.heap.size w w' := by
  have := specCount_any h h'; rwa [e] at this
def I63 (x : Int) : Prop := -9223372036854775808 ≤ x ∧ x ≤ 9223372036854775807
theorem count_cases (a b : List Int) : (countOf a b = -1) ∨ (IsPar a b ∧ countOf a b = (cnt (par a b) : Nat) ∧ 1 ≤ cnt (par a b) ∧ cnt (par a b) ≤ 728933458176) := by
  unfold countOf
  by_cases h : isPar a b = true
  · have w := isPar_iff.1 h
    exact .inr ⟨w, by rw [if_pos h], cnt_pos _, cnt_four w.small (by rw [par_length a b w.len]; exact w.most)⟩
  · exact .inl (by rw [if_neg h])
theorem count_of {a b : List Int} (h : IsPar a b) : countOf a b = (cnt (par a b) : Nat) := by
  unfold countOf; rw [if_pos (isPar_iff.2 h)]
theorem IsPar.swap {a b : List Int} (h : IsPar a b) : IsPar b a := ⟨by rw [h.len]; exact h.one, by rw [h.len]; exact h.most, h.len.symm, h.b6, h.a6⟩
theorem count_swap {a b : List Int} (h : IsPar a b) : countOf b a = (cnt (par a b) : Nat) := by
  rw [count_of h.swap, par_swap, cnt_swap]
theorem IsPar.take {a b : List Int} (h : IsPar a b) {k : Nat} (h0 : 0 < k) (hk : k < a.length) : IsPar (a.take k) (b.take k) := by
  have hl := h.len; have hm := h.most
  refine ⟨by rw [List.length_take]; omega, by rw [List.length_take]; omega, by rw [List.length_take, List.length_take]; omega, fun i hi => ?_, fun i hi => ?_⟩
  · rw [List.getElem_take]; exact h.a6 _ _
  · rw [List.getElem_take]; exact h.b6 _ _
theorem IsPar.drop {a b : List Int} (h : IsPar a b) {k : Nat} (hk : k < a.length) : IsPar (a.drop k) (b.drop k) := by
  have hl := h.len; have hm := h.most
  refine ⟨by rw [List.length_drop]; omega, by rw [List.length_drop]; omega, by rw [List.length_drop, List.length_drop]; omega, fun i hi => ?_, fun i hi => ?_⟩
  · rw [List.getElem_drop]; exact h.a6 _ _
  · rw [List.getElem_drop]; exact h.b6 _ _
theorem cnt_parts {a b : List Int} (k : Nat) : cnt (par (a.take k) (b.take k)) * cnt (par (a.drop k) (b.drop k)) = cnt (par a b) := by
  rw [par_take, par_drop, ← cnt_append, List.take_append_drop]
theorem cnt_none_a : ∀ {ps : List Pt}, sumA ps = 0 → cnt ps = 1
  | [], _ => rfl
  | p :: ps, h => by
    simp only [sumA, List.map_cons, List.sum_cons] at h
    have h1 : p.1 = 0 := by omega
    have h2 := cnt_none_a (ps := ps) (by simp only [sumA]; omega)
    simp only [cnt, h1, ch_none, h2]
theorem cnt_none_b {ps : List Pt} (h : sumB ps = 0) : cnt ps = 1 := by
  have := cnt_none_a (ps := ps.map Prod.swap) (by simpa [sumA, sumB, List.map_map, Function.comp_def] using h)
  rwa [cnt_swap] at this
theorem sum_nat {l : List Int} (h : ∀ x ∈ l, 0 ≤ x) : l.sum = ((natL l).sum : Nat) := by
  induction l with
  | nil => rfl
  | cons x l ih =>
    have h1 := h x (by simp)
    have h2 := ih fun y hy => h y (by simp [hy])
    simp only [natL, List.map_cons, List.sum_cons] at h2 ⊢
    omega
theorem all_nn {l : List Int} (h : ∀ i (h : i < l.length), 0 ≤ l[i] ∧ l[i] ≤ 6) : ∀ x ∈ l, 0 ≤ x ∧ x ≤ 6 := fun x hx => by
  obtain ⟨i, hi, rfl⟩ := List.getElem_of_mem hx
  exact h i hi
theorem sum_a {a b : List Int} (h : IsPar a b) : a.sum = (sumA (par a b) : Nat) := by
  rw [sum_nat fun x hx => (all_nn h.a6 x hx).1, sumA, par_fst a b h.len]
theorem sum_b {a b : List Int} (h : IsPar a b) : b.sum = (sumB (par a b) : Nat) := by
  rw [sum_nat fun x hx => (all_nn h.b6 x hx).1, sumB, par_snd a b h.len]
theorem count_one_sum {x y : Int} {z : Nat} (h : IsPar [x] [y]) (hz : cnt (par [x] [y]) = z) (hx : x ≠ 0) (hy : y ≠ 0) : ∃ n1 n2 : Nat, countOf [x - 1] [y] = (n1 : Int) ∧ countOf [x] [y - 1] = (n2 : Int) ∧ n1 + n2 = z := by
  have x6 := h.a6 0 (by simp); have y6 := h.b6 0 (by simp)
  simp only [List.getElem_cons_zero] at x6 y6
  have p1 : IsPar [x - 1] [y] := ⟨by simp, by simp, rfl, fun i hi => by simp at hi; subst hi; simp; omega, fun i hi => by simp at hi; subst hi; simp; omega⟩
  have p2 : IsPar [x] [y - 1] := ⟨by simp, by simp, rfl, fun i hi => by simp at hi; subst hi; simp; omega, fun i hi => by simp at hi; subst hi; simp; omega⟩
  refine ⟨_, _, count_of p1, count_of p2, ?_⟩
  rw [← hz]
  simp only [par, cnt, Nat.mul_one]
  obtain ⟨p, hp⟩ : ∃ p, x.toNat = p + 1 := ⟨x.toNat - 1, by omega⟩
  obtain ⟨q, hq⟩ : ∃ q, y.toNat = q + 1 := ⟨y.toNat - 1, by omega⟩
  rw [show (x - 1).toNat = p by omega, show (y - 1).toNat = q by omega, hp, hq, ch_step]
theorem cnt_set : ∀ (a b : List Int) (q : Nat) (hq : q < a.length) (_ : b.length = a.length) (_ : ∀ i (h : i < a.length), 0 ≤ a[i]), cnt (par a b) ≤ cnt (par (a.set q (a[q] + 1)) b)
  | [], _, q, hq, _, _ => by simp at hq
  | _ :: _, [], _, _, hb, _ => by simp at hb
  | x :: a, y :: b, 0, _, _, h => by
    have h0 := h 0 (by simp)
    simp only [List.getElem_cons_zero] at h0
    simp only [List.getElem_cons_zero, List.set_cons_zero, par, cnt]
    refine Nat.mul_le_mul_right _ ?_
    rw [show (x + 1).toNat = x.toNat + 1 by omega]
    exact ch_mono
  | x :: a, y :: b, q + 1, hq, hb, h => by
    simp only [List.getElem_cons_succ, List.set_cons_succ, par, cnt]
    exact Nat.mul_le_mul_left _ (cnt_set a b q (by simpa using hq) (by simpa using hb) fun i hi => by have := h (i + 1) (by simpa using hi); simpa using this)
theorem count_more {a b : List Int} {z q : Nat} {x : Int} (h : IsPar a b) (hz : cnt (par a b) = z) (hq : q < a.length) (hx : a[q] = x) : ∃ m : Int, countOf (a.set q (x + 1)) b = m ∧ ((m = -1 ∧ x = 6) ∨ (z : Int) ≤ m) := by
  have x6 := h.a6 q hq
  rw [hx] at x6
  have sl : (a.set q (x + 1)).length = a.length := List.length_set
  by_cases c : x = 6
  · refine ⟨_, rfl, .inl ⟨?_, c⟩⟩
    have hn : isPar (a.set q (x + 1)) b = false := isPar_no (i := q) (by rw [sl]; exact hq) (by have := h.len; omega) (.inl (by
      rw [List.getElem_set_self]
      cases e : parB (x + 1)
      · rfl
      · have := parB_iff.1 e; omega))
    unfold countOf
    rw [hn]; rfl
  · have p : IsPar (a.set q (x + 1)) b := ⟨by rw [sl]; exact h.one, by rw [sl]; exact h.most, by rw [sl]; exact h.len, fun i hi => by
      rw [List.getElem_set]
      split
      · omega
      · exact h.a6 i (by rw [sl] at hi; exact hi), h.b6⟩
    refine ⟨_, count_of p, .inr ?_⟩
    have := cnt_set a b q hq h.len fun i hi => (h.a6 i hi).1
    rw [hz, hx] at this
    omega
theorem between_cases (a b : List Int) (i k : Int) : (betweenOf a b i k = -1) ∨ (IsPar a b ∧ 0 ≤ i ∧ 0 ≤ k ∧ i.toNat < sumA (par a b) ∧ k.toNat < sumB (par a b) ∧ betweenOf a b i k = (betOf (par a b) i.toNat k.toNat : Nat)) := by
  unfold betweenOf
  by_cases h : isPar a b = true ∧ 0 ≤ i ∧ 0 ≤ k ∧ i.toNat < sumA (par a b) ∧ k.toNat < sumB (par a b)
  · exact .inr ⟨isPar_iff.1 h.1, h.2.1, h.2.2.1, h.2.2.2.1, h.2.2.2.2, by rw [if_pos h]⟩
  · exact .inl (by rw [if_neg h])
theorem between_of {a b : List Int} {x y : Nat} (h : IsPar a b) (hx : x < sumA (par a b)) (hy : y < sumB (par a b)) : betweenOf a b (x : Int) (y : Int) = (betOf (par a b) x y : Nat) := by
  unfold betweenOf
  rw [if_pos ⟨isPar_iff.2 h, by omega, by omega, by simpa using hx, by simpa using hy⟩]
  simp
theorem swap_sums (ps : List Pt) : sumA (ps.map Prod.swap) = sumB ps ∧ sumB (ps.map Prod.swap) = sumA ps := by
  simp [sumA, sumB, List.map_map, Function.comp_def]
theorem between_turn {a b : List Int} {x y : Nat} (h : IsPar a b) (hx : x < sumA (par a b)) (hy : y < sumB (par a b)) : ∃ m : Nat, betweenOf b a (y : Int) (x : Int) = (m : Int) ∧ betOf (par a b) x y + m = cnt (par a b) := by
  have e := par_swap a b
  refine ⟨_, between_of h.swap (by rw [e, (swap_sums _).1]; exact hy) (by rw [e, (swap_sums _).2]; exact hx), ?_⟩
  rw [e]
  exact betOf_turn (par a b) h.small x y hx hy
theorem between_left {a b : List Int} {x y z : Nat} {m : Int} (h : IsPar a b) (hy : y < sumB (par a b)) (hz : betOf (par a b) x y = z) (hm : betweenOf a b ((x : Int) + 1) (y : Int) = m) : m ≤ (z : Int) := by
  rcases between_cases a b ((x : Int) + 1) (y : Int) with c | ⟨_, _, _, _, _, c⟩
  · rw [hm] at c; omega
  · rw [hm, show ((x : Int) + 1).toNat = x + 1 by omega, Int.toNat_natCast] at c
    have := betOf_left (par a b) h.small x y hy
    omega
theorem between_right {a b : List Int} {x y z : Nat} {n : Int} (h : IsPar a b) (_hx : x < sumA (par a b)) (hz : betOf (par a b) x y = z) (hn : betweenOf a b (x : Int) ((y : Int) + 1) = n) : n = -1 ∨ (z : Int) ≤ n := by
  rcases between_cases a b (x : Int) ((y : Int) + 1) with c | ⟨_, _, _, _, _, c⟩
  · rw [hn] at c; exact .inl c
  · rw [hn, show ((y : Int) + 1).toNat = y + 1 by omega, Int.toNat_natCast] at c
    have := betOf_right (par a b) h.small x y
    exact .inr (by omega)
theorem between_ends {p q : Int} {x y : Nat} (h : IsPar [p] [q]) (hx : x < sumA (par [p] [q])) (hy : y < sumB (par [p] [q])) : ∃ m : Int, betweenOf [p] [q] 0 0 = m ∧ countOf [p - 1] [q] = m := by
  have x6 := h.a6 0 (by simp); have y6 := h.b6 0 (by simp)
  simp only [List.getElem_cons_zero] at x6 y6
  simp only [par, sumA, sumB, List.map_cons, List.map_nil, List.sum_cons, List.sum_nil, Nat.add_zero] at hx hy
  have p1 : IsPar [p - 1] [q] := ⟨by simp, by simp, rfl, fun i hi => by simp at hi; subst hi; simp; omega, fun i hi => by simp at hi; subst hi; simp; omega⟩
  have e1 := between_of (x := 0) (y := 0) h (by simp only [par, sumA, List.map_cons, List.map_nil, List.sum_cons, List.sum_nil]; omega) (by simp only [par, sumB, List.map_cons, List.map_nil, List.sum_cons, List.sum_nil]; omega)
  refine ⟨_, e1, ?_⟩
  rw [count_of p1]
  simp only [par, cnt, betOf, Nat.mul_one]
  rw [if_pos (by omega), if_pos (by omega), bet_ends _ (by omega) _ (by omega) (by omega) (by omega), show (p - 1).toNat = p.toNat - 1 by omega]
theorem six_sum {l : List Int} (hb : ∀ x ∈ l, 0 ≤ x ∧ x ≤ 6) : 0 ≤ l.sum ∧ l.sum ≤ 6 * (l.length : Int) := by
  induction l with
  | nil => simp
  | cons a l ih =>
    have h1 := hb a (by simp)
    have h2 := ih fun x hx => hb x (List.mem_cons_of_mem _ hx)
    rw [List.sum_cons, List.length_cons, Int.natCast_add]; omega
theorem six_take {l : List Int} (hb : ∀ x ∈ l, 0 ≤ x ∧ x ≤ 6) (h20 : l.length ≤ 20) (j : Nat) : 0 ≤ (l.take j).sum ∧ (l.take j).sum ≤ 120 := by
  have := six_sum fun x hx => hb x (List.mem_of_mem_take (i := j) hx)
  have l2 : (l.take j).length ≤ 20 := by rw [List.length_take]; omega
  omega
theorem six_step {l : List Int} {j : Nat} (h : j < l.length) : (l.take (j + 1)).sum = (l.take j).sum + l[j] := by
  rw [List.take_succ_eq_append_getElem h, List.sum_append]; simp
theorem sumP_is {w : World} {v : Value} {l : List Int} {x : Int} (h : IRow w v l) (hb : ∀ x ∈ l, 0 ≤ x ∧ x ≤ 6) (h20 : l.length ≤ 20) (hx : l.sum = x) : Calls Tryd.prog 18 #[v] w fun e w' => e = .returned (.int .i64 x) ∧ Below w.heap.size w w' := by
  subst hx
  obtain ⟨a', c', rfl, h1', h2', hlie⟩ := h.parts
  have H := Lib.hid hlie; have HM := Lib.hid hb
  unfold maxLen at h2'
  clear h hlie hb
  go_enter Tryd.func18, Tryd.ntmps18
  go_wp2_with fail
  go_loopg [3, 4] l.length (fun k y x wr => ∃ j : Nat, x = .int .i64 j ∧ y = .int .i64 (l.take j).sum ∧ j + k = l.length ∧ w = wr)
  case atStart => exact ⟨0, rfl, rfl, by omega, rfl⟩
  case round =>
    obtain ⟨j, rfl, rfl, hk, rfl⟩ := hrel
    have K := Lib.hid hk
    have hjl : j ≤ l.length := by omega
    clear hk
    by_cases hlt : j < l.length
    · obtain ⟨g, o, rfl, d1⟩ := ilies_cell H.out j hlt
      have i1 : (j : Int) < (l.length : Int) := by omega
      have i2 : (0 : Int) ≤ (j : Int) := by omega
      have hs := six_step hlt
      have s1 := six_take HM.out h20 j
      have s2 := six_take HM.out h20 (j + 1)
      have e1 : IntKind.i64.wrap ((l.take j).sum + l[j]) = (l.take (j + 1)).sum := by rw [hs]; exact IntWalk.i64_in _ (by omega)
      clear hs
      go_wp2_with fail
      go_roundg (gk - 1)
      case measure => have := K.out; omega
      case rel => exact ⟨j + 1, by go_num, by first | rfl | (rw [e1]), by have := K.out; omega, rfl⟩
    · have hj : j = l.length := by omega
      have e1 : (l.take j).sum = l.sum := by rw [hj, List.take_length]
      rw [e1]
      clear e1
      go_wp2_with fail
      go_ret
      exact ⟨rfl, Below.refl _ _⟩
end Go.Proofs.YtcemgdekcfdfhaaDoor
