/- What the laws on events and matchings need besides: plain mathematics, no program in it. -/
import Derived.Test.YthhdpjkmjebjhabMatchLaw
namespace Go.Proofs.Ythhdpjkmjebjhab

variable {a b : List Ev} {tol : Int}
theorem isEv_len (h : isEv a = true) : a.length ≤ 8 := (isEv_iff.1 h).1
theorem isEv_get (h : isEv a = true) {i : Nat} (hi : i < a.length) : 0 ≤ a[i].1 ∧ a[i].1 ≤ 30000 ∧ 1 ≤ a[i].2 ∧ a[i].2 ≤ 1000 := (isEv_iff.1 h).2.1 _ (List.getElem_mem hi)
theorem isEv_nil : isEv [] = true := rfl
/-- The last event twice. -/
theorem isEv_twice (h0 : 0 < a.length) : isEv (a ++ [a[a.length - 1]]) = false := by
  cases k : isEv (a ++ [a[a.length - 1]])
  · rfl
  · have := (isEv_iff.1 k).2.2 (a.length - 1) (by simp; omega)
    rw [List.getElem_append_left (by omega)] at this
    rw [List.getElem_append_right (by omega)] at this
    simp at this
/-- The size 0. -/
theorem isEv_zero {i : Nat} (hi : i < a.length) (d : Int) : isEv (a.set i (d, 0)) = false := by
  cases k : isEv (a.set i (d, 0))
  · rfl
  · have := (isEv_iff.1 k).2.1 (d, 0) (List.mem_set hi _)
    simp at this
/-- The sizes in the opposite order, the depths as they are. -/
def revEv (a : List Ev) : List Ev := (a.map (·.1)).zip (sizes a).reverse
theorem revEv_length (a : List Ev) : (revEv a).length = a.length := by simp [revEv, sizes]
theorem revEv_get {i : Nat} (h : i < (revEv a).length) : (revEv a)[i] = ((a[i]'(by rwa [revEv_length] at h)).1, (a[a.length - 1 - i]'(by rw [revEv_length] at h; omega)).2) := by
  simp [revEv, sizes]
theorem revEv_sizes (a : List Ev) : sizes (revEv a) = (sizes a).reverse := by
  unfold revEv sizes
  rw [List.map_snd_zip (by simp)]
theorem revEv_ev (h : isEv a = true) : isEv (revEv a) = true := by
  obtain ⟨h1, h2, h3⟩ := isEv_iff.1 h
  refine isEv_iff.2 ⟨by rw [revEv_length]; exact h1, fun p hp => ?_, fun i hi => ?_⟩
  · obtain ⟨i, hi, rfl⟩ := List.getElem_of_mem hp
    rw [revEv_get]
    rw [revEv_length] at hi
    have p1 := isEv_get h hi
    have p2 := isEv_get h (show a.length - 1 - i < a.length by omega)
    exact ⟨p1.1, p1.2.1, p2.2.2.1, p2.2.2.2⟩
  · rw [revEv_length] at hi
    rw [revEv_get, revEv_get]; exact h3 i hi
theorem revEv_next {j : Nat} (h : j < a.length) : (revEv a).take j ++ [((a[j]).1, (a[a.length - 1 - j]'(by omega)).2)] = (revEv a).take (j + 1) := by
  rw [List.take_succ_eq_append_getElem (by rw [revEv_length]; exact h), revEv_get]
theorem args_swap (a b : List Ev) (tol : Int) : argsOk b a tol = argsOk a b tol := by
  unfold argsOk; rw [Bool.and_comm (isEv b)]
theorem mostB_yes (h : argsOk a b tol = true) : mostB a b tol = (most tol (sizes a) (sizes b) : Nat) := if_pos h
theorem mostB_no (h : argsOk a b tol = false) : mostB a b tol = -1 := if_neg (by rw [h]; simp)
theorem countB_yes (h : argsOk a b tol = true) : countB a b tol = (cnt tol (sizes a) (sizes b) : Nat) := if_pos h
theorem countB_no (h : argsOk a b tol = false) : countB a b tol = -1 := if_neg (by rw [h]; simp)
theorem bestEB_yes (h : argsOk a b tol = true) : bestEB a b tol = some (bestM tol (sizes a) (sizes b) 0) := if_pos h
theorem bestEB_no (h : argsOk a b tol = false) : bestEB a b tol = none := if_neg (by rw [h]; simp)
theorem mostB_iff : 0 ≤ mostB a b tol ↔ argsOk a b tol = true := by
  unfold mostB; cases argsOk a b tol <;> simp
theorem countB_iff : 0 ≤ countB a b tol ↔ argsOk a b tol = true := by
  unfold countB; cases argsOk a b tol <;> simp
theorem manyM_iff {m : List Int} : 0 ≤ manyM a b tol m ↔ okB a b tol m = true := by
  unfold manyM; cases okB a b tol m <;> simp
theorem manyM_yes {m : List Int} (h : okB a b tol m = true) : manyM a b tol m = (pairs m : Nat) := if_pos h
theorem manyM_no {m : List Int} (h : okB a b tol m = false) : manyM a b tol m = -1 := if_neg (by rw [h]; simp)
theorem mostB_swap (a b : List Ev) (tol : Int) : mostB b a tol = mostB a b tol := by
  unfold mostB; rw [args_swap, most_comm]
theorem countB_swap (a b : List Ev) (tol : Int) : countB b a tol = countB a b tol := by
  unfold countB; rw [args_swap, cnt_comm]
theorem mostB_rev (h : argsOk a b tol = true) : mostB (revEv a) (revEv b) tol = mostB a b tol := by
  obtain ⟨h1, h2, h3⟩ := argsOk_iff.1 h
  rw [mostB_yes h, mostB_yes (argsOk_iff.2 ⟨revEv_ev h1, revEv_ev h2, h3⟩), revEv_sizes, revEv_sizes, most_reverse]
theorem mostB_bound (a b : List Ev) (tol : Int) : -1 ≤ mostB a b tol ∧ mostB a b tol ≤ 8 := by
  by_cases h : argsOk a b tol = true
  · rw [mostB_yes h]
    have := most_le tol (sizes a) (sizes b)
    rw [sizes_length] at this
    have := isEv_len (argsOk_iff.1 h).1; omega
  · rw [mostB_no (by simpa using h)]; omega
theorem countB_bound (a b : List Ev) (tol : Int) : -1 ≤ countB a b tol ∧ countB a b tol ≤ 12870 := by
  by_cases h : argsOk a b tol = true
  · rw [countB_yes h]
    have := cnt_le tol (sizes a) (sizes b)
    rw [sizes_length, sizes_length] at this
    have := all2_bound _ (isEv_len (argsOk_iff.1 h).1) _ (isEv_len (argsOk_iff.1 h).2.1); omega
  · rw [countB_no (by simpa using h)]; omega
theorem sizes_last (h0 : 0 < a.length) : sizes a = sizes (a.take (a.length - 1)) ++ [(a[a.length - 1]).2] := by
  have e : a = a.take (a.length - 1) ++ [a[a.length - 1]] := by
    rw [← List.take_succ_eq_append_getElem (show a.length - 1 < a.length by omega), show a.length - 1 + 1 = a.length by omega, List.take_length]
  conv => lhs; rw [e]
  simp only [sizes, List.map_append, List.map_cons, List.map_nil]
/-- One event less. -/
theorem mostB_less (h : argsOk a b tol = true) (h0 : 0 < a.length) : mostB (a.take (a.length - 1)) b tol ≤ mostB a b tol ∧ mostB a b tol ≤ mostB (a.take (a.length - 1)) b tol + 1 := by
  obtain ⟨h1, h2, h3⟩ := argsOk_iff.1 h
  rw [mostB_yes h, mostB_yes (argsOk_iff.2 ⟨isEv_take h1 _, h2, h3⟩)]
  have := most_last tol (a[a.length - 1]).2 (sizes (a.take (a.length - 1))) (sizes b)
  rw [← sizes_last h0] at this; omega
theorem mostB_more (h : argsOk a b tol = true) (ht : tol < 1000) : mostB a b tol ≤ mostB a b (tol + 1) := by
  obtain ⟨h1, h2, h3⟩ := argsOk_iff.1 h
  have := tolOk_iff.1 h3
  rw [mostB_yes h, mostB_yes (argsOk_iff.2 ⟨h1, h2, tolOk_iff.2 (by omega)⟩)]
  have := most_more (show tol ≤ tol + 1 by omega) (sizes a) (sizes b)
  exact_mod_cast this
theorem countB_more (h : argsOk a b tol = true) (ht : tol < 1000) : countB a b tol ≤ countB a b (tol + 1) := by
  obtain ⟨h1, h2, h3⟩ := argsOk_iff.1 h
  have := tolOk_iff.1 h3
  rw [countB_yes h, countB_yes (argsOk_iff.2 ⟨h1, h2, tolOk_iff.2 (by omega)⟩)]
  have := cnt_more (show tol ≤ tol + 1 by omega) (sizes a) (sizes b)
  exact_mod_cast this
theorem args_over (a b : List Ev) : argsOk a b (1000 + 1) = false := by
  cases h : argsOk a b (1000 + 1)
  · rfl
  · have := tolOk_iff.1 (argsOk_iff.1 h).2.2; omega
/-- With the greatest tolerance all are alike. -/
theorem countB_all (h : argsOk a b tol = true) : countB a b 1000 = (all2 a.length b.length : Nat) := by
  obtain ⟨h1, h2, h3⟩ := argsOk_iff.1 h
  rw [countB_yes (argsOk_iff.2 ⟨h1, h2, by decide⟩)]
  have := cnt_all (tol := 1000) (s := sizes a) (t := sizes b) fun x hx y hy => by
    obtain ⟨p, hp, rfl⟩ := List.mem_map.1 hx
    obtain ⟨q, hq, rfl⟩ := List.mem_map.1 hy
    have := (isEv_iff.1 h1).2.1 p hp
    have := (isEv_iff.1 h2).2.1 q hq
    exact like_iff.2 (by omega)
  rw [this, sizes_length, sizes_length]
/-- The matchings of the last event: behind the first j of b. -/
theorem countB_last (h : argsOk a b tol = true) (h0 : 0 < a.length) : countB a b tol = countB (a.take (a.length - 1)) b tol + (lastP tol (a[a.length - 1]).2 (sizes (a.take (a.length - 1))) (sizes b) b.length : Nat) := by
  obtain ⟨h1, h2, h3⟩ := argsOk_iff.1 h
  rw [countB_yes h, countB_yes (argsOk_iff.2 ⟨isEv_take h1 _, h2, h3⟩)]
  have := cnt_last tol (a[a.length - 1]).2 (sizes (a.take (a.length - 1))) (sizes b) b.length (by rw [sizes_length]; exact Nat.le_refl _)
  rw [← sizes_last h0, ← sizes_length b, List.take_length] at this
  rw [sizes_length] at this
  exact_mod_cast this
theorem lastP_step (tol x : Int) (s : List Int) (b : List Ev) {j : Nat} (hj : j < b.length) :
    lastP tol x s (sizes b) (j + 1) = lastP tol x s (sizes b) j + (if like tol x (b[j]).2 then cnt tol s (sizes (b.take j)) else 0) := by
  simp only [lastP]
  rw [sizes_getD hj, sizes_take]
theorem lastP_bound {x : Int} {s : List Int} (h : argsOk a b tol = true) (hs : s.length ≤ 8) (j : Nat) (hj : j ≤ b.length) : lastP tol x s (sizes b) j ≤ 12870 * j := by
  obtain ⟨h1, h2, h3⟩ := argsOk_iff.1 h
  induction j with
  | zero => exact Nat.le_refl _
  | succ j ih =>
    have := ih (by omega)
    rw [lastP_step tol x s b (by omega)]
    have c := cnt_le tol s (sizes (b.take j))
    have := all2_bound _ hs _ (show (sizes (b.take j)).length ≤ 8 by rw [sizes_length, List.length_take]; have := isEv_len h2; omega)
    split <;> omega
/-- One event behind the second list. -/
theorem isEv_add (h : isEv b = true) (h8 : b.length ≠ 8) {d z : Int} (h0 : 0 ≤ d) (hd : ∀ hb : 0 < b.length, (b[b.length - 1]).1 < d) (hm : d ≤ 30000) (z1 : 1 ≤ z) (z2 : z ≤ 1000) : isEv (b ++ [(d, z)]) = true := by
  obtain ⟨h1, h2, h3⟩ := isEv_iff.1 h
  refine isEv_iff.2 ⟨by simp; omega, fun p hp => ?_, fun i hi => ?_⟩
  · rcases List.mem_append.1 hp with q | q
    · exact h2 p q
    · simp at q; subst q; exact ⟨h0, hm, z1, z2⟩
  · simp only [List.length_append, List.length_cons, List.length_nil] at hi
    rw [List.getElem_append_left (by omega)]
    by_cases c : i + 1 < b.length
    · rw [List.getElem_append_left c]; exact h3 i c
    · rw [List.getElem_append_right (by omega)]
      have e : i = b.length - 1 := by omega
      subst e
      simpa using hd (by omega)
theorem mostB_add (h : argsOk a b tol = true) {d z : Int} (hx : isEv (b ++ [(d, z)]) = true) : mostB a b tol ≤ mostB a (b ++ [(d, z)]) tol ∧ mostB a (b ++ [(d, z)]) tol ≤ mostB a b tol + 1 := by
  obtain ⟨h1, h2, h3⟩ := argsOk_iff.1 h
  rw [mostB_yes h, mostB_yes (argsOk_iff.2 ⟨h1, hx, h3⟩)]
  have := most_last' tol z (sizes a) (sizes b)
  rw [show sizes (b ++ [(d, z)]) = sizes b ++ [z] by simp [sizes]]; omega
/-- All a millimeter deeper. -/
def deeper (a : List Ev) : List Ev := a.map fun p => (p.1 + 1, p.2)
theorem deeper_length (a : List Ev) : (deeper a).length = a.length := by simp [deeper]
theorem deeper_sizes (a : List Ev) : sizes (deeper a) = sizes a := by simp [sizes, deeper]
theorem deeper_take {j : Nat} (h : j < a.length) : (deeper a).take (j + 1) = (deeper a).take j ++ [((a[j]).1 + 1, (a[j]).2)] := by
  rw [List.take_succ_eq_append_getElem (by rw [deeper_length]; exact h)]; simp [deeper]
theorem mostB_deeper (h : argsOk a b tol = true) : mostB (deeper a) b tol = mostB a b tol ∨ (isEv (deeper a) = false ∧ mostB (deeper a) b tol = -1) := by
  obtain ⟨h1, h2, h3⟩ := argsOk_iff.1 h
  cases k : isEv (deeper a)
  · right; exact ⟨rfl, mostB_no (by unfold argsOk; rw [k]; rfl)⟩
  · left; rw [mostB_yes h, mostB_yes (argsOk_iff.2 ⟨k, h2, h3⟩), deeper_sizes]
theorem mostB_none (h : argsOk a b tol = true) : mostB a [] tol = 0 ∧ mostB [] b tol = 0 ∧ countB a [] tol = 1 := by
  obtain ⟨h1, h2, h3⟩ := argsOk_iff.1 h
  rw [mostB_yes (argsOk_iff.2 ⟨h1, isEv_nil, h3⟩), mostB_yes (argsOk_iff.2 ⟨isEv_nil, h2, h3⟩), countB_yes (argsOk_iff.2 ⟨h1, isEv_nil, h3⟩)]
  refine ⟨?_, ?_, ?_⟩
  · show ((most tol (sizes a) [] : Nat) : Int) = 0; rw [most_nil']; rfl
  · show ((most tol [] (sizes b) : Nat) : Int) = 0; rw [most_nil]; rfl
  · show ((cnt tol (sizes a) [] : Nat) : Int) = 1; rw [cnt_nil']; rfl
theorem okB_more {m : List Int} (h : okB a b tol m = true) (ht : tol < 1000) : okB a b (tol + 1) m = true := by
  obtain ⟨h1, h2⟩ := okB_iff.1 h
  obtain ⟨g1, g2, g3⟩ := argsOk_iff.1 h1
  have := tolOk_iff.1 g3
  exact okB_iff.2 ⟨argsOk_iff.2 ⟨g1, g2, tolOk_iff.2 (by omega)⟩, h2.more (by omega)⟩
theorem okB_drop {m : List Int} (h : okB a b tol m = true) (i : Nat) : okB a b tol (m.set i (-1)) = true := by
  obtain ⟨h1, h2⟩ := okB_iff.1 h
  exact okB_iff.2 ⟨h1, h2.drop i⟩
theorem okB_none (h : argsOk a b tol = true) : okB a b tol (List.replicate a.length (-1)) = true := by
  refine okB_iff.2 ⟨h, ?_⟩
  have := mok_none tol 0 (sizes a) (sizes b)
  rwa [sizes_length] at this
theorem okB_turn {m : List Int} (h : okB a b tol m = true) : okB b a tol (turned b.length m m.length) = true ∧ manyM b a tol (turned b.length m m.length) = manyM a b tol m := by
  obtain ⟨h1, h2⟩ := okB_iff.1 h
  have t := h2.turn
  rw [sizes_length] at t
  have o : okB b a tol (turned b.length m m.length) = true := okB_iff.2 ⟨by rw [args_swap]; exact h1, t.1⟩
  exact ⟨o, by rw [manyM_yes o, manyM_yes h, t.2]⟩
theorem okB_len {m : List Int} (h : okB a b tol m = true) : m.length = a.length := by
  have := (okB_iff.1 h).2.len
  rwa [sizes_length] at this
theorem many_most {m : List Int} (h : okB a b tol m = true) : (pairs m : Int) ≤ mostB a b tol ∧ pairs m ≤ a.length ∧ pairs m ≤ b.length := by
  have hk := h
  simp only [okB, Bool.and_eq_true] at hk
  have p := pairs_most (f := 0) hk.2
  rw [List.drop_zero] at p
  have h1 := most_le tol (sizes a) (sizes b)
  have h2 := most_le' tol (sizes a) (sizes b)
  rw [sizes_length] at h1 h2
  rw [mostB_yes hk.1]; omega
theorem best_okB (h : argsOk a b tol = true) : okB a b tol (bestM tol (sizes a) (sizes b) 0) = true ∧ manyM a b tol (bestM tol (sizes a) (sizes b) 0) = mostB a b tol := by
  have t := bestM_ok (tol := tol) (t := sizes b) (s := sizes a) (f := 0)
  rw [List.drop_zero] at t
  have o : okB a b tol (bestM tol (sizes a) (sizes b) 0) = true := by simp only [okB, Bool.and_eq_true]; exact ⟨h, t.1⟩
  exact ⟨o, by rw [manyM_yes o, mostB_yes h, t.2]⟩
theorem best_first {i : Nat} {k : Int} (h0 : 0 ≤ k) (hi : i < (bestM tol (sizes a) (sizes b) 0).length) (hk : k < (bestM tol (sizes a) (sizes b) 0)[i]) : okB a b tol ((bestM tol (sizes a) (sizes b) 0).set i k) = false := by
  have hi' : i < (sizes a).length := by rwa [bestM_length] at hi
  have := bestM_first (tol := tol) (t := sizes b) (s := sizes a) (f := 0) hi' h0 (by simpa only [List.drop_zero] using hk)
  rw [List.drop_zero] at this
  simp only [okB]
  have e : mok tol (sizes b) 0 (sizes a) ((bestM tol (sizes a) (sizes b) 0).set i k) = false := this
  rw [e, Bool.and_false]
theorem best_any {i : Nat} {k : Int} (h0 : 0 ≤ k) (hi : i < (bestM tol (sizes a) (sizes b) 0).length) (hk : (bestM tol (sizes a) (sizes b) 0)[i] < 0) : okB a b tol ((bestM tol (sizes a) (sizes b) 0).set i k) = false := by
  have hi' : i < (sizes a).length := by rwa [bestM_length] at hi
  have := bestM_any (tol := tol) (t := sizes b) (s := sizes a) hi' h0 hk
  simp only [okB]
  rw [this, Bool.and_false]
theorem best_self (h : argsOk a b tol = true) : bestEB a a tol = some ((List.range a.length).map fun (i : Nat) => (i : Int)) ∧ mostB a a tol = a.length := by
  obtain ⟨h1, h2, h3⟩ := argsOk_iff.1 h
  have ht := tolOk_iff.1 h3
  have ha : argsOk a a tol = true := argsOk_iff.2 ⟨h1, h1, h3⟩
  rw [bestEB_yes ha, mostB_yes ha, bestM_self ht.1, most_self ht.1, sizes_length]
  refine ⟨?_, rfl⟩
  congr 1
  apply List.map_congr_left
  intro i _
  rw [Nat.zero_add]
end Go.Proofs.Ythhdpjkmjebjhab
