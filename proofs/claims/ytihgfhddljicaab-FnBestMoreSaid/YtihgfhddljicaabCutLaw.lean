/- What the laws on cuts need: plain mathematics, no program in it. -/
import Derived.Test.YtihgfhddljicaabCutBest
namespace Go.Proofs.Ytihgfhddljicaab

/-- Allowed cuts, with the limits as natural numbers. -/
structure IsAllowed (c : List Int) (a b : Nat) (l : List Int) : Prop where
  sig : isSig c = true
  a1 : 1 ≤ a
  ab : a ≤ b
  b16 : b ≤ 16
  ok : goes a b ((c.length : Int) - 1) (-1) l = true
theorem allowed_is {c : List Int} {lo mo : Int} {l : List Int} (h : allowedB c lo mo l = true) : ∃ a b : Nat, lo = a ∧ mo = b ∧ IsAllowed c a b l := by
  obtain ⟨h1, h2, h3⟩ := allowedB_iff.1 h
  obtain ⟨a, b, rfl, rfl, k1, k2, k3⟩ := lim_nat h2
  exact ⟨a, b, rfl, rfl, h1, k1, k2, k3, h3⟩
variable {c l : List Int} {a b : Nat}
theorem IsAllowed.allowed (h : IsAllowed c a b l) : allowedB c a b l = true := allowedB_iff.2 ⟨h.sig, lim_yes h.a1 h.ab h.b16, h.ok⟩
theorem IsBest.toAllowed (h : IsBest c a b l) : IsAllowed c a b l := ⟨h.sig, h.a1, h.ab, h.b16, h.ok⟩
theorem IsAllowed.len (h : IsAllowed c a b l) : 1 ≤ c.length ∧ c.length ≤ 16 := by have := isSig_iff.1 h.sig; exact ⟨this.1, this.2.1⟩
theorem IsAllowed.mul (h : IsAllowed c a b l) : l.length * a ≤ c.length ∧ c.length ≤ l.length * b := by
  have := goes_many h.ok
  have e1 : ((l.length * a : Nat) : Int) = (l.length : Int) * (a : Int) := Int.natCast_mul _ _
  have e2 : ((l.length * b : Nat) : Int) = (l.length : Int) * (b : Int) := Int.natCast_mul _ _
  omega
theorem IsAllowed.size (h : IsAllowed c a b l) : 1 ≤ l.length ∧ l.length ≤ c.length := by
  obtain ⟨h1, h2⟩ := h.mul
  have := h.len
  constructor
  · rcases Nat.eq_zero_or_pos l.length with k | k
    · rw [k, Nat.zero_mul] at h2; omega
    · exact k
  · exact Nat.le_trans (Nat.le_mul_of_pos_right _ h.a1) h1
theorem IsAllowed.places (h : IsAllowed c a b l) : ∀ x ∈ l, 0 ≤ x ∧ x < (c.length : Int) := fun x hx => by
  have := goes_places (by have := h.a1; omega) h.ok x hx; omega
theorem IsAllowed.last (h : IsAllowed c a b l) (h0 : l.length - 1 < l.length) : l[l.length - 1] = (c.length : Int) - 1 := goes_last h.ok (by omega)
theorem IsAllowed.wider (h : IsAllowed c a b l) {a' b' : Nat} (h1 : 1 ≤ a') (h2 : a' ≤ a) (h3 : b ≤ b') (h4 : b' ≤ 16) : IsAllowed c a' b' l :=
  ⟨h.sig, h1, by have := h.ab; omega, h4, goes_wider (by omega) (by omega) h.ok⟩
theorem IsAllowed.free (h : IsAllowed c a b l) : allowedB c 1 16 l = true :=
  (h.wider (a' := 1) (b' := 16) (Nat.le_refl _) h.a1 h.b16 (Nat.le_refl _)).allowed
theorem allowed_more (c l : List Int) (lo mo : Int) : allowedB c lo mo (l ++ [(c.length : Int)]) = false := by
  cases k : allowedB c lo mo (l ++ [(c.length : Int)])
  · rfl
  · obtain ⟨q, _, k2⟩ := goes_append.1 (allowedB_iff.1 k).2.2
    simp only [goes, Bool.and_eq_true, decide_eq_true_eq] at k2
    omega
theorem IsAllowed.many (h : IsAllowed c a b l) : 1 ≤ manyB c.length a b := by
  have := goes_ways h.a1 h.ok
  rw [show ((c.length : Int) - 1 - -1).toNat = c.length by omega] at this
  rw [manyB_yes h.len.1 h.len.2 h.a1 h.ab h.b16]; omega
theorem years_yes {n : Nat} (hb : 1 ≤ b) (h : 1 ≤ manyB n a b) : yearsB n a b = some ((((n + b - 1) / b : Nat) : Int), ((n / a : Nat) : Int)) := by
  unfold yearsB
  rw [if_neg (by omega)]
  congr 2
  rw [Int.natCast_ediv]; congr 1; omega
theorem IsAllowed.years (h : IsAllowed c a b l) : ∃ s t : Nat, yearsB c.length a b = some ((s : Int), (t : Int)) ∧ s ≤ l.length ∧ l.length ≤ t := by
  have hb : 1 ≤ b := by have := h.a1; have := h.ab; omega
  have e := number_ends h.a1 hb h.mul.1 h.mul.2
  exact ⟨_, _, years_yes hb h.many, e.1, e.2⟩

/-! Costs. -/
theorem costB_yes {lo mo : Int} (h : allowedB c lo mo l = true) : costB c lo mo l = costAt c l := if_pos h
theorem costB_no {lo mo : Int} (h : allowedB c lo mo l = false) : costB c lo mo l = -1 := if_neg (by rw [h]; simp)
theorem IsAllowed.cost (h : IsAllowed c a b l) : costB c a b l = costAt c l := costB_yes h.allowed
theorem IsAllowed.bound (h : IsAllowed c a b l) : 0 ≤ costAt c l ∧ costAt c l ≤ 16000 := by
  have hc := (isSig_iff.1 h.sig).2.2
  have h1 := cost_nonneg (c := c) (cuts := l) fun x hx => (hc x hx).1
  have h2 := cost_bound (c := c) (cuts := l) hc
  have := h.size; have := h.len
  omega
theorem costB_neg {lo mo : Int} (h : costB c lo mo l < 0) : allowedB c lo mo l = false := by
  cases k : allowedB c lo mo l
  · rfl
  · obtain ⟨a, b, rfl, rfl, q⟩ := allowed_is k
    have := q.bound; rw [q.cost] at h; omega
theorem costB_nonneg {lo mo : Int} (h : 0 ≤ costB c lo mo l) : allowedB c lo mo l = true := by
  cases k : allowedB c lo mo l
  · rw [costB_no k] at h; omega
  · rfl
theorem costAt_append (c l m : List Int) : costAt c (l ++ m) = costAt c l + costAt c m := by simp [costAt]
theorem cost_step {j : Nat} (hj : j < l.length) : costAt c (l.take (j + 1)) = costAt c (l.take j) + c.getD l[j].toNat 0 := by
  rw [List.take_succ_eq_append_getElem hj, costAt_append]; simp [costAt]
theorem getD_in {x : Int} (h0 : 0 ≤ x) (h1 : x < (c.length : Int)) : c.getD x.toNat 0 = c[x.toNat]'(by omega) := by
  rw [List.getD_eq_getElem?_getD, List.getElem?_eq_getElem (by omega)]; rfl
theorem IsAllowed.part (h : IsAllowed c a b l) (j : Nat) : 0 ≤ costAt c (l.take j) ∧ costAt c (l.take j) ≤ 16000 := by
  have hc := (isSig_iff.1 h.sig).2.2
  have h1 := cost_nonneg (c := c) (cuts := l.take j) fun x hx => (hc x hx).1
  have h2 := cost_bound (c := c) (cuts := l.take j) hc
  have := h.size; have := h.len; have := List.length_take_le' j l
  omega
/-- Every cost one more. -/
def plus1 (c : List Int) : List Int := c.map (· + 1)
theorem plus1_length (c : List Int) : (plus1 c).length = c.length := by simp [plus1]
theorem cost_plus1 (h : ∀ x ∈ l, 0 ≤ x ∧ x < (c.length : Int)) : costAt (plus1 c) l = costAt c l + (l.length : Int) := by
  induction l with
  | nil => rfl
  | cons x t ih =>
    have h0 := h x (by simp)
    rw [costAt_cons, costAt_cons, ih fun y hy => h y (by simp [hy]), getD_in h0.1 h0.2, getD_in h0.1 (by rw [plus1_length]; exact h0.2)]
    simp [plus1]; omega
theorem IsAllowed.plus (h : IsAllowed c a b l) : costB (plus1 c) a b l = costAt c l + (l.length : Int) ∨ costB (plus1 c) a b l = -1 := by
  cases hs : isSig (plus1 c)
  · right; exact costB_no (by unfold allowedB; rw [hs]; rfl)
  · left
    have k : IsAllowed (plus1 c) a b l := ⟨hs, h.a1, h.ab, h.b16, by rw [plus1_length]; exact h.ok⟩
    rw [k.cost]
    exact cost_plus1 h.places
/-- The last place costs what it costs. -/
theorem cost_has {x : Int} (hc : ∀ y ∈ c, 0 ≤ y) (hx : x ∈ l) : c.getD x.toNat 0 ≤ costAt c l := by
  obtain ⟨s, t, rfl⟩ := List.append_of_mem hx
  rw [costAt_append, costAt_cons]
  have := cost_nonneg (cuts := s) hc
  have := cost_nonneg (cuts := t) hc
  omega
theorem IsAllowed.end_cost (h : IsAllowed c a b l) (h0 : c.length - 1 < c.length) : c[c.length - 1] ≤ costAt c l := by
  have hs := h.size
  have m := List.getElem_mem (show l.length - 1 < l.length by omega)
  rw [h.last] at m
  have := cost_has (fun y hy => ((isSig_iff.1 h.sig).2.2 y hy).1) m
  rw [getD_in (by omega) (by omega)] at this
  have e : ((c.length : Int) - 1).toNat = c.length - 1 := by omega
  simpa only [e] using this

/-! The best cuts. -/
theorem IsBest.free (h : IsBest c a b l) : ∃ m, bestB c 1 16 = some m ∧ IsBest c 1 16 m ∧ costAt c m = c[c.length - 1]'(by have := h.toAllowed.len; omega) := by
  have hl := h.toAllowed.len
  have g : goes 1 16 ((c.length : Int) - 1) (-1) [(c.length : Int) - 1] = true := by simp [goes]; omega
  obtain ⟨m, hm⟩ := bestB_has (allowedB_iff.2 ⟨h.sig, (by decide : isLim 1 16 = true), g⟩)
  obtain ⟨a', b', e1, e2, k⟩ := bestB_some hm
  have ha : a' = 1 := by omega
  have hb : b' = 16 := by omega
  subst ha; subst hb
  refine ⟨m, hm, k, ?_⟩
  have u := (k.least _ g).1
  have v := k.toAllowed.end_cost (by omega)
  have e : costAt c [(c.length : Int) - 1] = c[c.length - 1]'(by omega) := by
    have e : ((c.length : Int) - 1).toNat = c.length - 1 := by omega
    simp only [costAt, List.map_cons, List.map_nil, List.sum_cons, List.sum_nil, Int.add_zero]
    rw [getD_in (by omega) (by omega)]; simp only [e]
  omega
theorem IsBest.wider (h : IsBest c a b l) (hb : b + 1 ≤ 16) : ∃ m, bestB c a ((b : Int) + 1) = some m ∧ IsBest c a (b + 1) m ∧ costAt c m ≤ costAt c l := by
  have w := h.toAllowed.wider (a' := a) (b' := b + 1) h.a1 (Nat.le_refl _) (by omega) hb
  have wa := w.allowed
  rw [Int.natCast_add, Int.natCast_one] at wa
  obtain ⟨m, hm⟩ := bestB_has wa
  obtain ⟨a', b', e1, e2, k⟩ := bestB_some hm
  have ha : a' = a := by omega
  have hb : b' = b + 1 := by omega
  subst ha; subst hb
  exact ⟨m, hm, k, (k.least _ w.ok).1⟩
theorem best_narrow (c : List Int) (a : Nat) : bestB c a ((16 : Int) + 1) = none := bestB_no (.inr (by
  cases k : isLim a (16 + 1)
  · rfl
  · have := isLim_iff.1 k; omega))
theorem best_twice {lo mo : Int} (h : bestB c lo mo = some l) : bestB (c.map (2 * ·)) lo mo = if isSig (c.map (2 * ·)) = true then some l else none := by
  obtain ⟨a, b, rfl, rfl, k⟩ := bestB_some h
  cases hs : isSig (c.map (2 * ·))
  · rw [bestB_no (.inl hs)]; rfl
  · rw [bestB_nat hs k.a1 k.ab k.b16, best_dbl k.a1, tl_dbl k.a1, if_pos rfl]
    rw [bestB_nat k.sig k.a1 k.ab k.b16] at h
    cases hb : best a b c with
    | none => rw [hb] at h; cases h
    | some p => rw [hb] at h; exact h
/-- What is behind the first cut is best. -/
theorem IsBest.suffix {lo mo : Int} (h : bestB c lo mo = some l) (hl : 2 ≤ l.length) : ∃ (k : Nat) (m : List Int), l[0]'(by omega) + 1 = (k : Int) ∧ 1 ≤ k ∧ k < c.length ∧ isSig (c.drop k) = true ∧ bestB (c.drop k) lo mo = some m ∧ m.length + 1 = l.length ∧
    ∀ i (_ : i < m.length) (_ : i + 1 < l.length), m[i] + (k : Int) = l[i + 1] := by
  obtain ⟨a, b, rfl, rfl, k⟩ := bestB_some h
  rw [bestB_nat k.sig k.a1 k.ab k.b16] at h
  obtain ⟨g1, g2, g3⟩ := isSig_iff.1 k.sig
  cases hb : best a b c with
  | none => rw [hb] at h; cases h
  | some p =>
    rw [hb] at h
    have e : tl a b c 0 = l := by simpa using h
    obtain ⟨q1, q2, q3, ⟨q, hq, _⟩, _⟩ := best_some k.a1 g1 hb
    rw [tl_cons k.a1 g1 hb] at e
    subst e
    have hk := k.a1
    have hp : p.1 < c.length := by
      rcases Nat.lt_or_ge p.1 c.length with u | u
      · exact u
      · rw [List.drop_of_length_le u, tl_nil] at hl; simp at hl
    have sg : isSig (c.drop p.1) = true := isSig_iff.2 ⟨by simp; omega, by simp; omega, fun x hx => g3 x (List.mem_of_mem_drop hx)⟩
    have sh := tl_shift (b := b) hk (cs := c.drop p.1) (k := 0) (s := p.1)
    refine ⟨p.1, tl a b (c.drop p.1) 0, by simp; omega, by omega, hp, sg, ?_, ?_, ?_⟩
    · rw [bestB_nat sg k.a1 k.ab k.b16, hq]; rfl
    · rw [List.length_cons, sh, List.length_map]
    · intro i h1 h2
      simp only [List.getElem_cons_succ, sh, List.getElem_map]
/-- A place that costs one more. -/
theorem cost_set {e p : Int} (h1 : 1 ≤ a) {k : Nat} (hk : k < c.length) (h : goes a b e p l = true) (hp : -1 ≤ p) : costAt (c.set k (c[k] + 1)) l = costAt c l + (if (k : Int) ∈ l then 1 else 0) := by
  induction l generalizing p with
  | nil => rfl
  | cons x t ih =>
    obtain ⟨g1, g2, g3⟩ := goes_cons.1 h
    rw [costAt_cons, costAt_cons, ih g3 (by omega)]
    have hx : (c.set k (c[k] + 1)).getD x.toNat 0 = c.getD x.toNat 0 + (if (k : Int) = x then 1 else 0) := by
      simp only [List.getD_eq_getElem?_getD, List.getElem?_set]
      by_cases z : k = x.toNat
      · rw [if_pos z, if_pos (show (k : Int) = x by omega)]; subst z; simp [hk]
      · rw [if_neg z, if_neg (by omega)]; simp
    rw [hx]
    have hn : (k : Int) ∈ t → x < (k : Int) := fun m => (goes_places (by omega) g3 _ m).1
    by_cases z : (k : Int) = x
    · have : ¬ (k : Int) ∈ t := fun m => by have := hn m; omega
      rw [if_pos z, if_neg this, if_pos (by simp [z])]; omega
    · rw [if_neg z]
      by_cases y : (k : Int) ∈ t
      · rw [if_pos y, if_pos (by simp [y])]; omega
      · rw [if_neg y, if_neg (by simp [y, z])]; omega
theorem IsBest.dearer (h : IsBest c a b l) {k : Nat} (hk : k < c.length) :
    (1000 < c[k] + 1 ∧ bestB (c.set k (c[k] + 1)) a b = none) ∨ (¬ 1000 < c[k] + 1 ∧ ∃ m, bestB (c.set k (c[k] + 1)) a b = some m ∧ IsBest (c.set k (c[k] + 1)) a b m ∧
      (costAt (c.set k (c[k] + 1)) m - costAt c l = 0 ∨ costAt (c.set k (c[k] + 1)) m - costAt c l = 1)) := by
  obtain ⟨g1, g2, g3⟩ := isSig_iff.1 h.sig
  by_cases z : 1000 < c[k] + 1
  · left
    refine ⟨z, bestB_no (.inl ?_)⟩
    cases q : isSig (c.set k (c[k] + 1))
    · rfl
    · have := (isSig_iff.1 q).2.2 (c[k] + 1) (List.mem_set hk _)
      omega
  · right
    refine ⟨z, ?_⟩
    have sg : isSig (c.set k (c[k] + 1)) = true := isSig_iff.2 ⟨by simpa using g1, by simpa using g2, fun x hx => by
      rcases List.mem_or_eq_of_mem_set hx with u | u
      · exact g3 x u
      · have := g3 _ (List.getElem_mem hk); omega⟩
    have al : IsAllowed (c.set k (c[k] + 1)) a b l := ⟨sg, h.a1, h.ab, h.b16, by rw [List.length_set]; exact h.ok⟩
    obtain ⟨m, hm⟩ := bestB_has al.allowed
    obtain ⟨a', b', e1, e2, q⟩ := bestB_some hm
    have ha : a' = a := by omega
    have hb : b' = b := by omega
    subst ha; subst hb
    refine ⟨m, hm, q, ?_⟩
    have u1 := (q.least l al.ok).1
    have qo := q.ok
    rw [List.length_set] at qo
    have u2 := (h.least m qo).1
    rw [cost_set h.a1 hk h.ok (by omega)] at u1
    rw [cost_set h.a1 hk qo (by omega)] at u1 ⊢
    revert u1
    split <;> split <;> intro u1 <;> omega

/-! Numbers of ways. -/
theorem many_next {n : Nat} {j : Nat} (hj : j < dists a b n) : waysP a b n (j + 1) = waysP a b n j + ways a b (n - (a + j)) ∧ a + j ≤ b ∧ a + j ≤ n := by
  unfold dists at hj
  exact ⟨rfl, by omega, by omega⟩
theorem many_all {n : Nat} (h1 : 1 ≤ a) (hk : 1 ≤ n) : waysP a b n (dists a b n) = ways a b n := (ways_succ h1 hk).symm
theorem many_alone {n : Nat} (hn : 1 ≤ n) (hn16 : n ≤ 16) (h1 : 1 ≤ a) (h16 : a ≤ 16) : manyB n a a = if n % a = 0 then 1 else 0 := by
  rw [manyB_yes hn hn16 h1 (Nat.le_refl _) h16, ways_alone a h16 h1 n hn16 hn]
  split <;> rfl
theorem many_free {n : Nat} (hn : 1 ≤ n) (hn16 : n ≤ 16) : manyB n 1 16 = 2 ^ (n - 1) := by
  have := manyB_yes (a := 1) (b := 16) hn hn16 (by omega) (by omega) (by omega)
  obtain ⟨k, rfl⟩ : ∃ k, n = k + 1 := ⟨n - 1, by omega⟩
  rw [ways_free k (by omega)] at this
  simpa using this
theorem many_wider {n : Nat} (hn : 1 ≤ n) (hn16 : n ≤ 16) (h1 : 1 ≤ a) (h2 : a ≤ b) (h3 : b + 1 ≤ 16) : manyB n a b ≤ manyB n a ((b : Int) + 1) := by
  have e := manyB_yes (a := a) (b := b + 1) hn hn16 h1 (by omega) h3
  rw [Int.natCast_add, Int.natCast_one] at e
  rw [e, manyB_yes hn hn16 h1 h2 (by omega)]
  have := ways_more h1 (Nat.le_succ b) n
  exact_mod_cast this
theorem many_narrow {n : Nat} (hn : 1 ≤ n) (hn16 : n ≤ 16) (h1 : 1 ≤ a) (h2 : a ≤ b) (h3 : b ≤ 16) : manyB n ((a : Int) + 1) b ≤ manyB n a b ∧ (a = b → manyB n ((a : Int) + 1) b = -1) := by
  by_cases z : a = b
  · subst z
    have e : manyB n ((a : Int) + 1) a = -1 := manyB_no (.inr (by
      cases k : isLim ((a : Int) + 1) a
      · rfl
      · have := isLim_iff.1 k; omega))
    rw [e, manyB_yes hn hn16 h1 h2 h3]
    exact ⟨by omega, fun _ => rfl⟩
  · have e := manyB_yes (a := a + 1) (b := b) hn hn16 (by omega) (by omega) h3
    rw [Int.natCast_add, Int.natCast_one] at e
    rw [e, manyB_yes hn hn16 h1 h2 h3]
    have := ways_less (b := b) h1 n
    exact ⟨by exact_mod_cast this, fun h => absurd h z⟩
theorem manyB_bound (n lo mo : Int) : -1 ≤ manyB n lo mo ∧ manyB n lo mo ≤ 32768 := by
  by_cases h : isPlace n = true ∧ isLim lo mo = true
  · obtain ⟨a, b, rfl, rfl, h1, h2, h3⟩ := lim_nat h.2
    have hp := isPlace_iff.1 h.1
    obtain ⟨k, rfl⟩ : ∃ k : Nat, n = k := ⟨n.toNat, by omega⟩
    rw [manyB_yes (by omega) (by omega) h1 h2 h3]
    have := ways_bound (k := k) h1 h3 (by omega)
    omega
  · rw [manyB_no (by cases u : isPlace n <;> cases v : isLim lo mo <;> simp_all)]; omega
/-- Valid arguments of CutsMany as natural numbers. -/
theorem many_nat {n lo mo : Int} (h : 0 ≤ manyB n lo mo) : ∃ k a b : Nat, n = k ∧ lo = a ∧ mo = b ∧ 1 ≤ k ∧ k ≤ 16 ∧ 1 ≤ a ∧ a ≤ b ∧ b ≤ 16 := by
  obtain ⟨h1, h2⟩ := manyB_iff.1 h
  obtain ⟨a, b, rfl, rfl, k1, k2, k3⟩ := lim_nat h2
  have := isPlace_iff.1 h1
  exact ⟨n.toNat, a, b, by omega, rfl, rfl, by omega, by omega, k1, k2, k3⟩
/-- The two numbers of years. -/
theorem years_facts {n : Nat} (hn : 1 ≤ n) (hn16 : n ≤ 16) (h1 : 1 ≤ a) (h2 : a ≤ b) (h3 : b ≤ 16) (h : 1 ≤ manyB n a b) :
    let s := (n + b - 1) / b; let t := n / a
    n ≤ s * b ∧ t * a ≤ n ∧ 1 ≤ s ∧ s ≤ t ∧ (s = 1 ∨ (s - 1) * b < n) ∧ n < (t + 1) * a ∧ s ≤ n ∧ t ≤ n := by
  intro s t
  rw [manyB_yes hn hn16 h1 h2 h3] at h
  obtain ⟨c, c1, c2⟩ := ways_number (b := b) h1 n (by omega)
  have hst := number_ends (a := a) (b := b) h1 (by omega) c1 c2
  have hs := (number_in (n := n) (k := s) h1 h2).2 ⟨Nat.le_refl _, Nat.le_trans hst.1 hst.2⟩
  have ht := (number_in (n := n) (k := t) h1 h2).2 ⟨Nat.le_trans hst.1 hst.2, Nat.le_refl _⟩
  have hs1 : 1 ≤ s := by
    rcases Nat.eq_zero_or_pos s with u | u
    · have := hs.2; rw [u, Nat.zero_mul] at this; omega
    · exact u
  have htn : t ≤ n := Nat.div_le_self n a
  have h6 : n < (t + 1) * a := by
    have := Nat.lt_succ_of_le (Nat.le_refl (n / a))
    exact (Nat.div_lt_iff_lt_mul h1).1 this
  refine ⟨hs.2, ht.1, hs1, Nat.le_trans hst.1 hst.2, ?_, h6, Nat.le_trans (Nat.le_trans hst.1 hst.2) htn, htn⟩
  by_cases u : s = 1
  · exact .inl u
  · right
    have k : s * b ≤ n + b - 1 := Nat.div_mul_le_self _ _
    obtain ⟨m, hm⟩ : ∃ m, s = m + 1 := ⟨s - 1, by omega⟩
    rw [hm] at k ⊢
    rw [Nat.add_mul, Nat.one_mul] at k
    simp only [Nat.add_sub_cancel]
    omega
end Go.Proofs.Ytihgfhddljicaab
