/- What the program's search finds of the matchings of what is left: plain mathematics over the numbers of the model's contracts. -/
import Derived.Test.YthhdpjkmjebjhabEventBest
import Derived.Test.YthhdpjkmjebjhabEventCount
namespace Go.Proofs.Ythhdpjkmjebjhab

theorem most_reach {tol x : Int} {s t : List Int} {q : Nat} (hq : q < t.length) (h : like tol x (t.getD q 0) = true) : most tol s (t.drop (q + 1)) + 1 ≤ most tol (x :: s) t := by
  have e : t.drop q = t[q] :: t.drop (q + 1) := List.drop_eq_getElem_cons hq
  have g : t.getD q 0 = t[q] := by rw [List.getD_eq_getElem?_getD, List.getElem?_eq_getElem hq]; rfl
  rw [g] at h
  have i2 := most_cons tol x t[q] s (t.drop (q + 1))
  rw [h, if_pos rfl, ← e] at i2
  have := most_drop tol (x :: s) t q
  omega
theorem most_split (tol x : Int) (s t : List Int) : most tol (x :: s) t = most tol s t ∨ ∃ q, q < t.length ∧ like tol x (t.getD q 0) = true ∧ most tol s (t.drop (q + 1)) + 1 = most tol (x :: s) t := by
  rcases Classical.em (∃ q, q < t.length ∧ like tol x (t.getD q 0) = true ∧ most tol s (t.drop (q + 1)) + 1 = most tol (x :: s) t) with h | h
  · exact .inr h
  · exact .inl (most_without fun i hi hc => h ⟨i, hi, hc.1, hc.2⟩)
theorem drop_head {s : List Int} {i : Nat} (hi : i < s.length) : s.drop i = s.getD i 0 :: s.drop (i + 1) := by
  rw [List.getD_eq_getElem?_getD, List.getElem?_eq_getElem hi]; exact List.drop_eq_getElem_cons hi
theorem mf_reach {tol : Int} {s t : List Int} {i f q : Nat} (hi : i < s.length) (hf : f ≤ q) (hq : q < t.length) (h : like tol (s.getD i 0) (t.getD q 0) = true) : mf tol s t (i + 1) (q + 1) + 1 ≤ mf tol s t i f := by
  have := most_reach (tol := tol) (x := s.getD i 0) (s := s.drop (i + 1)) (t := t.drop f) (q := q - f) (by rw [List.length_drop]; omega) (by rw [getD_drop, show f + (q - f) = q by omega]; exact h)
  rw [List.drop_drop, show f + (q - f + 1) = q + 1 by omega, ← drop_head hi] at this
  unfold mf; omega
theorem mf_without {tol : Int} {s t : List Int} {i f : Nat} (hi : i < s.length) : mf tol s t (i + 1) f ≤ mf tol s t i f := by
  have := most_tail tol (s.getD i 0) (s.drop (i + 1)) (t.drop f)
  rw [← drop_head hi] at this
  unfold mf; omega
theorem mf_split {tol : Int} {s t : List Int} {i f : Nat} (hi : i < s.length) : mf tol s t i f = mf tol s t (i + 1) f ∨ ∃ q, f ≤ q ∧ q < t.length ∧ like tol (s.getD i 0) (t.getD q 0) = true ∧ mf tol s t (i + 1) (q + 1) + 1 = mf tol s t i f := by
  rcases most_split tol (s.getD i 0) (s.drop (i + 1)) (t.drop f) with h | ⟨q, h1, h2, h3⟩
  · rw [← drop_head hi] at h; left; unfold mf; omega
  · rw [← drop_head hi, List.drop_drop] at h3
    rw [List.length_drop] at h1
    rw [getD_drop] at h2
    exact .inr ⟨f + q, by omega, by omega, h2, by unfold mf; rw [show f + q + 1 = f + (q + 1) by omega]; omega⟩
/-- What a partner is: the first with which the most pairs are reached. -/
theorem partI_is {tol : Int} {s t : List Int} {i f q : Nat} (hf : f ≤ q) (hq : q < t.length) (h : like tol (s.getD i 0) (t.getD q 0) = true) (hm : mf tol s t (i + 1) (q + 1) + 1 = mf tol s t i f)
    (hl : ∀ p, f ≤ p → p < q → like tol (s.getD i 0) (t.getD p 0) = true → mf tol s t (i + 1) (p + 1) + 1 < mf tol s t i f) : partI tol s t i f = (q : Int) := by
  unfold partI
  cases hp : partner tol (s.getD i 0) (s.drop (i + 1)) (most tol (s.drop i) (t.drop f)) (t.drop f) with
  | none =>
    have := partner_none hp (q - f) (by rw [List.length_drop]; omega)
    rw [getD_drop, show f + (q - f) = q by omega, List.drop_drop, show f + (q - f + 1) = q + 1 by omega] at this
    exact absurd ⟨h, by unfold mf at hm; omega⟩ this
  | some k =>
    obtain ⟨h1, h2, h3, h4⟩ := partner_some hp
    rw [List.length_drop] at h1
    rw [getD_drop] at h2
    rw [List.drop_drop] at h3
    rcases Nat.lt_trichotomy (f + k) q with c | c | c
    · have := hl (f + k) (by omega) c h2
      unfold mf at this; rw [show f + k + 1 = f + (k + 1) by omega] at this; omega
    · show ((f + k : Nat) : Int) = _; rw [c]
    · have := h4 (q - f) (by omega)
      rw [getD_drop, show f + (q - f) = q by omega, List.drop_drop, show f + (q - f + 1) = q + 1 by omega] at this
      exact absurd ⟨h, by unfold mf at hm; omega⟩ this
theorem partI_none {tol : Int} {s t : List Int} {i f : Nat} (hl : ∀ p, f ≤ p → p < t.length → like tol (s.getD i 0) (t.getD p 0) = true → mf tol s t (i + 1) (p + 1) + 1 < mf tol s t i f) : partI tol s t i f = -1 := by
  unfold partI
  cases hp : partner tol (s.getD i 0) (s.drop (i + 1)) (most tol (s.drop i) (t.drop f)) (t.drop f) with
  | none => rfl
  | some k =>
    exfalso
    obtain ⟨h1, h2, h3, _⟩ := partner_some hp
    rw [List.length_drop] at h1
    rw [getD_drop] at h2
    rw [List.drop_drop] at h3
    have := hl (f + k) (by omega) (by omega) h2
    unfold mf at this; rw [show f + k + 1 = f + (k + 1) by omega] at this; omega
/-- What has been gathered of the partners from f to j. -/
structure Gath (tol : Int) (s t : List Int) (i f j : Nat) (N M K : Int) : Prop where
  sum : N + wf tol s t i j = wf tol s t i f
  pos : 0 ≤ N
  low : 0 ≤ M
  each : ∀ q, f ≤ q → q < j → like tol (s.getD i 0) (t.getD q 0) = true → mf tol s t (i + 1) (q + 1) + 1 ≤ M
  is : (K = -1 ∧ M = 0) ∨ ∃ q : Nat, K = (q : Int) ∧ f ≤ q ∧ q < j ∧ like tol (s.getD i 0) (t.getD q 0) = true ∧ mf tol s t (i + 1) (q + 1) + 1 = M ∧ ∀ p, f ≤ p → p < q → like tol (s.getD i 0) (t.getD p 0) = true → mf tol s t (i + 1) (p + 1) + 1 < M
theorem gath_start (tol : Int) (s t : List Int) (i f : Nat) : Gath tol s t i f f 0 0 (-1) :=
  ⟨by omega, Int.le_refl _, Int.le_refl _, fun q h1 h2 => by omega, .inl ⟨rfl, rfl⟩⟩
theorem wf_at {tol : Int} {s t : List Int} {i j : Nat} (hj : j < t.length) : wf tol s t i j = (if like tol (s.getD i 0) (t.getD j 0) then cf tol s t (i + 1) (j + 1) else 0) + wf tol s t i (j + 1) := by
  have g : t.getD j 0 = t[j] := by rw [List.getD_eq_getElem?_getD, List.getElem?_eq_getElem hj]; rfl
  rw [g]; exact wf_step hj
variable {tol : Int} {s t : List Int} {i f j : Nat} {N M K : Int}
theorem Gath.no (g : Gath tol s t i f j N M K) (hj : j < t.length) (h : like tol (s.getD i 0) (t.getD j 0) = false) : Gath tol s t i f (j + 1) N M K := by
  have w := wf_at (tol := tol) (s := s) (i := i) hj
  rw [h] at w
  simp only [Bool.false_eq_true, if_false] at w
  refine ⟨by have := g.sum; omega, g.pos, g.low, fun q h1 h2 h3 => ?_, ?_⟩
  · by_cases e : q = j
    · subst e; rw [h] at h3; cases h3
    · exact g.each q h1 (by omega) h3
  · rcases g.is with h1 | ⟨q, h1, h2, h3, h4⟩
    · exact .inl h1
    · exact .inr ⟨q, h1, h2, by omega, h4⟩
theorem Gath.up (g : Gath tol s t i f j N M K) (hf : f ≤ j) (hj : j < t.length) (h : like tol (s.getD i 0) (t.getD j 0) = true) (hm : M < mf tol s t (i + 1) (j + 1) + 1) :
    Gath tol s t i f (j + 1) (N + cf tol s t (i + 1) (j + 1)) (mf tol s t (i + 1) (j + 1) + 1) (j : Int) := by
  have w := wf_at (tol := tol) (s := s) (i := i) hj
  rw [h, if_pos rfl] at w
  have c := cf_nonneg tol s t (i + 1) (j + 1)
  refine ⟨by have := g.sum; omega, by have := g.pos; omega, by have := mf_nonneg tol s t (i + 1) (j + 1); omega, fun q h1 h2 h3 => ?_, .inr ⟨j, rfl, hf, by omega, h, rfl, fun p h1 h2 h3 => ?_⟩⟩
  · by_cases e : q = j
    · subst e; omega
    · have := g.each q h1 (by omega) h3; omega
  · have := g.each p h1 h2 h3; omega
theorem Gath.stay (g : Gath tol s t i f j N M K) (hj : j < t.length) (h : like tol (s.getD i 0) (t.getD j 0) = true) (hm : mf tol s t (i + 1) (j + 1) + 1 ≤ M) :
    Gath tol s t i f (j + 1) (N + cf tol s t (i + 1) (j + 1)) M K := by
  have w := wf_at (tol := tol) (s := s) (i := i) hj
  rw [h, if_pos rfl] at w
  have c := cf_nonneg tol s t (i + 1) (j + 1)
  refine ⟨by have := g.sum; omega, by have := g.pos; omega, g.low, fun q h1 h2 h3 => ?_, ?_⟩
  · by_cases e : q = j
    · subst e; exact hm
    · exact g.each q h1 (by omega) h3
  · rcases g.is with h1 | ⟨q, h1, h2, h3, h4⟩
    · exact .inl h1
    · exact .inr ⟨q, h1, h2, by omega, h4⟩
/-- What there is of one: the number of matchings, the most pairs, the best partner. -/
def foundV (tol : Int) (s t : List Int) (i f : Nat) (n m k : Int) : Prop := n = cf tol s t i f ∧ m = mf tol s t i f ∧ (i < s.length → k = partI tol s t i f)
theorem found_end (tol : Int) (s t : List Int) (f : Nat) (k : Int) : foundV tol s t s.length f 1 0 k :=
  ⟨(cf_end _ _ _ _).symm, (mf_end _ _ _ _).symm, fun h => absurd h (Nat.lt_irrefl _)⟩
theorem Gath.without (g : Gath tol s t i f j N M K) (hi : i < s.length) (hj : j = t.length) (hm : M < mf tol s t (i + 1) f) : foundV tol s t i f (N + cf tol s t (i + 1) f) (mf tol s t (i + 1) f) (-1) := by
  subst hj
  have st := cf_step (tol := tol) (t := t) (f := f) hi
  have su := g.sum
  rw [wf_end] at su
  have e : mf tol s t i f = mf tol s t (i + 1) f := by
    rcases mf_split (tol := tol) (t := t) (f := f) hi with h | ⟨q, h1, h2, h3, h4⟩
    · exact h
    · have := g.each q h1 h2 h3; have := mf_without (tol := tol) (t := t) (f := f) hi; omega
  refine ⟨by omega, e.symm, fun _ => (partI_none fun p h1 h2 h3 => ?_).symm⟩
  have := g.each p h1 h2 h3; omega
theorem Gath.keep (g : Gath tol s t i f j N M K) (hi : i < s.length) (hj : j = t.length) (hm : mf tol s t (i + 1) f ≤ M) : foundV tol s t i f (N + cf tol s t (i + 1) f) M K := by
  subst hj
  have st := cf_step (tol := tol) (t := t) (f := f) hi
  have su := g.sum
  rw [wf_end] at su
  have wo := mf_without (tol := tol) (t := t) (f := f) hi
  have e : mf tol s t i f = M := by
    have h1 : M ≤ mf tol s t i f := by
      rcases g.is with ⟨_, h⟩ | ⟨q, h1, h2, h3, h4, h5, _⟩
      · have := mf_nonneg tol s t i f; omega
      · have := mf_reach (tol := tol) hi h2 h3 h4; omega
    rcases mf_split (tol := tol) (t := t) (f := f) hi with h | ⟨q, h2, h3, h4, h5⟩
    · omega
    · have := g.each q h2 h3 h4; omega
  refine ⟨by omega, e.symm, fun _ => ?_⟩
  rcases g.is with ⟨h, h0⟩ | ⟨q, h1, h2, h3, h4, h5, h6⟩
  · rw [h]
    exact (partI_none fun p h1 h2 h3 => by have := g.each p h1 h2 h3; have := mf_nonneg tol s t (i + 1) (p + 1); omega).symm
  · rw [h1]
    exact (partI_is h2 h3 h4 (by rw [e]; exact h5) fun p g1 g2 g3 => by rw [e]; exact h6 p g1 g2 g3).symm
theorem Gath.bound {a b : List Ev} (g : Gath tol (sizes a) (sizes b) i f j N M K) (ha : isEv a = true) (hb : isEv b = true) (hi : i < a.length) : N ≤ 12870 := by
  have h1 := g.sum
  have h2 := cf_step (tol := tol) (s := sizes a) (t := sizes b) (i := i) (f := f) (by rw [sizes_length]; exact hi)
  have h3 := cf_le (tol := tol) ha hb i f
  have h4 := wf_nonneg tol (sizes a) (sizes b) i j
  have h5 := cf_nonneg tol (sizes a) (sizes b) (i + 1) f
  omega
theorem found_bound {a b : List Ev} {n m k : Int} (g : foundV tol (sizes a) (sizes b) i f n m k) (ha : isEv a = true) (hb : isEv b = true) : (0 ≤ n ∧ n ≤ 100000) ∧ (0 ≤ m ∧ m ≤ 100) := by
  obtain ⟨h1, h2, _⟩ := g
  have h3 := cf_le (tol := tol) ha hb i f
  have h4 := cf_nonneg tol (sizes a) (sizes b) i f
  have h5 := mf_le tol (sizes a) (sizes b) i f
  have h6 := mf_nonneg tol (sizes a) (sizes b) i f
  have n8 := (isEv_iff.1 ha).1
  rw [sizes_length] at h5
  omega
theorem like_at {a b : List Ev} {c : Bool} (hi : i < a.length) (hj : j < b.length) (h : like tol a[i].2 b[j].2 = c) : like tol ((sizes a).getD i 0) ((sizes b).getD j 0) = c := by
  rw [sizes_getD hi, sizes_getD hj]; exact h
end Go.Proofs.Ythhdpjkmjebjhab
