/- Matchings, given as a list with a number for each event of the first list: plain mathematics, no program in it. -/
import Derived.Test.YthhdpjkmjebjhabMatch
namespace Go.Proofs.Ythhdpjkmjebjhab

/-- A matching of s with t from the place f on. -/
def mok (tol : Int) (t : List Int) : Int → List Int → List Int → Bool
  | _, [], [] => true
  | f, x :: s, k :: m => if k = -1 then mok tol t f s m else decide (f ≤ k) && decide (k < t.length) && like tol x (t.getD k.toNat 0) && mok tol t (k + 1) s m
  | _, _, _ => false
/-- The number of its pairs. -/
def pairs (m : List Int) : Nat := m.countP fun k => decide (0 ≤ k)
theorem pairs_cons (k : Int) (m : List Int) : pairs (k :: m) = pairs m + one (decide (0 ≤ k)) := by
  simp only [pairs, List.countP_cons, one]
theorem mok_length {tol f : Int} {t s m : List Int} (h : mok tol t f s m = true) : m.length = s.length := by
  induction s generalizing f m with
  | nil => cases m with
    | nil => rfl
    | cons k m => simp [mok] at h
  | cons x s ih => cases m with
    | nil => simp [mok] at h
    | cons k m =>
      simp only [mok] at h
      split at h
      · simp [ih h]
      · simp only [Bool.and_eq_true] at h; simp [ih h.2]
/-- .. number by number. -/
structure Mok (tol : Int) (s t : List Int) (f : Int) (m : List Int) : Prop where
  len : m.length = s.length
  each : ∀ i (h : i < m.length) (h' : i < s.length), m[i] = -1 ∨ (f ≤ m[i] ∧ m[i] < t.length ∧ like tol s[i] (t.getD m[i].toNat 0) = true)
  up : ∀ i j (hij : i < j) (h : j < m.length), m[i]'(by omega) = -1 ∨ m[j] = -1 ∨ m[i]'(by omega) < m[j]
theorem mok_iff {tol f : Int} {t s m : List Int} (hf : 0 ≤ f) : mok tol t f s m = true ↔ Mok tol s t f m := by
  induction s generalizing f m with
  | nil => cases m with
    | nil => simp only [mok, true_iff]; exact ⟨rfl, fun i h => by simp at h, fun i j _ h => by simp at h⟩
    | cons k m => simp only [mok]; exact ⟨fun h => by simp at h, fun h => by have := h.len; simp at this⟩
  | cons x s ih => cases m with
    | nil => simp only [mok]; exact ⟨fun h => by simp at h, fun h => by have := h.len; simp at this⟩
    | cons k m =>
      simp only [mok]
      by_cases hk : k = -1
      · rw [if_pos hk, ih hf]
        subst hk
        constructor
        · intro h
          refine ⟨by simp [h.len], fun i h1 h2 => ?_, fun i j hij hj => ?_⟩
          · cases i with
            | zero => left; rfl
            | succ i => exact h.each i (by simpa using h1) (by simpa using h2)
          · cases i with
            | zero => left; rfl
            | succ i => cases j with
              | zero => omega
              | succ j => exact h.up i j (by omega) (by simpa using hj)
        · intro h
          refine ⟨by simpa using h.len, fun i h1 h2 => ?_, fun i j hij hj => ?_⟩
          · exact h.each (i + 1) (by simpa using h1) (by simpa using h2)
          · exact h.up (i + 1) (j + 1) (by omega) (by simpa using hj)
      · rw [if_neg hk]
        simp only [Bool.and_eq_true, decide_eq_true_eq]
        constructor
        · rintro ⟨⟨⟨h1, h2⟩, h3⟩, h4⟩
          have h := (ih (f := k + 1) (by omega)).1 h4
          refine ⟨by simp [h.len], fun i g1 g2 => ?_, fun i j hij hj => ?_⟩
          · cases i with
            | zero => right; exact ⟨h1, h2, h3⟩
            | succ i =>
              rcases h.each i (by simpa using g1) (by simpa using g2) with u | ⟨u1, u2, u3⟩
              · left; exact u
              · right; exact ⟨by simp only [List.getElem_cons_succ]; omega, u2, u3⟩
          · cases j with
            | zero => omega
            | succ j => cases i with
              | zero =>
                right
                have hjm : j < m.length := by simpa using hj
                rcases h.each j hjm (by have := h.len; omega) with u | ⟨u1, _⟩
                · left; exact u
                · right; simp only [List.getElem_cons_zero, List.getElem_cons_succ]; omega
              | succ i => exact h.up i j (by omega) (by simpa using hj)
        · intro h
          have e0 := h.each 0 (by simp) (by simp)
          simp only [List.getElem_cons_zero] at e0
          obtain ⟨h1, h2, h3⟩ := e0.resolve_left hk
          refine ⟨⟨⟨h1, h2⟩, h3⟩, (ih (f := k + 1) (by omega)).2 ⟨by simpa using h.len, fun i g1 g2 => ?_, fun i j hij hj => ?_⟩⟩
          · have e1 := h.each (i + 1) (by simpa using g1) (by simpa using g2)
            have e2 := h.up 0 (i + 1) (by omega) (by simpa using g1)
            simp only [List.getElem_cons_succ, List.getElem_cons_zero] at e1 e2
            rcases e1 with u | ⟨u1, u2, u3⟩
            · left; exact u
            · right
              rcases e2 with v | v | v
              · exact absurd v hk
              · omega
              · exact ⟨by omega, u2, u3⟩
          · exact h.up (i + 1) (j + 1) (by omega) (by simpa using hj)
/-- There are no more pairs than the greatest number of them. -/
theorem pairs_most {tol : Int} {t s m : List Int} {f : Nat} (h : mok tol t f s m = true) : pairs m ≤ most tol s (t.drop f) := by
  induction s generalizing f m with
  | nil => cases m with
    | nil => exact Nat.zero_le _
    | cons k m => simp [mok] at h
  | cons x s ih => cases m with
    | nil => simp [mok] at h
    | cons k m =>
      simp only [mok] at h
      rw [pairs_cons]
      split at h
      · rename_i hk
        subst hk
        have := ih h
        have := most_tail tol x s (t.drop f)
        simp [one]; omega
      · simp only [Bool.and_eq_true, decide_eq_true_eq] at h
        obtain ⟨⟨⟨h1, h2⟩, h3⟩, h4⟩ := h
        obtain ⟨q, rfl⟩ : ∃ q : Nat, k = q := ⟨k.toNat, by omega⟩
        have i1 := ih (f := q + 1) (by simpa using h4)
        have hq : q < t.length := by omega
        have e : t.drop q = t[q] :: t.drop (q + 1) := List.drop_eq_getElem_cons hq
        have g : like tol x t[q] = true := by
          have : t.getD q 0 = t[q] := by rw [List.getD_eq_getElem?_getD, List.getElem?_eq_getElem hq]; rfl
          rw [Int.toNat_natCast, this] at h3; exact h3
        have i2 := most_cons tol x t[q] s (t.drop (q + 1))
        rw [g, if_pos rfl, ← e] at i2
        have i3 := most_drop tol (x :: s) (t.drop f) (q - f)
        rw [List.drop_drop, show f + (q - f) = q by omega] at i3
        simp [one]; omega

/-! The best matching. -/
/-- The least partner at a place of t with which the greatest number n of pairs is reached. -/
def partner (tol x : Int) (s : List Int) (n : Nat) : List Int → Option Nat
  | [] => none
  | y :: t => if like tol x y && decide (most tol s t + 1 = n) then some 0 else (partner tol x s n t).map (· + 1)
def bestM (tol : Int) : List Int → List Int → Nat → List Int
  | [], _, _ => []
  | x :: s, t, f => match partner tol x s (most tol (x :: s) t) t with
    | some k => ((f + k : Nat) : Int) :: bestM tol s (t.drop (k + 1)) (f + k + 1)
    | none => -1 :: bestM tol s t f
theorem bestM_length (tol : Int) (s t : List Int) (f : Nat) : (bestM tol s t f).length = s.length := by
  induction s generalizing t f with
  | nil => rfl
  | cons x s ih => simp only [bestM]; split <;> simp [ih]
theorem partner_some {tol x : Int} {s t : List Int} {n k : Nat} (h : partner tol x s n t = some k) :
    k < t.length ∧ like tol x (t.getD k 0) = true ∧ most tol s (t.drop (k + 1)) + 1 = n ∧ ∀ i, i < k → ¬ (like tol x (t.getD i 0) = true ∧ most tol s (t.drop (i + 1)) + 1 = n) := by
  induction t generalizing k with
  | nil => simp [partner] at h
  | cons y t ih =>
    simp only [partner] at h
    split at h
    · rename_i hc
      simp only [Bool.and_eq_true, decide_eq_true_eq] at hc
      cases h
      exact ⟨by simp, hc.1, hc.2, fun i hi => by omega⟩
    · rename_i hc
      simp only [Bool.and_eq_true, decide_eq_true_eq] at hc
      cases hp : partner tol x s n t with
      | none => rw [hp] at h; simp at h
      | some j =>
        rw [hp] at h
        simp only [Option.map_some, Option.some.injEq] at h
        subst h
        obtain ⟨h1, h2, h3, h4⟩ := ih hp
        refine ⟨by simp; omega, by simpa using h2, by simpa using h3, fun i hi => ?_⟩
        cases i with
        | zero => simpa using hc
        | succ i => have := h4 i (by omega); simpa using this
theorem partner_none {tol x : Int} {s t : List Int} {n : Nat} (h : partner tol x s n t = none) : ∀ i, i < t.length → ¬ (like tol x (t.getD i 0) = true ∧ most tol s (t.drop (i + 1)) + 1 = n) := by
  induction t with
  | nil => intro i hi; simp at hi
  | cons y t ih =>
    simp only [partner] at h
    split at h
    · cases h
    · rename_i hc
      simp only [Bool.and_eq_true, decide_eq_true_eq] at hc
      have h' : partner tol x s n t = none := by simpa using h
      intro i hi
      cases i with
      | zero => simpa using hc
      | succ i => have := ih h' i (by simpa using hi); simpa using this
/-- If no partner reaches the greatest number of pairs, the event is not needed. -/
theorem most_without {tol x : Int} {s t : List Int} (h : ∀ i, i < t.length → ¬ (like tol x (t.getD i 0) = true ∧ most tol s (t.drop (i + 1)) + 1 = most tol (x :: s) t)) : most tol (x :: s) t = most tol s t := by
  have aux : ∀ t : List Int, most tol (x :: s) t = most tol s t ∨ ∃ i, i < t.length ∧ like tol x (t.getD i 0) = true ∧ most tol s (t.drop (i + 1)) + 1 = most tol (x :: s) t := by
    intro t
    induction t with
    | nil => left; rw [most_nil', most_nil']
    | cons y t ih =>
      have hc := most_cons tol x y s t
      have h1 := most_tail' tol y s t
      cases hl : like tol x y
      · rw [hl] at hc
        simp only [Bool.false_eq_true, if_false, Nat.max_zero] at hc
        rcases ih with h | ⟨i, h2, h3, h4⟩
        · left; omega
        · by_cases c : most tol (x :: s) t ≤ most tol s (y :: t)
          · left; omega
          · right; exact ⟨i + 1, by simp; omega, by simpa using h3, by simp only [List.drop_succ_cons]; omega⟩
      · rw [hl, if_pos rfl] at hc
        by_cases c0 : most tol s t + 1 = most tol (x :: s) (y :: t)
        · right; exact ⟨0, by simp, by simpa using hl, by simpa using c0⟩
        · rcases ih with h | ⟨i, h2, h3, h4⟩
          · left; omega
          · by_cases c : most tol (x :: s) t ≤ most tol s (y :: t)
            · left; omega
            · right; exact ⟨i + 1, by simp; omega, by simpa using h3, by simp only [List.drop_succ_cons]; omega⟩
  rcases aux t with k | ⟨i, h1, h2, h3⟩
  · exact k
  · exact absurd ⟨h2, h3⟩ (h i h1)
theorem getD_drop (t : List Int) (f i : Nat) : (t.drop f).getD i 0 = t.getD (f + i) 0 := by simp [List.getD_eq_getElem?_getD]
/-- The best matching is one, and has the greatest number of pairs. -/
theorem bestM_ok {tol : Int} {t s : List Int} {f : Nat} : mok tol t f s (bestM tol s (t.drop f) f) = true ∧ pairs (bestM tol s (t.drop f) f) = most tol s (t.drop f) := by
  induction s generalizing f with
  | nil => exact ⟨rfl, (most_nil tol _).symm⟩
  | cons x s ih =>
    simp only [bestM]
    cases hp : partner tol x s (most tol (x :: s) (t.drop f)) (t.drop f) with
    | none =>
      have e := most_without (partner_none hp)
      simp only [mok, if_true, pairs_cons]
      refine ⟨ih.1, ?_⟩
      rw [ih.2, e]; simp [one]
    | some k =>
      obtain ⟨h1, h2, h3, _⟩ := partner_some hp
      simp only [List.length_drop] at h1
      rw [getD_drop] at h2
      rw [List.drop_drop] at h3
      have i1 := ih (f := f + k + 1)
      simp only [mok, pairs_cons]
      rw [if_neg (by omega), List.drop_drop, show f + (k + 1) = f + k + 1 by omega]
      refine ⟨?_, ?_⟩
      · simp only [Bool.and_eq_true, decide_eq_true_eq]
        refine ⟨⟨⟨by omega, by omega⟩, by rw [Int.toNat_natCast]; exact h2⟩, ?_⟩
        have := i1.1
        rwa [Int.natCast_add, Int.natCast_one] at this
      · rw [i1.2, ← h3, show f + (k + 1) = f + k + 1 by omega]; simp [one]; omega
/-- No partner can come sooner. -/
theorem bestM_first {tol : Int} {t s : List Int} {f : Nat} {i : Nat} {k : Int} (hi : i < s.length) (h0 : 0 ≤ k) (hk : k < (bestM tol s (t.drop f) f)[i]'(by rw [bestM_length]; exact hi)) :
    mok tol t f s ((bestM tol s (t.drop f) f).set i k) = false := by
  cases hm : mok tol t f s ((bestM tol s (t.drop f) f).set i k)
  · rfl
  exfalso
  induction s generalizing f i with
  | nil => simp at hi
  | cons x s ih =>
    simp only [bestM] at hk hm
    cases hp : partner tol x s (most tol (x :: s) (t.drop f)) (t.drop f) with
    | none =>
      simp only [hp] at hk hm
      cases i with
      | zero => simp at hk; omega
      | succ i =>
        simp only [List.set_cons_succ, List.getElem_cons_succ] at hk hm
        simp only [mok, if_true] at hm
        exact ih (by simpa using hi) hk hm
    | some j =>
      obtain ⟨h1, h2, h3, h4⟩ := partner_some hp
      simp only [List.length_drop] at h1
      simp only [hp] at hk hm
      cases i with
      | zero =>
        simp only [List.getElem_cons_zero] at hk
        simp only [List.set_cons_zero, mok] at hm
        rw [if_neg (by omega)] at hm
        simp only [Bool.and_eq_true, decide_eq_true_eq] at hm
        obtain ⟨⟨⟨g1, g2⟩, g3⟩, _⟩ := hm
        obtain ⟨q, rfl⟩ : ∃ q : Nat, k = q := ⟨k.toNat, by omega⟩
        rw [Int.toNat_natCast] at g3
        have hq := h4 (q - f) (by omega)
        rw [getD_drop, show f + (q - f) = q by omega, List.drop_drop, show f + (q - f + 1) = q + 1 by omega] at hq
        refine hq ⟨g3, ?_⟩
        have hqt : q < t.length := by omega
        have e : t.drop q = t[q] :: t.drop (q + 1) := List.drop_eq_getElem_cons hqt
        have gq : t.getD q 0 = t[q] := by rw [List.getD_eq_getElem?_getD, List.getElem?_eq_getElem hqt]; rfl
        have i2 := most_cons tol x t[q] s (t.drop (q + 1))
        rw [gq] at g3
        rw [g3, if_pos rfl, ← e] at i2
        have i3 := most_drop tol (x :: s) (t.drop f) (q - f)
        rw [List.drop_drop, show f + (q - f) = q by omega] at i3
        have i4 := most_drop tol s (t.drop (q + 1)) (f + j - q)
        rw [List.drop_drop, show q + 1 + (f + j - q) = f + (j + 1) by omega] at i4
        rw [List.drop_drop] at h3
        omega
      | succ i =>
        simp only [List.set_cons_succ, List.getElem_cons_succ, List.drop_drop] at hk hm
        simp only [mok] at hm
        rw [if_neg (by omega)] at hm
        simp only [Bool.and_eq_true] at hm
        have hm' := hm.2
        rw [show ((f + j : Nat) : Int) + 1 = ((f + j + 1 : Nat) : Int) by omega] at hm'
        exact ih (f := f + j + 1) (by simpa using hi) hk hm'
theorem pairs_set {m : List Int} {i : Nat} {k : Int} (hi : i < m.length) (h : m[i] < 0) (hk : 0 ≤ k) : pairs (m.set i k) = pairs m + 1 := by
  induction m generalizing i with
  | nil => simp at hi
  | cons x m ih =>
    cases i with
    | zero =>
      simp only [List.getElem_cons_zero] at h
      simp only [List.set_cons_zero, pairs_cons, one]
      rw [decide_eq_true hk, decide_eq_false (by omega)]; simp
    | succ i =>
      simp only [List.set_cons_succ, pairs_cons]
      rw [ih (by simpa using hi) (by simpa using h)]; omega
/-- No event without a partner can get one. -/
theorem bestM_any {tol : Int} {t s : List Int} {i : Nat} {k : Int} (hi : i < s.length) (hk : 0 ≤ k) (h : (bestM tol s t 0)[i]'(by rw [bestM_length]; exact hi) < 0) : mok tol t 0 s ((bestM tol s t 0).set i k) = false := by
  cases hm : mok tol t 0 s ((bestM tol s t 0).set i k)
  · rfl
  exfalso
  have h1 := pairs_most (f := 0) hm
  have h2 := (bestM_ok (tol := tol) (t := t) (s := s) (f := 0)).2
  rw [List.drop_zero] at h1 h2
  rw [pairs_set (by rw [bestM_length]; exact hi) h hk] at h1
  omega
/-- Events match themselves. -/
theorem bestM_self {tol : Int} (h : 0 ≤ tol) (s : List Int) (f : Nat) : bestM tol s s f = (List.range s.length).map fun (i : Nat) => ((f + i : Nat) : Int) := by
  induction s generalizing f with
  | nil => rfl
  | cons x s ih =>
    have hp : partner tol x s (most tol (x :: s) (x :: s)) (x :: s) = some 0 := by
      simp only [partner]
      rw [like_self h, most_self h, most_self h]; simp
    simp only [bestM, hp]
    rw [List.drop_succ_cons, List.drop_zero, ih, List.length_cons, List.range_succ_eq_map, List.map_cons, List.map_map]
    congr 1
    apply List.map_congr_left
    intro i _
    simp only [Function.comp]; congr 1; omega
end Go.Proofs.Ythhdpjkmjebjhab
