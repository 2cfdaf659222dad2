/- The best cuts: plain mathematics, no program in it. -/
import Derived.Test.YtihgfhddljicaabCut
namespace Go.Proofs.Ytihgfhddljicaab

/-- What is told of a tail: none if it has no allowed cuts, else the first distance of the best ones, and their cost. -/
abbrev Ent := Option (Nat × Int)
/-- One more first distance is looked at. -/
def gath (acc : Ent) (d : Nat) (c : Int) (beh : Ent) : Ent :=
  match beh with
  | none => acc
  | some r => match acc with
    | none => some (d, c + r.2)
    | some m => if m.2 ≤ c + r.2 then some m else some (d, c + r.2)
def pbest (T : List Ent) (cs : List Int) (a : Nat) : Nat → Ent
  | 0 => none
  | j + 1 => gath (pbest T cs a j) (a + j) (cs.getD (a + j - 1) 0) (T.getD (a + j - 1) none)
def bestT (a b : Nat) : List Int → List Ent
  | [] => [some (0, 0)]
  | x :: t => pbest (bestT a b t) (x :: t) a (dists a b (t.length + 1)) :: bestT a b t
def best (a b : Nat) (cs : List Int) : Ent := (bestT a b cs).headD none
/-- .. of the first j distances. -/
def bestP (a b : Nat) (cs : List Int) : Nat → Ent
  | 0 => none
  | j + 1 => gath (bestP a b cs j) (a + j) (cs.getD (a + j - 1) 0) (best a b (cs.drop (a + j)))
theorem bestT_get (a b : Nat) (cs : List Int) (j : Nat) (h : j ≤ cs.length) : (bestT a b cs).getD j none = best a b (cs.drop j) := by
  induction cs generalizing j with
  | nil => have : j = 0 := by simpa using h
           subst this; rfl
  | cons x t ih =>
    cases j with
    | zero => rfl
    | succ j => simp only [bestT, List.getD_cons_succ, List.drop_succ_cons]; exact ih j (by simpa using h)
theorem pbest_is {a b : Nat} {x : Int} {t : List Int} (h1 : 1 ≤ a) {j : Nat} (hj : j ≤ dists a b (t.length + 1)) : pbest (bestT a b t) (x :: t) a j = bestP a b (x :: t) j := by
  induction j with
  | zero => rfl
  | succ j ih =>
    simp only [pbest, bestP]
    unfold dists at *
    rw [ih (by omega), bestT_get a b t _ (by omega)]
    congr 2
    obtain ⟨k, hk⟩ : ∃ k, a + j = k + 1 := ⟨a + j - 1, by omega⟩
    rw [hk]; rfl
theorem best_nil (a b : Nat) : best a b [] = some (0, 0) := rfl
theorem best_cons {a b : Nat} {cs : List Int} (h1 : 1 ≤ a) (h : 0 < cs.length) : best a b cs = bestP a b cs (dists a b cs.length) := by
  match cs, h with
  | x :: t, _ => exact pbest_is h1 (Nat.le_refl _)
/-- What the first j distances come to. -/
structure BestOf (a b : Nat) (cs : List Int) (j : Nat) (m : Ent) : Prop where
  no : m = none → ∀ d, a ≤ d → d < a + j → best a b (cs.drop d) = none
  yes : ∀ p, m = some p → a ≤ p.1 ∧ p.1 < a + j ∧ (∃ q, best a b (cs.drop p.1) = some q ∧ p.2 = cs.getD (p.1 - 1) 0 + q.2) ∧
    ∀ d q, a ≤ d → d < a + j → best a b (cs.drop d) = some q → p.2 ≤ cs.getD (d - 1) 0 + q.2 ∧ (d < p.1 → p.2 < cs.getD (d - 1) 0 + q.2)
theorem bestP_of (a b : Nat) (cs : List Int) (j : Nat) : BestOf a b cs j (bestP a b cs j) := by
  induction j with
  | zero => exact ⟨fun _ d h1 h2 => by omega, fun p h => by cases h⟩
  | succ j ih =>
    simp only [bestP]
    cases hb : best a b (cs.drop (a + j)) with
    | none =>
      simp only [gath]
      refine ⟨fun h d h1 h2 => ?_, fun p h => ?_⟩
      · by_cases e : d = a + j
        · rw [e]; exact hb
        · exact ih.no h d h1 (by omega)
      · obtain ⟨k1, k2, k3, k4⟩ := ih.yes p h
        refine ⟨k1, by omega, k3, fun d q h1 h2 hd => ?_⟩
        by_cases e : d = a + j
        · rw [e, hb] at hd; cases hd
        · exact k4 d q h1 (by omega) hd
    | some r =>
      cases hm : bestP a b cs j with
      | none =>
        simp only [gath]
        refine ⟨fun h => (by cases h), fun p h => ?_⟩
        cases h
        refine ⟨by simp, by simp, ⟨r, hb, rfl⟩, fun d q h1 h2 hd => ?_⟩
        by_cases e : d = a + j
        · rw [e, hb] at hd; cases hd; rw [e]; exact ⟨Int.le_refl _, fun h => by simp at h⟩
        · rw [ih.no hm d h1 (by omega)] at hd; cases hd
      | some m =>
        obtain ⟨k1, k2, k3, k4⟩ := ih.yes m hm
        simp only [gath]
        by_cases hle : m.2 ≤ cs.getD (a + j - 1) 0 + r.2
        · rw [if_pos hle]
          refine ⟨fun h => (by cases h), fun p h => ?_⟩
          cases h
          refine ⟨k1, by omega, k3, fun d q h1 h2 hd => ?_⟩
          by_cases e : d = a + j
          · rw [e, hb] at hd; cases hd; rw [e]; exact ⟨hle, fun h => by omega⟩
          · exact k4 d q h1 (by omega) hd
        · rw [if_neg hle]
          refine ⟨fun h => (by cases h), fun p h => ?_⟩
          cases h
          refine ⟨by simp, by simp, ⟨r, hb, rfl⟩, fun d q h1 h2 hd => ?_⟩
          by_cases e : d = a + j
          · rw [e, hb] at hd; cases hd; rw [e]; exact ⟨Int.le_refl _, fun h => by simp at h⟩
          · have := (k4 d q h1 (by omega) hd).1
            simp only; omega
theorem best_of {a b : Nat} {cs : List Int} (h1 : 1 ≤ a) (h : 0 < cs.length) : BestOf a b cs (dists a b cs.length) (best a b cs) := by
  rw [best_cons h1 h]; exact bestP_of a b cs _
/-- What is told of a tail with places, if it has allowed cuts. -/
theorem best_some {a b : Nat} {cs : List Int} (h1 : 1 ≤ a) (h : 0 < cs.length) {p : Nat × Int} (hp : best a b cs = some p) :
    a ≤ p.1 ∧ p.1 ≤ b ∧ p.1 ≤ cs.length ∧ (∃ q, best a b (cs.drop p.1) = some q ∧ p.2 = cs.getD (p.1 - 1) 0 + q.2) ∧
    ∀ d q, a ≤ d → d ≤ b → d ≤ cs.length → best a b (cs.drop d) = some q → p.2 ≤ cs.getD (d - 1) 0 + q.2 ∧ (d < p.1 → p.2 < cs.getD (d - 1) 0 + q.2) := by
  obtain ⟨k1, k2, k3, k4⟩ := (best_of h1 h).yes p hp
  unfold dists at k2 k4
  exact ⟨k1, by omega, by omega, k3, fun d q h2 h3 h4 hd => k4 d q h2 (by omega) hd⟩
theorem best_none {a b : Nat} {cs : List Int} (h1 : 1 ≤ a) (h : 0 < cs.length) (hp : best a b cs = none) {d : Nat} (h2 : a ≤ d) (h3 : d ≤ b) (h4 : d ≤ cs.length) : best a b (cs.drop d) = none :=
  (best_of h1 h).no hp d h2 (by unfold dists; omega)
/-- A cost is within bounds. -/
theorem best_bound {a b : Nat} (h1 : 1 ≤ a) {cs : List Int} (hc : ∀ x ∈ cs, 0 ≤ x ∧ x ≤ 1000) {p : Nat × Int} (hp : best a b cs = some p) : 0 ≤ p.2 ∧ p.2 ≤ 1000 * (cs.length : Int) := by
  induction hn : cs.length using Nat.strongRecOn generalizing cs p with
  | _ n ih =>
    subst hn
    rcases Nat.eq_zero_or_pos cs.length with h0 | h0
    · rw [List.eq_nil_of_length_eq_zero h0, best_nil] at hp; cases hp; simp; omega
    · obtain ⟨k1, k2, k3, ⟨q, hq, e⟩, _⟩ := best_some h1 h0 hp
      have := ih (cs.drop p.1).length (by simp; omega) (fun x hx => hc x (List.mem_of_mem_drop hx)) hq rfl
      have g : 0 ≤ cs.getD (p.1 - 1) 0 ∧ cs.getD (p.1 - 1) 0 ≤ 1000 := by
        rw [List.getD_eq_getElem?_getD, List.getElem?_eq_getElem (show p.1 - 1 < cs.length by omega)]
        exact hc _ (List.getElem_mem _)
      simp at this; omega
theorem bestP_bound {a b : Nat} (h1 : 1 ≤ a) {cs : List Int} (hc : ∀ x ∈ cs, 0 ≤ x ∧ x ≤ 1000) {j : Nat} (hj : j ≤ dists a b cs.length) {p : Nat × Int} (hp : bestP a b cs j = some p) : a ≤ p.1 ∧ p.1 < a + j ∧ 0 ≤ p.2 ∧ p.2 ≤ 1000 * (cs.length : Int) := by
  obtain ⟨k1, k2, ⟨q, hq, e⟩, _⟩ := (bestP_of a b cs j).yes p hp
  unfold dists at hj
  have := best_bound h1 (cs := cs.drop p.1) (fun x hx => hc x (List.mem_of_mem_drop hx)) hq
  have g : 0 ≤ cs.getD (p.1 - 1) 0 ∧ cs.getD (p.1 - 1) 0 ≤ 1000 := by
    rw [List.getD_eq_getElem?_getD, List.getElem?_eq_getElem (show p.1 - 1 < cs.length by omega)]
    exact hc _ (List.getElem_mem _)
  simp at this; omega

/-! The cuts themselves. -/
def cutsOf (a b : Nat) : Nat → List Int → Nat → List Int
  | 0, _, _ => []
  | f + 1, cs, k => match best a b cs with
    | some (d + 1, _) => ((k + d : Nat) : Int) :: cutsOf a b f (cs.drop (d + 1)) (k + d + 1)
    | _ => []
/-- The best cuts of a tail that begins at place k. -/
def tl (a b : Nat) (cs : List Int) (k : Nat) : List Int := cutsOf a b cs.length cs k
theorem cutsOf_enough {a b : Nat} {f : Nat} {cs : List Int} {k : Nat} (h : cs.length ≤ f) : cutsOf a b f cs k = tl a b cs k := by
  unfold tl
  induction f using Nat.strongRecOn generalizing cs k with
  | _ f ih =>
    rcases Nat.eq_zero_or_pos cs.length with h0 | h0
    · have e := List.eq_nil_of_length_eq_zero h0
      subst e
      cases f with
      | zero => rfl
      | succ f => simp [cutsOf, best_nil]
    · obtain ⟨f, rfl⟩ : ∃ m, f = m + 1 := ⟨f - 1, by omega⟩
      obtain ⟨m, hm⟩ : ∃ m, cs.length = m + 1 := ⟨cs.length - 1, by omega⟩
      rw [hm]
      simp only [cutsOf]
      match hb : best a b cs with
      | none => rfl
      | some (0, _) => rfl
      | some (d + 1, _) =>
        have l1 : (cs.drop (d + 1)).length ≤ f := by simp; omega
        have l2 : (cs.drop (d + 1)).length ≤ m := by simp; omega
        simp only []
        rw [ih f (by omega) l1, ih m (by omega) l2]
theorem tl_nil (a b k : Nat) : tl a b [] k = [] := rfl
theorem tl_cons {a b : Nat} {cs : List Int} {k : Nat} (h1 : 1 ≤ a) (h : 0 < cs.length) {p : Nat × Int} (hp : best a b cs = some p) : tl a b cs k = ((k + p.1 - 1 : Nat) : Int) :: tl a b (cs.drop p.1) (k + p.1) := by
  obtain ⟨k1, k2, k3, _⟩ := best_some h1 h hp
  obtain ⟨d, m⟩ := p
  obtain ⟨d, rfl⟩ : ∃ e, d = e + 1 := ⟨d - 1, by simp at k1; omega⟩
  obtain ⟨n, hn⟩ : ∃ m, cs.length = m + 1 := ⟨cs.length - 1, by omega⟩
  unfold tl
  rw [hn]
  simp only [cutsOf, hp]
  rw [cutsOf_enough (by simp; omega)]
  rfl
theorem tl_shift {a b : Nat} (h1 : 1 ≤ a) {cs : List Int} {k s : Nat} : tl a b cs (k + s) = (tl a b cs k).map (· + (s : Int)) := by
  induction hn : cs.length using Nat.strongRecOn generalizing cs k with
  | _ n ih =>
    subst hn
    rcases Nat.eq_zero_or_pos cs.length with h0 | h0
    · have e := List.eq_nil_of_length_eq_zero h0
      subst e; rfl
    · cases hb : best a b cs with
      | none =>
        have e : ∀ i, tl a b cs i = [] := fun i => by
          obtain ⟨n, hn⟩ : ∃ m, cs.length = m + 1 := ⟨cs.length - 1, by omega⟩
          unfold tl; rw [hn]; simp only [cutsOf, hb]
        rw [e, e]; rfl
      | some p =>
        obtain ⟨k1, k2, k3, _⟩ := best_some h1 h0 hb
        rw [tl_cons h1 h0 hb, tl_cons h1 h0 hb, List.map_cons]
        congr 1
        · omega
        · rw [← ih (cs.drop p.1).length (by simp; omega) (cs := cs.drop p.1) rfl]
          congr 1; omega
theorem drop_getD (c : List Int) (k d : Nat) : (c.drop k).getD d 0 = c.getD (k + d) 0 := by
  simp [List.getD_eq_getElem?_getD]
theorem costAt_cons (c : List Int) (x : Int) (t : List Int) : costAt c (x :: t) = c.getD x.toNat 0 + costAt c t := by simp [costAt]
/-- The best cuts are allowed, and cost what is told. -/
theorem tl_sound {a b : Nat} (h1 : 1 ≤ a) {c : List Int} {k : Nat} (hk : k ≤ c.length) {p : Nat × Int} (hp : best a b (c.drop k) = some p) :
    goes a b ((c.length : Int) - 1) ((k : Int) - 1) (tl a b (c.drop k) k) = true ∧ costAt c (tl a b (c.drop k) k) = p.2 := by
  induction hn : c.length - k using Nat.strongRecOn generalizing k p with
  | _ n ih =>
    subst hn
    by_cases h0 : k = c.length
    · subst h0
      rw [List.drop_length] at *
      rw [best_nil] at hp; cases hp
      exact ⟨by simp [tl_nil, goes], rfl⟩
    · have h0 : 0 < (c.drop k).length := by simp; omega
      obtain ⟨k1, k2, k3, ⟨q, hq, e⟩, _⟩ := best_some h1 h0 hp
      simp only [List.length_drop] at k3
      rw [List.drop_drop] at hq
      obtain ⟨g1, g2⟩ := ih (c.length - (k + p.1)) (by omega) (k := k + p.1) (by omega) hq rfl
      rw [tl_cons h1 h0 hp, List.drop_drop]
      refine ⟨goes_cons.2 ⟨by omega, by omega, ?_⟩, ?_⟩
      · rw [show ((k + p.1 - 1 : Nat) : Int) = ((k + p.1 : Nat) : Int) - 1 by omega]; exact g1
      · rw [costAt_cons, g2, e, drop_getD]
        congr 2; omega
/-- The first number that differs is the lesser one (or there is none). -/
def firstLe : List Int → List Int → Bool
  | x :: s, y :: t => if x = y then firstLe s t else decide (x < y)
  | _, _ => true
theorem firstLe_cons (x y : Int) (s t : List Int) : firstLe (x :: s) (y :: t) = if x = y then firstLe s t else decide (x < y) := rfl
/-- .. and none cost less. -/
theorem tl_best {a b : Nat} (h1 : 1 ≤ a) {c : List Int} {k : Nat} (hk : k ≤ c.length) {l : List Int} (h : goes a b ((c.length : Int) - 1) ((k : Int) - 1) l = true) :
    ∃ p, best a b (c.drop k) = some p ∧ p.2 ≤ costAt c l ∧ (p.2 = costAt c l → firstLe (tl a b (c.drop k) k) l = true) := by
  induction l generalizing k with
  | nil =>
    simp only [goes, decide_eq_true_eq] at h
    have : k = c.length := by omega
    subst this
    rw [List.drop_length]
    exact ⟨_, best_nil a b, by simp [costAt], fun _ => by simp [tl_nil, firstLe]⟩
  | cons x t ih =>
    obtain ⟨g1, g2, g3⟩ := goes_cons.1 h
    have g4 := goes_le (by omega) g3
    obtain ⟨k', hk'⟩ : ∃ k' : Nat, x = (k' : Int) - 1 ∧ k' ≤ c.length := ⟨(x + 1).toNat, by omega, by omega⟩
    obtain ⟨rfl, hk2⟩ := hk'
    obtain ⟨q, hq, q1, q2⟩ := ih (k := k') hk2 g3
    have h0 : 0 < (c.drop k).length := by simp; omega
    have hq' : best a b ((c.drop k).drop (k' - k)) = some q := by rw [List.drop_drop, show k + (k' - k) = k' by omega]; exact hq
    cases hb : best a b (c.drop k) with
    | none => rw [best_none h1 h0 hb (d := k' - k) (by omega) (by omega) (by simp; omega)] at hq'; cases hq'
    | some p =>
      obtain ⟨k1, k2, k3, _, k4⟩ := best_some h1 h0 hb
      obtain ⟨u1, u2⟩ := k4 (k' - k) q (by omega) (by omega) (by simp; omega) hq'
      have e : (c.drop k).getD (k' - k - 1) 0 = c.getD ((k' : Int) - 1).toNat 0 := by rw [drop_getD]; congr 1; omega
      rw [e] at u1 u2
      refine ⟨p, rfl, by rw [costAt_cons]; omega, fun he => ?_⟩
      rw [costAt_cons] at he
      rw [tl_cons h1 h0 hb, firstLe_cons]
      split
      · rename_i z
        rw [List.drop_drop, show k + p.1 = k' by omega]
        exact q2 (by omega)
      · rename_i z
        have : ¬ k' - k < p.1 := fun h => by have := u2 h; omega
        exact decide_eq_true (by omega)
/-- There are best cuts where there is a way. -/
theorem ways_goes {a b : Nat} (h1 : 1 ≤ a) (k : Nat) (h : 1 ≤ ways a b k) (p : Int) : ∃ l, goes a b (p + k) p l = true := by
  induction k using Nat.strongRecOn generalizing p with
  | _ k ih =>
    rcases Nat.eq_zero_or_pos k with rfl | hk
    · exact ⟨[], by simp [goes]⟩
    · rw [ways_succ h1 hk] at h
      obtain ⟨d, h3, h4, h5⟩ := psum_some h
      unfold dists at h4
      obtain ⟨l, hl⟩ := ih (k - d) (by omega) h5 (p + d)
      exact ⟨(p + d) :: l, goes_cons.2 ⟨by omega, by omega, by rw [show p + (k : Int) = p + (d : Int) + ((k - d : Nat) : Int) by omega]; exact hl⟩⟩
theorem best_ways {a b : Nat} (h1 : 1 ≤ a) (c : List Int) : (best a b c).isSome = decide (1 ≤ ways a b c.length) := by
  rw [Bool.eq_iff_iff, decide_eq_true_eq]
  constructor
  · intro h
    obtain ⟨p, hp⟩ := Option.isSome_iff_exists.1 h
    have := (tl_sound h1 (c := c) (k := 0) (by omega) (by simpa using hp)).1
    have := goes_ways h1 this
    rwa [show ((c.length : Int) - 1 - (((0 : Nat) : Int) - 1)).toNat = c.length by omega] at this
  · intro h
    obtain ⟨l, hl⟩ := ways_goes h1 _ h (-1)
    obtain ⟨p, hp, _⟩ := tl_best h1 (c := c) (k := 0) (by omega) (l := l) (by
      rw [show (c.length : Int) - 1 = -1 + (c.length : Int) by omega]; exact hl)
    rw [List.drop_zero] at hp; rw [hp]; rfl
/-- Twice the costs. -/
def dbl (e : Ent) : Ent := e.map fun p => (p.1, 2 * p.2)
theorem gath_dbl (acc : Ent) (d : Nat) (c : Int) (beh : Ent) : gath (dbl acc) d (2 * c) (dbl beh) = dbl (gath acc d c beh) := by
  cases beh with
  | none => rfl
  | some r => cases acc with
    | none => simp [gath, dbl]; omega
    | some m =>
      simp only [gath, dbl, Option.map_some]
      by_cases h : m.2 ≤ c + r.2
      · rw [if_pos h, if_pos (by omega)]; rfl
      · rw [if_neg h, if_neg (by omega)]; simp; omega
theorem getD_dbl (c : List Int) (i : Nat) : (c.map (2 * ·)).getD i 0 = 2 * c.getD i 0 := by
  simp only [List.getD_eq_getElem?_getD, List.getElem?_map]
  cases c[i]? <;> simp
theorem best_dbl {a b : Nat} (h1 : 1 ≤ a) (c : List Int) : best a b (c.map (2 * ·)) = dbl (best a b c) := by
  induction hn : c.length using Nat.strongRecOn generalizing c with
  | _ n ih =>
    subst hn
    rcases Nat.eq_zero_or_pos c.length with h0 | h0
    · rw [List.eq_nil_of_length_eq_zero h0]; rfl
    · rw [best_cons h1 (by simpa using h0), best_cons h1 h0, List.length_map]
      have : ∀ j, j ≤ dists a b c.length → bestP a b (c.map (2 * ·)) j = dbl (bestP a b c j) := by
        intro j hj
        induction j with
        | zero => rfl
        | succ j ihj =>
          simp only [bestP]
          unfold dists at hj ihj
          rw [ihj (by omega), getD_dbl, ← List.map_drop, ih (c.drop (a + j)).length (by simp; omega) (c.drop (a + j)) rfl, gath_dbl]
      exact this _ (Nat.le_refl _)
theorem tl_dbl {a b : Nat} (h1 : 1 ≤ a) (c : List Int) (k : Nat) : tl a b (c.map (2 * ·)) k = tl a b c k := by
  induction hn : c.length using Nat.strongRecOn generalizing c k with
  | _ n ih =>
    subst hn
    rcases Nat.eq_zero_or_pos c.length with h0 | h0
    · rw [List.eq_nil_of_length_eq_zero h0]; rfl
    · have hd := best_dbl (b := b) h1 c
      cases hb : best a b c with
      | none =>
        rw [hb] at hd
        obtain ⟨n, hn⟩ : ∃ m, c.length = m + 1 := ⟨c.length - 1, by omega⟩
        unfold tl; rw [List.length_map, hn]; simp only [cutsOf, hb, hd, dbl, Option.map_none]
      | some p =>
        rw [hb] at hd
        obtain ⟨k1, k2, k3, _⟩ := best_some h1 h0 hb
        rw [tl_cons h1 (by simpa using h0) hd, tl_cons h1 h0 hb, ← List.map_drop]
        simp only []
        rw [ih (c.drop p.1).length (by simp; omega) (c.drop p.1) _ rfl]

/-! The answer of CutsBest. -/
def bestB (c : List Int) (lo mo : Int) : Option (List Int) :=
  if isSig c && isLim lo mo then (best lo.toNat mo.toNat c).map fun _ => tl lo.toNat mo.toNat c 0 else none
theorem bestB_no {c : List Int} {lo mo : Int} (h : isSig c = false ∨ isLim lo mo = false) : bestB c lo mo = none := by
  unfold bestB; rw [if_neg]; rcases h with h | h <;> simp [h]
theorem bestB_nat {c : List Int} {a b : Nat} (h : isSig c = true) (h1 : 1 ≤ a) (h2 : a ≤ b) (h3 : b ≤ 16) : bestB c a b = (best a b c).map fun _ => tl a b c 0 := by
  unfold bestB; rw [if_pos (by rw [h, lim_yes h1 h2 h3]; rfl)]; simp
/-- Best cuts: valid arguments, allowed, and no others come before. -/
structure IsBest (c : List Int) (a b : Nat) (l : List Int) : Prop where
  sig : isSig c = true
  a1 : 1 ≤ a
  ab : a ≤ b
  b16 : b ≤ 16
  ok : goes a b ((c.length : Int) - 1) (-1) l = true
  least : ∀ m, goes a b ((c.length : Int) - 1) (-1) m = true → costAt c l ≤ costAt c m ∧ (costAt c l = costAt c m → firstLe l m = true)
theorem bestB_some {c : List Int} {lo mo : Int} {l : List Int} (h : bestB c lo mo = some l) : ∃ a b : Nat, lo = a ∧ mo = b ∧ IsBest c a b l := by
  unfold bestB at h
  split at h
  · rename_i hv
    simp only [Bool.and_eq_true] at hv
    obtain ⟨a, b, rfl, rfl, h1, h2, h3⟩ := lim_nat hv.2
    simp only [Int.toNat_natCast] at h
    cases hb : best a b c with
    | none => rw [hb] at h; cases h
    | some p =>
      rw [hb] at h; cases h
      have s := tl_sound h1 (c := c) (k := 0) (by omega) (by simpa using hb)
      rw [List.drop_zero] at s
      refine ⟨a, b, rfl, rfl, hv.1, h1, h2, h3, s.1, fun m hm => ?_⟩
      obtain ⟨q, hq, q1, q2⟩ := tl_best h1 (c := c) (k := 0) (by omega) hm
      rw [List.drop_zero] at hq q2
      rw [hb] at hq; cases hq
      rw [s.2]; exact ⟨q1, q2⟩
  · cases h
theorem bestB_has {c : List Int} {lo mo : Int} {l : List Int} (h : allowedB c lo mo l = true) : ∃ m, bestB c lo mo = some m := by
  obtain ⟨h1, h2, h3⟩ := allowedB_iff.1 h
  obtain ⟨a, b, rfl, rfl, k1, k2, k3⟩ := lim_nat h2
  obtain ⟨p, hp, _⟩ := tl_best k1 (c := c) (k := 0) (by omega) h3
  rw [List.drop_zero] at hp
  rw [bestB_nat h1 k1 k2 k3, hp]
  exact ⟨_, rfl⟩
theorem bestB_isSome {c : List Int} {lo mo : Int} : (bestB c lo mo).isSome = (isSig c && decide (1 ≤ manyB c.length lo mo)) := by
  cases hs : isSig c
  · rw [bestB_no (.inl hs)]; rfl
  · cases hl : isLim lo mo
    · rw [bestB_no (.inr hl), manyB_no (.inr hl)]; rfl
    · obtain ⟨a, b, rfl, rfl, h1, h2, h3⟩ := lim_nat hl
      obtain ⟨k1, k2, _⟩ := isSig_iff.1 hs
      rw [bestB_nat hs h1 h2 h3, manyB_yes k1 k2 h1 h2 h3, Option.isSome_map, best_ways h1]
      simp only [Bool.true_and]
      exact decide_eq_decide.2 (by omega)
end Go.Proofs.Ytihgfhddljicaab
