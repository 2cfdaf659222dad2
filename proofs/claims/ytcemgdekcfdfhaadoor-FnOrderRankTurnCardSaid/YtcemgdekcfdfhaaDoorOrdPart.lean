/- In which part a layer lies, and what that says of orders; lists of numbers that are parts, and what the functions on them answer. Plain mathematics, no program in it. -/
import Derived.Test.YtcemgdekcfdfhaaDoorOrdBet
namespace Go.Proofs.YtcemgdekcfdfhaaDoor

/-- The part of a layer, and its index within. -/
def fnd : List Nat → Nat → Nat × Nat
  | [], i => (0, i)
  | x :: xs, i => if i < x then (0, i) else ((fnd xs (i - x)).1 + 1, (fnd xs (i - x)).2)
theorem fnd_in : ∀ (xs : List Nat) (i : Nat), i < xs.sum → ∃ h : (fnd xs i).1 < xs.length, (fnd xs i).2 < xs[(fnd xs i).1] ∧ i = (xs.take (fnd xs i).1).sum + (fnd xs i).2
  | [], i, h => by simp at h
  | x :: xs, i, h => by
    rw [List.sum_cons] at h
    unfold fnd
    split
    · rename_i c; exact ⟨by simp, by simpa using c, by simp⟩
    · rename_i c
      obtain ⟨h1, h2, h3⟩ := fnd_in xs (i - x) (by omega)
      refine ⟨by simpa using h1, by simpa using h2, ?_⟩
      simp only [List.take_succ_cons, List.sum_cons]
      omega
theorem betOf_first {ps : List Pt} {i k : Nat} (hi : i < sumA ps) (hk : k < sumB ps) (h : (fnd (ps.map Prod.fst) i).1 < (fnd (ps.map Prod.snd) k).1) : betOf ps i k = cnt ps := by
  induction ps generalizing i k with
  | nil => simp [sumA] at hi
  | cons p ps ih =>
    simp only [sumA, sumB, List.map_cons, List.sum_cons] at hi hk
    simp only [List.map_cons, fnd] at h
    simp only [betOf, cnt]
    by_cases h1 : i < p.1
    · rw [if_pos h1]
      rw [if_pos h1] at h
      by_cases h2 : k < p.2
      · rw [if_pos h2] at h; exact absurd h (by simp)
      · rw [if_neg h2]
    · rw [if_neg h1]
      rw [if_neg h1] at h
      by_cases h2 : k < p.2
      · rw [if_pos h2] at h; simp at h
      · rw [if_neg h2] at h ⊢
        rw [ih (by simp only [sumA]; omega) (by simp only [sumB]; omega) (by simpa using h)]
theorem betOf_last {ps : List Pt} {i k : Nat} (hi : i < sumA ps) (hk : k < sumB ps) (h : (fnd (ps.map Prod.snd) k).1 < (fnd (ps.map Prod.fst) i).1) : betOf ps i k = 0 := by
  induction ps generalizing i k with
  | nil => simp [sumA] at hi
  | cons p ps ih =>
    simp only [sumA, sumB, List.map_cons, List.sum_cons] at hi hk
    simp only [List.map_cons, fnd] at h
    simp only [betOf]
    by_cases h1 : i < p.1
    · rw [if_pos h1] at h; simp at h
    · rw [if_neg h1]
      rw [if_neg h1] at h
      by_cases h2 : k < p.2
      · rw [if_pos h2]
      · rw [if_neg h2] at h ⊢
        rw [ih (by simp only [sumA]; omega) (by simp only [sumB]; omega) (by simpa using h), Nat.mul_zero]
theorem betOf_same {ps : List Pt} {i k : Nat} (hi : i < sumA ps) (hk : k < sumB ps) (h : (fnd (ps.map Prod.fst) i).1 = (fnd (ps.map Prod.snd) k).1) :
    ∃ (hp : (fnd (ps.map Prod.fst) i).1 < ps.length) (c : Nat), 1 ≤ c ∧ cnt ps = ch (ps[(fnd (ps.map Prod.fst) i).1]).1 (ps[(fnd (ps.map Prod.fst) i).1]).2 * c ∧
      betOf ps i k = bet (ps[(fnd (ps.map Prod.fst) i).1]).1 (ps[(fnd (ps.map Prod.fst) i).1]).2 (fnd (ps.map Prod.fst) i).2 (fnd (ps.map Prod.snd) k).2 * c ∧
      (fnd (ps.map Prod.fst) i).2 < (ps[(fnd (ps.map Prod.fst) i).1]).1 ∧ (fnd (ps.map Prod.snd) k).2 < (ps[(fnd (ps.map Prod.fst) i).1]).2 := by
  induction ps generalizing i k with
  | nil => simp [sumA] at hi
  | cons p ps ih =>
    simp only [sumA, sumB, List.map_cons, List.sum_cons] at hi hk
    simp only [List.map_cons, fnd] at h
    by_cases h1 : i < p.1
    · rw [if_pos h1] at h
      by_cases h2 : k < p.2
      · refine ⟨by simp [fnd, h1], cnt ps, cnt_pos ps, ?_⟩
        simp [fnd, h1, h2, cnt, betOf]
      · rw [if_neg h2] at h; simp at h
    · rw [if_neg h1] at h
      by_cases h2 : k < p.2
      · rw [if_pos h2] at h; simp at h
      · rw [if_neg h2] at h
        obtain ⟨hp, c, c1, e1, e2, e3, e4⟩ := ih (i := i - p.1) (k := k - p.2) (by simp only [sumA]; omega) (by simp only [sumB]; omega) (by simpa using h)
        refine ⟨by simp [fnd, h1]; simpa using hp, ch p.1 p.2 * c, Nat.mul_pos (ch_pos _ _) c1, ?_⟩
        simp only [List.map_cons, fnd, if_neg h1, if_neg h2, List.getElem_cons_succ, cnt, betOf]
        refine ⟨?_, ?_, e3, e4⟩
        · rw [e1]; exact Nat.mul_left_comm _ _ _
        · rw [e2]; exact Nat.mul_left_comm _ _ _

/-! Lists of numbers. -/
def parB (x : Int) : Bool := decide (0 ≤ x) && decide (x ≤ 6)
theorem parB_iff {x : Int} : parB x = true ↔ 0 ≤ x ∧ x ≤ 6 := by simp [parB]
def isPar (a b : List Int) : Bool := decide (1 ≤ a.length) && decide (a.length ≤ 4) && decide (b.length = a.length) && (a.all parB && b.all parB)
structure IsPar (a b : List Int) : Prop where
  one : 1 ≤ a.length
  most : a.length ≤ 4
  len : b.length = a.length
  a6 : ∀ i (h : i < a.length), 0 ≤ a[i] ∧ a[i] ≤ 6
  b6 : ∀ i (h : i < b.length), 0 ≤ b[i] ∧ b[i] ≤ 6
theorem all_parB {l : List Int} : l.all parB = true ↔ ∀ i (h : i < l.length), 0 ≤ l[i] ∧ l[i] ≤ 6 := by
  rw [List.all_eq_true]
  exact ⟨fun h i hi => parB_iff.1 (h _ (List.getElem_mem hi)), fun h x hx => by
    obtain ⟨i, hi, rfl⟩ := List.getElem_of_mem hx
    exact parB_iff.2 (h i hi)⟩
theorem isPar_iff {a b : List Int} : isPar a b = true ↔ IsPar a b := by
  simp only [isPar, Bool.and_eq_true, decide_eq_true_eq, all_parB]
  exact ⟨fun ⟨⟨⟨h1, h2⟩, h3⟩, h4, h5⟩ => ⟨h1, h2, h3, h4, h5⟩, fun h => ⟨⟨⟨h.one, h.most⟩, h.len⟩, h.a6, h.b6⟩⟩
/-- The parts. -/
def par : List Int → List Int → List Pt
  | x :: a, y :: b => (x.toNat, y.toNat) :: par a b
  | _, _ => []
theorem par_length : ∀ (a b : List Int), b.length = a.length → (par a b).length = a.length
  | [], [], _ => rfl
  | [], _ :: _, h => by simp at h
  | _ :: _, [], h => by simp at h
  | x :: a, y :: b, h => by simp only [par, List.length_cons]; rw [par_length a b (by simpa using h)]
theorem par_get : ∀ (a b : List Int) (i : Nat) (h : i < (par a b).length) (h1 : i < a.length) (h2 : i < b.length), (par a b)[i] = (a[i].toNat, b[i].toNat)
  | x :: a, y :: b, 0, _, _, _ => rfl
  | x :: a, y :: b, i + 1, h, h1, h2 => by
    simp only [par, List.getElem_cons_succ]
    exact par_get a b i (by simpa [par] using h) (by simpa using h1) (by simpa using h2)
theorem par_drop : ∀ (a b : List Int) (k : Nat), par (a.drop k) (b.drop k) = (par a b).drop k
  | a, b, 0 => rfl
  | [], [], k + 1 => by simp [par]
  | [], y :: b, k + 1 => by simp [par]
  | x :: a, [], k + 1 => by simp [par]
  | x :: a, y :: b, k + 1 => by simp only [List.drop_succ_cons, par]; exact par_drop a b k
theorem par_take : ∀ (a b : List Int) (k : Nat), par (a.take k) (b.take k) = (par a b).take k
  | a, b, 0 => by simp [par]
  | [], [], k + 1 => by simp [par]
  | [], y :: b, k + 1 => by simp [par]
  | x :: a, [], k + 1 => by simp [par]
  | x :: a, y :: b, k + 1 => by simp only [List.take_succ_cons, par]; rw [par_take a b k]
theorem par_swap : ∀ (a b : List Int), par b a = (par a b).map Prod.swap
  | [], [] => rfl
  | [], y :: b => rfl
  | x :: a, [] => rfl
  | x :: a, y :: b => by simp only [par, List.map_cons, Prod.swap, par_swap a b]
def natL (l : List Int) : List Nat := l.map Int.toNat
theorem par_fst : ∀ (a b : List Int), b.length = a.length → (par a b).map Prod.fst = natL a
  | [], [], _ => rfl
  | [], _ :: _, h => by simp at h
  | _ :: _, [], h => by simp at h
  | x :: a, y :: b, h => by simp only [par, List.map_cons, natL]; rw [par_fst a b (by simpa using h)]; rfl
theorem par_snd : ∀ (a b : List Int), b.length = a.length → (par a b).map Prod.snd = natL b
  | [], [], _ => rfl
  | [], _ :: _, h => by simp at h
  | _ :: _, [], h => by simp at h
  | x :: a, y :: b, h => by simp only [par, List.map_cons, natL]; rw [par_snd a b (by simpa using h)]; rfl
theorem IsPar.small {a b : List Int} (h : IsPar a b) : Small (par a b) := fun p hp => by
  obtain ⟨i, hi, rfl⟩ := List.getElem_of_mem hp
  have hl := par_length a b h.len
  have h1 := h.a6 i (by omega)
  have h2 := h.b6 i (by have := h.len; omega)
  rw [par_get a b i hi (by omega) (by have := h.len; omega)]
  simp only
  omega
def countOf (a b : List Int) : Int := if isPar a b = true then (cnt (par a b) : Int) else -1
def nthOf (a b : List Int) (n : Int) : Option (List UInt8) := if isPar a b = true ∧ 0 ≤ n ∧ n < (cnt (par a b) : Int) then some (jn (txs (par a b) n.toNat)) else none
def intA (ts : List Tx) : List Int := ts.map fun t => (na t : Int)
def intB (ts : List Tx) : List Int := ts.map fun t => (nb t : Int)
def partsOf (s : List UInt8) : Option (List Int × List Int) := match sp s with
  | some ts => if isPar (intA ts) (intB ts) = true then some (intA ts, intB ts) else none
  | none => none
def rankOf (s : List UInt8) : Int := match sp s with
  | some ts => if isPar (intA ts) (intB ts) = true then (rks ts : Int) else -1
  | none => -1
def betweenOf (a b : List Int) (i k : Int) : Int := if isPar a b = true ∧ 0 ≤ i ∧ 0 ≤ k ∧ i.toNat < sumA (par a b) ∧ k.toNat < sumB (par a b) then (betOf (par a b) i.toNat k.toNat : Int) else -1
theorem par_int (ts : List Tx) : par (intA ts) (intB ts) = ts.map cts := by
  induction ts with
  | nil => rfl
  | cons t ts ih => simp only [intA, intB, List.map_cons, par]; rw [show par (List.map (fun t => (na t : Int)) ts) (List.map (fun t => (nb t : Int)) ts) = ts.map cts from ih]; simp [cts]
theorem int_par {a b : List Int} (h : IsPar a b) (ts : List Tx) (e : ts.map cts = par a b) : intA ts = a ∧ intB ts = b := by
  have hl := par_length a b h.len
  have tl : ts.length = a.length := by rw [← hl, ← e, List.length_map]
  have get : ∀ i (h1 : i < ts.length) (h2 : i < a.length) (h3 : i < b.length), na ts[i] = a[i].toNat ∧ nb ts[i] = b[i].toNat := fun i h1 h2 h3 => by
    have q := par_get a b i (by omega) h2 h3
    have : (ts.map cts)[i]'(by simpa using h1) = cts ts[i] := by simp
    simp only [e] at this
    rw [q] at this
    exact ⟨(congrArg Prod.fst this).symm, (congrArg Prod.snd this).symm⟩
  constructor
  · apply List.ext_getElem (by simp [intA, tl])
    intro i h1 h2
    have g := get i (by simpa [intA] using h1) h2 (by have := h.len; omega)
    have := h.a6 i h2
    simp only [intA, List.getElem_map, g.1]; omega
  · apply List.ext_getElem (by simp [intB, tl, h.len])
    intro i h1 h2
    have g := get i (by simpa [intB] using h1) (by have := h.len; omega) h2
    have := h.b6 i h2
    simp only [intB, List.getElem_map, g.2]; omega
theorem nth_parts {a b : List Int} {n : Int} {s : List UInt8} (h : nthOf a b n = some s) : partsOf s = some (a, b) ∧ rankOf s = n := by
  unfold nthOf at h
  split at h
  · rename_i c
    obtain ⟨c1, c2, c3⟩ := c
    cases h
    have w := isPar_iff.1 c1
    have ne : txs (par a b) n.toNat ≠ [] := fun e => by
      have := txs_length (par a b) n.toNat
      rw [e, par_length a b w.len] at this
      have := w.one
      simp at *
      omega
    obtain ⟨e1, e2⟩ := int_par w (txs (par a b) n.toNat) (txs_cts _ _)
    unfold partsOf rankOf
    rw [sp_jn _ ne]
    simp only [e1, e2, c1, if_true, true_and]
    rw [rks_txs _ _ (by omega)]
    omega
  · cases h
theorem rank_nth {s : List UInt8} {r : Int} (h : rankOf s = r) (hr : 0 ≤ r) : ∃ a b, partsOf s = some (a, b) ∧ nthOf a b r = some s ∧ r < countOf a b := by
  unfold rankOf at h
  split at h
  · rename_i ts e
    split at h
    · rename_i c
      have w := isPar_iff.1 c
      refine ⟨intA ts, intB ts, ?_, ?_, ?_⟩
      · unfold partsOf; rw [e]; simp only [c, if_true]
      · unfold nthOf
        have l := rks_lt ts
        rw [par_int, if_pos ⟨c, hr, by omega⟩, ← h, Int.toNat_natCast, txs_rks, (jn_sp e).1]
      · unfold countOf
        have l := rks_lt ts
        rw [if_pos c, par_int]; omega
    · omega
  · omega
end Go.Proofs.YtcemgdekcfdfhaaDoor
