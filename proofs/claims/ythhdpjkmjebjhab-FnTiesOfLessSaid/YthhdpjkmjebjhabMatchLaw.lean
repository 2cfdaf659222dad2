/- Events and what the laws on matchings need: plain mathematics, no program in it. An event: its depth, its size. -/
import Derived.Test.YthhdpjkmjebjhabMatchOk
namespace Go.Proofs.Ythhdpjkmjebjhab

abbrev Ev := Int × Int
def evOk (p : Ev) : Bool := decide (0 ≤ p.1) && decide (p.1 ≤ 30000) && decide (1 ≤ p.2) && decide (p.2 ≤ 1000)
def upD : List Ev → Bool
  | p :: q :: l => decide (p.1 < q.1) && upD (q :: l)
  | _ => true
def isEv (l : List Ev) : Bool := decide (l.length ≤ 8) && l.all evOk && upD l
theorem evOk_iff {p : Ev} : evOk p = true ↔ 0 ≤ p.1 ∧ p.1 ≤ 30000 ∧ 1 ≤ p.2 ∧ p.2 ≤ 1000 := by
  simp only [evOk, Bool.and_eq_true, decide_eq_true_eq, and_assoc]
theorem upD_iff {l : List Ev} : upD l = true ↔ ∀ i (h : i + 1 < l.length), (l[i]'(by omega)).1 < l[i + 1].1 := by
  match l with
  | [] => simp [upD]
  | [p] => simp [upD]
  | p :: q :: l =>
    simp only [upD, Bool.and_eq_true, decide_eq_true_eq]
    rw [upD_iff]
    constructor
    · rintro ⟨h1, h2⟩ i hi
      cases i with
      | zero => exact h1
      | succ i => exact h2 i (by simpa using hi)
    · intro h
      exact ⟨h 0 (by simp), fun i hi => h (i + 1) (by simpa using hi)⟩
theorem isEv_iff {l : List Ev} : isEv l = true ↔ l.length ≤ 8 ∧ (∀ p ∈ l, 0 ≤ p.1 ∧ p.1 ≤ 30000 ∧ 1 ≤ p.2 ∧ p.2 ≤ 1000) ∧ ∀ i (h : i + 1 < l.length), (l[i]'(by omega)).1 < l[i + 1].1 := by
  simp only [isEv, Bool.and_eq_true, decide_eq_true_eq, List.all_eq_true, evOk_iff, upD_iff, and_assoc]
theorem isEv_take {l : List Ev} (h : isEv l = true) (k : Nat) : isEv (l.take k) = true := by
  obtain ⟨h1, h2, h3⟩ := isEv_iff.1 h
  refine isEv_iff.2 ⟨by rw [List.length_take]; omega, fun p hp => h2 p (List.mem_of_mem_take hp), fun i hi => ?_⟩
  rw [List.length_take] at hi
  rw [List.getElem_take, List.getElem_take]; exact h3 i (by omega)
/-- The sizes. -/
def sizes (l : List Ev) : List Int := l.map (·.2)
theorem sizes_length (l : List Ev) : (sizes l).length = l.length := by simp [sizes]
theorem sizes_get {l : List Ev} {i : Nat} (h : i < (sizes l).length) : (sizes l)[i] = (l[i]'(by simpa [sizes] using h)).2 := by simp [sizes]
theorem sizes_getD {l : List Ev} {i : Nat} (h : i < l.length) : (sizes l).getD i 0 = l[i].2 := by
  rw [List.getD_eq_getElem?_getD, List.getElem?_eq_getElem (by rw [sizes_length]; exact h), sizes_get]; rfl
theorem sizes_take (l : List Ev) (k : Nat) : sizes (l.take k) = (sizes l).take k := by simp [sizes, List.map_take]
theorem sizes_drop (l : List Ev) (k : Nat) : sizes (l.drop k) = (sizes l).drop k := by simp [sizes, List.map_drop]
/-! What the functions answer. -/
def tolOk (tol : Int) : Bool := decide (0 ≤ tol) && decide (tol ≤ 1000)
theorem tolOk_iff {tol : Int} : tolOk tol = true ↔ 0 ≤ tol ∧ tol ≤ 1000 := by simp [tolOk]
def argsOk (a b : List Ev) (tol : Int) : Bool := isEv a && isEv b && tolOk tol
theorem argsOk_iff {a b : List Ev} {tol : Int} : argsOk a b tol = true ↔ isEv a = true ∧ isEv b = true ∧ tolOk tol = true := by
  simp only [argsOk, Bool.and_eq_true, and_assoc]
def okB (a b : List Ev) (tol : Int) (m : List Int) : Bool := argsOk a b tol && mok tol (sizes b) 0 (sizes a) m
def manyM (a b : List Ev) (tol : Int) (m : List Int) : Int := if okB a b tol m = true then (pairs m : Nat) else -1
def mostB (a b : List Ev) (tol : Int) : Int := if argsOk a b tol = true then (most tol (sizes a) (sizes b) : Nat) else -1
def bestEB (a b : List Ev) (tol : Int) : Option (List Int) := if argsOk a b tol = true then some (bestM tol (sizes a) (sizes b) 0) else none
def countB (a b : List Ev) (tol : Int) : Int := if argsOk a b tol = true then (cnt tol (sizes a) (sizes b) : Nat) else -1
theorem okB_iff {a b : List Ev} {tol : Int} {m : List Int} : okB a b tol m = true ↔ argsOk a b tol = true ∧ Mok tol (sizes a) (sizes b) 0 m := by
  simp only [okB, Bool.and_eq_true]
  rw [mok_iff (Int.le_refl 0)]
/-! Changes of a matching. -/
theorem Mok.drop {tol f : Int} {s t m : List Int} (h : Mok tol s t f m) (i : Nat) : Mok tol s t f (m.set i (-1)) := by
  refine ⟨by rw [List.length_set]; exact h.len, fun j h1 h2 => ?_, fun j k hjk hk => ?_⟩
  · rw [List.getElem_set]
    split
    · left; rfl
    · exact h.each j (by simpa using h1) h2
  · rw [List.length_set] at hk
    rw [List.getElem_set, List.getElem_set]
    split
    · left; rfl
    · split
      · right; left; rfl
      · exact h.up j k hjk hk
theorem Mok.more {tol tol' f : Int} {s t m : List Int} (h : Mok tol s t f m) (ht : tol ≤ tol') : Mok tol' s t f m := by
  refine ⟨h.len, fun j h1 h2 => ?_, h.up⟩
  rcases h.each j h1 h2 with u | ⟨u1, u2, u3⟩
  · exact .inl u
  · exact .inr ⟨u1, u2, like_more ht u3⟩
theorem mok_none (tol f : Int) (s t : List Int) : Mok tol s t f (List.replicate s.length (-1)) :=
  ⟨by simp, fun j h1 h2 => by left; simp, fun j k _ hk => by left; simp⟩
/-- A matching in the other direction: behind the first j numbers. -/
def turned (n : Nat) (m : List Int) : Nat → List Int
  | 0 => List.replicate n (-1)
  | j + 1 => if 0 ≤ m.getD j (-1) then (turned n m j).set (m.getD j (-1)).toNat (j : Int) else turned n m j
theorem turned_length (n : Nat) (m : List Int) (j : Nat) : (turned n m j).length = n := by
  induction j with
  | zero => simp [turned]
  | succ j ih => simp only [turned]; split <;> simp [ih]
theorem getD_one {m : List Int} {j : Nat} (h : j < m.length) (z : Int) : m.getD j z = m[j] := by
  rw [List.getD_eq_getElem?_getD, List.getElem?_eq_getElem h]; rfl
structure Turned (n : Nat) (m : List Int) (j : Nat) (x : List Int) : Prop where
  len : x.length = n
  to : ∀ k (h : k < x.length), x[k] = -1 ∨ ∃ i, i < j ∧ ∃ hi : i < m.length, x[k] = (i : Int) ∧ m[i] = (k : Int)
  of : ∀ i (hi : i < m.length) (k : Nat) (hk : k < x.length), i < j → m[i] = (k : Int) → x[k] = (i : Int)
  many : pairs x = pairs (m.take j)
theorem pairs_replicate (n : Nat) : pairs (List.replicate n (-1)) = 0 := by
  induction n with
  | zero => rfl
  | succ n ih => rw [List.replicate_succ, pairs_cons, ih]; rfl
theorem pairs_append (l m : List Int) : pairs (l ++ m) = pairs l + pairs m := by simp [pairs, List.countP_append]
theorem turned_is {tol : Int} {s t m : List Int} (h : Mok tol s t 0 m) (j : Nat) (hj : j ≤ m.length) : Turned t.length m j (turned t.length m j) := by
  induction j with
  | zero =>
    refine ⟨by simp [turned], fun k hk => by left; simp [turned], fun i _ _ _ hi => by omega, ?_⟩
    simp only [turned, List.take_zero]; rw [pairs_replicate]; rfl
  | succ j ih =>
    have T := ih (by omega)
    have hjl : j < m.length := by omega
    have hjs : j < s.length := by rw [← h.len]; exact hjl
    simp only [turned, getD_one hjl]
    have tk : pairs (m.take (j + 1)) = pairs (m.take j) + one (decide (0 ≤ m[j])) := by
      rw [List.take_succ_eq_append_getElem hjl, pairs_append, pairs_cons]; simp [pairs]
    by_cases h0 : 0 ≤ m[j]
    · rw [if_pos h0]
      obtain ⟨q, hq⟩ : ∃ q : Nat, m[j] = q := ⟨m[j].toNat, by omega⟩
      rcases h.each j hjl hjs with u | ⟨_, u2, _⟩
      · omega
      have hqn : q < (turned t.length m j).length := by rw [T.len]; omega
      rw [hq, Int.toNat_natCast]
      have hfree : (turned t.length m j)[q] = -1 := by
        rcases T.to q hqn with v | ⟨i, hi, hil, _, v2⟩
        · exact v
        · rcases h.up i j hi hjl with w | w | w
          · omega
          · omega
          · omega
      refine ⟨by rw [List.length_set]; exact T.len, fun k hk => ?_, fun i hi k hk hij hik => ?_, ?_⟩
      · rw [List.length_set] at hk
        rw [List.getElem_set]
        split
        · rename_i e; subst e
          right; exact ⟨j, by omega, hjl, rfl, hq⟩
        · rcases T.to k hk with v | ⟨i, h1, h2, h3, h4⟩
          · exact .inl v
          · exact .inr ⟨i, by omega, h2, h3, h4⟩
      · rw [List.length_set] at hk
        rw [List.getElem_set]
        by_cases c : i = j
        · subst c
          rw [if_pos (by omega)]
        · have hlt : i < j := by omega
          split
          · rename_i e; subst e
            rcases h.up i j hlt hjl with w | w | w <;> omega
          · exact T.of i hi k hk hlt hik
      · rw [pairs_set hqn (by rw [hfree]; decide) (by omega), T.many, tk, hq]; simp [one]
    · rw [if_neg h0]
      refine ⟨T.len, fun k hk => ?_, fun i hi k hk hij hik => ?_, ?_⟩
      · rcases T.to k hk with v | ⟨i, h1, h2, h3, h4⟩
        · exact .inl v
        · exact .inr ⟨i, by omega, h2, h3, h4⟩
      · by_cases c : i = j
        · subst c; omega
        · exact T.of i hi k hk (by omega) hik
      · rw [T.many, tk, decide_eq_false h0]; simp [one]
theorem Mok.turn {tol : Int} {s t m : List Int} (h : Mok tol s t 0 m) : Mok tol t s 0 (turned t.length m m.length) ∧ pairs (turned t.length m m.length) = pairs m := by
  have T := turned_is h m.length (Nat.le_refl _)
  refine ⟨⟨T.len, fun k h1 h2 => ?_, fun k k' hkk hk => ?_⟩, by rw [T.many, List.take_length]⟩
  · rcases T.to k h1 with v | ⟨i, _, hi, v1, v2⟩
    · exact .inl v
    · right
      rw [v1]
      rcases h.each i hi (by rw [← h.len]; exact hi) with u | ⟨u1, u2, u3⟩
      · omega
      · have his : i < s.length := by rw [← h.len]; exact hi
        refine ⟨by omega, by omega, ?_⟩
        rw [v2, Int.toNat_natCast, getD_one h2] at u3
        rw [Int.toNat_natCast, getD_one his, like_comm]; exact u3
  · rcases T.to k (by omega) with v | ⟨i, _, hi, v1, v2⟩
    · exact .inl v
    · rcases T.to k' hk with v' | ⟨i', _, hi', v1', v2'⟩
      · exact .inr (.inl v')
      · right; right
        rw [v1, v1']
        rcases Nat.lt_trichotomy i i' with c | c | c
        · omega
        · subst c; omega
        · rcases h.up i' i c hi with w | w | w <;> omega
end Go.Proofs.Ythhdpjkmjebjhab
