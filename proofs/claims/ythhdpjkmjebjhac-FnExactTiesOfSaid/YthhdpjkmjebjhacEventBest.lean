/- The contracts of the model's functions on events: the most pairs, the best matching. -/
import Derived.Test.YthhdpjkmjebjhacEventMost
import Derived.Test.YthhdpjkmjebjhacGrw
namespace Go.Proofs.Ythhdpjkmjebjhac
open Go.RowKit

def partI (tol : Int) (s t : List Int) (i f : Nat) : Int := match partner tol (s.getD i 0) (s.drop (i + 1)) (most tol (s.drop i) (t.drop f)) (t.drop f) with
  | some k => ((f + k : Nat) : Int)
  | none => -1
/-- What the search has passed: the places from f to j are no partners. -/
def Past (tol x : Int) (s : List Int) (n : Nat) (t : List Int) (f j : Nat) : Prop := partner tol x s n (t.drop f) = (partner tol x s n (t.drop j)).map fun k => k + (j - f)
theorem past_start (tol x : Int) (s : List Int) (n : Nat) (t : List Int) (f : Nat) : Past tol x s n t f f := by
  unfold Past
  cases partner tol x s n (t.drop f) <;> simp
theorem Past.next {tol x : Int} {s t : List Int} {n f j : Nat} (h : Past tol x s n t f j) (hf : f ≤ j) (hj : j < t.length) (hn : ¬ (like tol x t[j] = true ∧ most tol s (t.drop (j + 1)) + 1 = n)) : Past tol x s n t f (j + 1) := by
  unfold Past at h ⊢
  rw [h, List.drop_eq_getElem_cons hj]
  simp only [partner]
  rw [if_neg (by simpa using hn)]
  cases partner tol x s n (t.drop (j + 1)) with
  | none => rfl
  | some k => simp only [Option.map_some, Option.some.injEq]; omega
theorem Past.found {tol : Int} {s t : List Int} {i f j : Nat} (h : Past tol (s.getD i 0) (s.drop (i + 1)) (most tol (s.drop i) (t.drop f)) t f j) (hf : f ≤ j) (hj : j < t.length) (h1 : like tol (s.getD i 0) t[j] = true) (h2 : most tol (s.drop (i + 1)) (t.drop (j + 1)) + 1 = most tol (s.drop i) (t.drop f)) : partI tol s t i f = (j : Int) := by
  unfold Past at h
  unfold partI
  rw [h, List.drop_eq_getElem_cons hj]
  simp only [partner]
  rw [if_pos (by rw [h1, decide_eq_true h2]; rfl)]
  simp only [Option.map_some]; omega
theorem Past.all {tol : Int} {s t : List Int} {i f : Nat} (h : Past tol (s.getD i 0) (s.drop (i + 1)) (most tol (s.drop i) (t.drop f)) t f t.length) : partI tol s t i f = -1 := by
  unfold Past at h
  rw [List.drop_length] at h
  unfold partI
  rw [h]; rfl
theorem best_step {tol : Int} {s t : List Int} {j f : Nat} (hj : j < s.length) :
    (partI tol s t j f = -1 ∧ bestM tol (s.drop j) (t.drop f) f = -1 :: bestM tol (s.drop (j + 1)) (t.drop f) f) ∨
    ∃ k : Nat, partI tol s t j f = (k : Int) ∧ f ≤ k ∧ k < t.length ∧ bestM tol (s.drop j) (t.drop f) f = (k : Int) :: bestM tol (s.drop (j + 1)) (t.drop (k + 1)) (k + 1) := by
  have hd : s.getD j 0 = s[j] := by rw [List.getD_eq_getElem?_getD, List.getElem?_eq_getElem hj]; rfl
  unfold partI
  rw [hd]
  have e := List.drop_eq_getElem_cons hj
  rw [e]
  simp only [bestM]
  cases hp : partner tol s[j] (s.drop (j + 1)) (most tol (s[j] :: s.drop (j + 1)) (t.drop f)) (t.drop f) with
  | none => left; exact ⟨rfl, rfl⟩
  | some k =>
    right
    have := (partner_some hp).1
    rw [List.length_drop] at this
    exact ⟨f + k, rfl, by omega, by omega, by simp only [List.drop_drop]; rfl⟩
/-- A list of the call's own, and whether there is one. -/
def BestE (w : World) (o : Option (List Int)) (e : Ending) (w' : World) : Prop :=
  ∃ v, e = .returned (.tuple #[v, .bool o.isSome]) ∧ IOwn w' w.heap.size v (o.getD []) ∧ Below w.heap.size w w'
theorem best_small {a b : List Ev} {tol : Int} (ha : isEv a = true) (hb : isEv b = true) : IBd 20 8 (bestM tol (sizes a) (sizes b) 0) := by
  have n8 := (isEv_iff.1 ha).1
  have m8 := (isEv_iff.1 hb).1
  have h := (mok_iff (Int.le_refl 0)).1 (bestM_ok (tol := tol) (t := sizes b) (s := sizes a) (f := 0)).1
  rw [List.drop_zero] at h
  refine ⟨by rw [bestM_length, sizes_length]; exact n8, fun p hp => ?_⟩
  obtain ⟨i, hi, rfl⟩ := List.getElem_of_mem hp
  rcases h.each i hi (by rwa [bestM_length] at hi) with k | ⟨k1, k2, _⟩
  · omega
  · rw [sizes_length] at k2; omega
theorem best_got {a b : List Ev} {tol : Int} : IBd 20 8 ((bestEB a b tol).getD []) ∧ ((bestEB a b tol).isSome = true → ((bestEB a b tol).getD []).length = a.length) := by
  unfold bestEB
  split
  · rename_i h
    obtain ⟨va, vb, _⟩ := argsOk_iff.1 h
    exact ⟨best_small va vb, fun _ => by simp only [Option.getD_some]; rw [bestM_length, sizes_length]⟩
  · exact ⟨⟨by simp, fun p hp => by simp at hp⟩, fun h => by simp at h⟩
end Go.Proofs.Ythhdpjkmjebjhac
