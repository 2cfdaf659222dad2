/- Tables that are filled from their end: plain mathematics, no program in it. -/
import Derived.Test.YtihgfhddljicaabCutBest
namespace Go.Proofs.Ytihgfhddljicaab

/-- A table of n + 1 entries of which those from m on are f's, and the others z. -/
structure Tab {V : Type} (z : V) (f : Nat → V) (n m : Nat) (L : List V) : Prop where
  len : L.length = n + 1
  done : ∀ i (hi : i < L.length), m ≤ i → L[i] = f i
  rest : ∀ i (hi : i < L.length), i < m → L[i] = z
/-- .. of which those behind m are f's, that at m is v, and the others z. -/
structure Tab1 {V : Type} (z : V) (f : Nat → V) (n m : Nat) (v : V) (L : List V) : Prop where
  len : L.length = n + 1
  done : ∀ i (hi : i < L.length), m < i → L[i] = f i
  here : ∀ hi : m < L.length, L[m] = v
  rest : ∀ i (hi : i < L.length), i < m → L[i] = z
variable {V : Type} {z v : V} {f : Nat → V} {n m : Nat} {L : List V}
theorem Tab.open (h : Tab z f n (m + 1) L) : Tab1 z f n m z L :=
  ⟨h.len, fun i hi k => h.done i hi k, fun hi => h.rest m hi (Nat.lt_succ_self m), fun i hi k => h.rest i hi (by omega)⟩
theorem Tab1.put (h : Tab1 z f n m v L) (u : V) : Tab1 z f n m u (L.set m u) :=
  ⟨by rw [List.length_set]; exact h.len, fun i hi k => by rw [List.getElem_set_ne (by omega)]; exact h.done i (by simpa using hi) k,
    fun hi => by rw [List.getElem_set_self], fun i hi k => by rw [List.getElem_set_ne (by omega)]; exact h.rest i (by simpa using hi) k⟩
theorem Tab1.shut (h : Tab1 z f n m v L) (e : v = f m) : Tab z f n m L :=
  ⟨h.len, fun i hi k => by
    by_cases c : i = m
    · subst c; rw [h.here hi, e]
    · exact h.done i hi (by omega), h.rest⟩
theorem tab_new (z : V) (f : Nat → V) (n : Nat) : Tab1 z f n n z (List.replicate (n + 1) z) :=
  ⟨by simp, fun i hi k => by simp at hi; omega, fun hi => by simp, fun i hi k => by simp⟩
theorem Tab.all (h : Tab z f n 0 L) : L = (List.range (n + 1)).map f := by
  apply List.ext_getElem
  · rw [h.len]; simp
  · intro i h1 h2
    rw [h.done i h1 (Nat.zero_le i)]; simp
/-- What is written of an entry: the least cost, or -1. -/
def costV (e : Ent) : Int := match e with
  | none => -1
  | some p => p.2
def bestL (a b : Nat) (c : List Int) : List Int := (List.range (c.length + 1)).map fun i => costV (best a b (c.drop i))
theorem bestL_length (a b : Nat) (c : List Int) : (bestL a b c).length = c.length + 1 := by simp [bestL]
theorem bestL_get {a b : Nat} {c : List Int} {i : Nat} (h : i < (bestL a b c).length) : (bestL a b c)[i] = costV (best a b (c.drop i)) := by simp [bestL]
/-- The place of a distance behind k, and whether it is looked at. -/
theorem dist_in {a b k n i : Nat} (h1 : 1 ≤ a) (h : i < dists a b (n - k)) : a + i ≤ b ∧ k + (a + i) ≤ n := by unfold dists at h; omega
theorem dist_out {a b k n i : Nat} (hk : k < n) (h : i = dists a b (n - k)) : b < a + i ∨ (a + i ≤ b ∧ n < k + (a + i)) := by unfold dists at h; omega
theorem bestP_all {a b : Nat} {c : List Int} {k n : Nat} (h1 : 1 ≤ a) (hn : c.length = n) (hk : k < n) : bestP a b (c.drop k) (dists a b (n - k)) = best a b (c.drop k) := by
  have := best_cons (b := b) h1 (cs := c.drop k) (by simp; omega)
  rw [this, List.length_drop, hn]
theorem bestP_next (a b : Nat) (c : List Int) (k i : Nat) (h1 : 1 ≤ a) : bestP a b (c.drop k) (i + 1) = gath (bestP a b (c.drop k) i) (a + i) (c.getD (k + (a + i) - 1) 0) (best a b (c.drop (k + (a + i)))) := by
  simp only [bestP]
  rw [drop_getD, List.drop_drop]
  congr 2; omega
/-- Every entry's cost is within bounds. -/
theorem ent_bound {a b : Nat} (h1 : 1 ≤ a) {c : List Int} (hs : isSig c = true) {k : Nat} {p : Nat × Int} (hp : best a b (c.drop k) = some p) : 0 ≤ p.2 ∧ p.2 ≤ 16000 := by
  obtain ⟨s1, s2, s3⟩ := isSig_iff.1 hs
  have := best_bound h1 (fun x hx => s3 x (List.mem_of_mem_drop hx)) hp
  simp at this; omega
theorem entP_bound {a b : Nat} (h1 : 1 ≤ a) {c : List Int} (hs : isSig c = true) {k i : Nat} (hi : i ≤ dists a b (c.length - k)) {p : Nat × Int} (hp : bestP a b (c.drop k) i = some p) : a ≤ p.1 ∧ p.1 < a + i ∧ 0 ≤ p.2 ∧ p.2 ≤ 16000 := by
  obtain ⟨s1, s2, s3⟩ := isSig_iff.1 hs
  have := bestP_bound h1 (fun x hx => s3 x (List.mem_of_mem_drop hx)) (by simpa using hi) hp
  simp at this; omega
theorem sig_get {c : List Int} (hs : isSig c = true) {i : Nat} (hi : i < c.length) : 0 ≤ c[i] ∧ c[i] ≤ 1000 := (isSig_iff.1 hs).2.2 _ (List.getElem_mem hi)
theorem getD_nat {c : List Int} {i : Nat} (hi : i < c.length) : c.getD i 0 = c[i] := by
  rw [List.getD_eq_getElem?_getD, List.getElem?_eq_getElem hi]; rfl
/-- A list of the call's own, or none: what bestB says. -/
theorem bestB_eq {c : List Int} {a b : Nat} (hs : isSig c = true) (h1 : 1 ≤ a) (h2 : a ≤ b) (h3 : b ≤ 16) {e : Ent} (he : best a b c = e) : bestB c a b = e.map fun _ => tl a b c 0 := by
  rw [bestB_nat hs h1 h2 h3, he]
end Go.Proofs.Ytihgfhddljicaab
