/- What the loops on ties know step by step: plain mathematics, no program in it. -/
import Derived.Test.YthhdpjkmjebjhabTieLaw
namespace Go.Proofs.Ythhdpjkmjebjhab

theorem mg_left {a b : List Ti} {i k : Nat} (hi : i < a.length) (h : k = b.length ∨ ∃ hk : k < b.length, a[i].1 < b[k].1) : mgT (a.drop i) (b.drop k) = a[i] :: mgT (a.drop (i + 1)) (b.drop k) := by
  rw [List.drop_eq_getElem_cons hi]
  rcases h with rfl | ⟨hk, h⟩
  · rw [List.drop_length, mgT_nil', mgT_nil']
  · rw [List.drop_eq_getElem_cons hk, mgT_cons, if_pos h]
theorem mg_right {a b : List Ti} {i k : Nat} (hk : k < b.length) (h : i = a.length ∨ ∃ hi : i < a.length, ¬ a[i].1 < b[k].1 ∧ (b[k].1 < a[i].1 ∨ a[i] ≠ b[k])) : mgT (a.drop i) (b.drop k) = b[k] :: mgT (a.drop i) (b.drop (k + 1)) := by
  rw [List.drop_eq_getElem_cons hk]
  rcases h with rfl | ⟨hi, h1, h2⟩
  · rw [List.drop_length, mgT_nil, mgT_nil]
  · rw [List.drop_eq_getElem_cons hi, mgT_cons, if_neg h1, if_pos h2]
theorem mg_both {a b : List Ti} {i k : Nat} (hi : i < a.length) (hk : k < b.length) (h : a[i] = b[k]) : mgT (a.drop i) (b.drop k) = a[i] :: mgT (a.drop (i + 1)) (b.drop (k + 1)) := by
  rw [List.drop_eq_getElem_cons hi, List.drop_eq_getElem_cons hk, mgT_cons, if_neg (by rw [h]; omega), if_neg (by rw [h]; intro c; rcases c with c | c; omega; exact c rfl)]
theorem mg_end {a b : List Ti} {i k : Nat} (hi : i = a.length) (hk : k = b.length) : mgT (a.drop i) (b.drop k) = [] := by
  subst hi hk; rw [List.drop_length, List.drop_length, mgT_nil]
/-- What the test has seen: the first i ties are in range and ascend. -/
structure SeenT (l : List Ti) (i : Nat) : Prop where
  ok : ∀ k (hk : k < l.length), k < i → 0 ≤ l[k].1 ∧ l[k].1 ≤ 30000 ∧ 0 ≤ l[k].2 ∧ l[k].2 ≤ 30000
  up : ∀ k (hk : k + 1 < l.length), k + 1 < i → lt2 (l[k]'(by omega)) l[k + 1]
theorem seenT_start (l : List Ti) : SeenT l 0 := ⟨fun k _ h => by omega, fun k _ h => by omega⟩
theorem SeenT.next {l : List Ti} {i : Nat} (h : SeenT l i) (hi : i < l.length) (h1 : 0 ≤ l[i].1 ∧ l[i].1 ≤ 30000 ∧ 0 ≤ l[i].2 ∧ l[i].2 ≤ 30000) (hu : ∀ j (e : i = j + 1), lt2 (l[j]'(by omega)) l[i]) : SeenT l (i + 1) := by
  refine ⟨fun k hk hki => ?_, fun k hk hki => ?_⟩
  · by_cases e : k = i
    · subst e; exact h1
    · exact h.ok k hk (by omega)
  · by_cases e : i = k + 1
    · subst e; exact hu k rfl
    · exact h.up k hk (by omega)
theorem SeenT.all {l : List Ti} (h : SeenT l l.length) : ordT l = true := by
  simp only [ordT, Bool.and_eq_true, List.all_eq_true]
  refine ⟨fun p hp => ?_, upT_iff.2 fun i hi => h.up i hi hi⟩
  obtain ⟨i, hi, rfl⟩ := List.getElem_of_mem hp
  exact tieOk_iff.2 (h.ok i hi hi)
theorem ord_out {l : List Ti} {i : Nat} (hi : i < l.length) (h : ¬ (0 ≤ l[i].1 ∧ l[i].1 ≤ 30000 ∧ 0 ≤ l[i].2 ∧ l[i].2 ≤ 30000)) : ordT l = false := by
  cases hc : ordT l
  · rfl
  · exact absurd (tieOk_iff.1 ((ordT_iff.1 hc).ok _ (List.getElem_mem hi))) h
theorem ord_flat {l : List Ti} {i : Nat} (hi : i + 1 < l.length) (h : l[i + 1].1 ≤ l[i].1 ∨ l[i + 1].2 ≤ l[i].2) : ordT l = false := by
  cases hc : ordT l
  · rfl
  · have := (List.pairwise_iff_getElem.1 (ordT_iff.1 hc).up i (i + 1) (by omega) hi (by omega))
    rcases h with h | h
    · have := this.1; omega
    · have := this.2; omega
theorem ties_ord {l : List Ti} : isTies l = (ordT l && decide (l.length ≤ 12)) := rfl
/-- A loop that looks for what goes on from p: behind the first k of b. -/
theorem next_yes {p : Ti} {b : List Ti} {k : Nat} (hk : k < b.length) (h : p.2 = b[k].1) : nextT p (b.take (k + 1)) = nextT p (b.take k) ++ [(p.1, b[k].2)] := by
  unfold nextT
  rw [List.take_succ_eq_append_getElem hk, List.filterMap_append]
  congr 1
  simp only [List.filterMap_cons, List.filterMap_nil, if_pos h]
theorem next_no {p : Ti} {b : List Ti} {k : Nat} (hk : k < b.length) (h : p.2 ≠ b[k].1) : nextT p (b.take (k + 1)) = nextT p (b.take k) := by
  unfold nextT
  rw [List.take_succ_eq_append_getElem hk, List.filterMap_append]
  simp only [List.filterMap_cons, List.filterMap_nil, if_neg h, List.append_nil]
theorem thr_step {a b : List Ti} {i : Nat} (hi : i < a.length) : thr (a.take (i + 1)) b = thr (a.take i) b ++ nextT a[i] b := by
  rw [List.take_succ_eq_append_getElem hi, thr_append, thr_cons]; simp [thr]
end Go.Proofs.Ythhdpjkmjebjhab
