/- The ring of a row (the row, and behind it the row in the opposite order): plain mathematics, no program in it. -/
import Derived.Test.YthhdpjkmjebjhabSmoothLaw
namespace Go.Proofs.Ythhdpjkmjebjhab

/-- The row and behind it the row in the opposite order. -/
def round2 (l : List Int) : List Int := l ++ l.reverse
theorem round2_length (l : List Int) : (round2 l).length = 2 * l.length := by simp [round2]; omega
theorem round2_first {l : List Int} {i : Nat} (h : i < l.length) (h' : i < (round2 l).length) : (round2 l)[i] = l[i] := by
  simp only [round2]; rw [List.getElem_append_left h]
theorem round2_last {l : List Int} {i : Nat} (h : l.length ≤ i) (h' : i < (round2 l).length) : (round2 l)[i] = l[2 * l.length - 1 - i]'(by rw [round2_length] at h'; omega) := by
  have h2 := round2_length l
  simp only [round2]; rw [List.getElem_append_right h, List.getElem_reverse]
  congr 1; omega
/-- The forty numbers of the array. -/
def ringL (l : List Int) : List Int := round2 l ++ List.replicate (40 - 2 * l.length) 0
theorem ringL_length {l : List Int} (h : l.length ≤ 20) : (ringL l).length = 40 := by
  simp only [ringL, List.length_append, round2_length, List.length_replicate]; omega
theorem ringL_round {l : List Int} {i : Nat} (h : i < (round2 l).length) (h' : i < (ringL l).length) : (ringL l)[i] = (round2 l)[i] := by
  simp only [ringL]; rw [List.getElem_append_left h]
theorem ringL_rest {l m : List Int} (e : l.length = m.length) {i : Nat} (h : 2 * l.length ≤ i) (h1 : i < (ringL l).length) (h2 : i < (ringL m).length) : (ringL l)[i] = (ringL m)[i] := by
  simp only [ringL]
  rw [List.getElem_append_right (by rw [round2_length]; omega), List.getElem_append_right (by rw [round2_length]; omega)]
  simp
theorem ringL_first {l : List Int} {i : Nat} (h : i < l.length) (h' : i < (ringL l).length) : (ringL l)[i] = l[i] := by
  rw [ringL_round (by rw [round2_length]; omega), round2_first h]
/-- Both neighbors on the ring. -/
def aheadI (n i : Nat) : Nat := if i = 0 then 2 * n - 1 else i - 1
def behindI (n i : Nat) : Nat := if i + 1 = 2 * n then 0 else i + 1
theorem round2_pass {l : List Int} (h1 : 1 ≤ l.length) {i : Nat} (hi : i < 2 * l.length) :
    (round2 (pass l))[i]'(by rw [round2_length, pass_length]; exact hi) = (round2 l)[aheadI l.length i]'(by rw [round2_length]; unfold aheadI; split <;> omega) + 2 * (round2 l)[i]'(by rw [round2_length]; exact hi) + (round2 l)[behindI l.length i]'(by rw [round2_length]; unfold behindI; split <;> omega) := by
  by_cases c : i < l.length
  · rw [round2_first (by rw [pass_length]; exact c), pass_get, passAt_is c, round2_first c]
    have ea : (round2 l)[aheadI l.length i]'(by rw [round2_length]; unfold aheadI; split <;> omega) = l[i - 1]'(by omega) := by
      by_cases q : i = 0
      · have e0 : aheadI l.length i = 2 * l.length - 1 := by unfold aheadI; rw [if_pos q]
        simp only [e0]; rw [round2_last (by omega)]; congr 1; omega
      · have e0 : aheadI l.length i = i - 1 := by unfold aheadI; rw [if_neg q]
        simp only [e0]; rw [round2_first (by omega)]
    have eb : (round2 l)[behindI l.length i]'(by rw [round2_length]; unfold behindI; split <;> omega) = l[min (l.length - 1) (i + 1)]'(by omega) := by
      have e0 : behindI l.length i = i + 1 := by unfold behindI; rw [if_neg (by omega)]
      simp only [e0]
      by_cases d : i + 1 < l.length
      · rw [round2_first d]; congr 1; omega
      · rw [round2_last (by omega)]; congr 1; omega
    rw [ea, eb]
  · rw [round2_last (by rw [pass_length]; omega), pass_get, passAt_is (by rw [pass_length]; omega), round2_last (i := i) (by omega)]
    simp only [pass_length]
    have ea : (round2 l)[aheadI l.length i]'(by rw [round2_length]; unfold aheadI; split <;> omega) = l[min (l.length - 1) (2 * l.length - 1 - i + 1)]'(by omega) := by
      have e0 : aheadI l.length i = i - 1 := by unfold aheadI; rw [if_neg (by omega)]
      simp only [e0]
      by_cases d : i - 1 < l.length
      · rw [round2_first d]; congr 1; omega
      · rw [round2_last (by omega)]; congr 1; omega
    have eb : (round2 l)[behindI l.length i]'(by rw [round2_length]; unfold behindI; split <;> omega) = l[2 * l.length - 1 - i - 1]'(by omega) := by
      by_cases q : i + 1 = 2 * l.length
      · have e0 : behindI l.length i = 0 := by unfold behindI; rw [if_pos q]
        simp only [e0]; rw [round2_first (by omega)]; congr 1; omega
      · have e0 : behindI l.length i = i + 1 := by unfold behindI; rw [if_neg q]
        simp only [e0]; rw [round2_last (by omega)]; congr 1
    rw [ea, eb]; omega
theorem ringL_pass {l : List Int} (h1 : 1 ≤ l.length) (h20 : l.length ≤ 20) {i : Nat} (hi : i < 2 * l.length) :
    (ringL (pass l))[i]'(by rw [ringL_length (by rw [pass_length]; exact h20)]; omega) = (ringL l)[aheadI l.length i]'(by rw [ringL_length h20]; unfold aheadI; split <;> omega) + 2 * (ringL l)[i]'(by rw [ringL_length h20]; omega) + (ringL l)[behindI l.length i]'(by rw [ringL_length h20]; unfold behindI; split <;> omega) := by
  rw [ringL_round (by rw [round2_length, pass_length]; exact hi), round2_pass h1 hi]
  rw [ringL_round (i := aheadI l.length i) (by rw [round2_length]; unfold aheadI; split <;> omega), ringL_round (i := i) (by rw [round2_length]; exact hi), ringL_round (i := behindI l.length i) (by rw [round2_length]; unfold behindI; split <;> omega)]
theorem ringL_mem {l : List Int} {c : Int} (hc : ∀ x ∈ l, -c ≤ x ∧ x ≤ c) (c0 : 0 ≤ c) : ∀ x ∈ ringL l, -c ≤ x ∧ x ≤ c := by
  intro x hx
  simp only [ringL, round2, List.mem_append, List.mem_reverse, List.mem_replicate] at hx
  rcases hx with (h | h) | h
  · exact hc x h
  · exact hc x h
  · omega
/-- The ring in the course of a pass. -/
def mixL (l : List Int) (j : Nat) : List Int := (ringL (pass l)).take j ++ (ringL l).drop j
theorem mixL_zero (l : List Int) : mixL l 0 = ringL l := by simp [mixL]
theorem mixL_length {l : List Int} (h20 : l.length ≤ 20) (j : Nat) (hj : j ≤ 40) : (mixL l j).length = 40 := by
  simp only [mixL, List.length_append, List.length_take, List.length_drop, ringL_length h20, ringL_length (show (pass l).length ≤ 20 by rw [pass_length]; exact h20)]; omega
theorem mixL_set {l : List Int} (h20 : l.length ≤ 20) {j : Nat} (hj : j < 40) : (mixL l j).set j ((ringL (pass l))[j]'(by rw [ringL_length (by rw [pass_length]; exact h20)]; exact hj)) = mixL l (j + 1) := by
  have e1 := ringL_length h20
  have e2 := ringL_length (show (pass l).length ≤ 20 by rw [pass_length]; exact h20)
  have e3 : ((ringL (pass l)).take j).length = j := by rw [List.length_take]; omega
  simp only [mixL]
  rw [List.set_append_right _ _ (by omega)]
  simp only [e3, Nat.sub_self]
  rw [List.drop_eq_getElem_cons (show j < (ringL l).length by omega), List.set_cons_zero, List.take_succ_eq_append_getElem (show j < (ringL (pass l)).length by omega), List.append_assoc]; rfl
theorem mixL_done {l : List Int} (h20 : l.length ≤ 20) : mixL l (2 * l.length) = ringL (pass l) := by
  have e1 := ringL_length h20
  have e2 := ringL_length (show (pass l).length ≤ 20 by rw [pass_length]; exact h20)
  apply List.ext_getElem
  · rw [mixL_length h20 _ (by omega), e2]
  · intro i h1 h2
    simp only [mixL]
    by_cases c : i < 2 * l.length
    · rw [List.getElem_append_left (by rw [List.length_take]; omega), List.getElem_take]
    · rw [List.getElem_append_right (by rw [List.length_take]; omega), List.getElem_drop]
      have : 2 * l.length + (i - ((ringL (pass l)).take (2 * l.length)).length) = i := by rw [List.length_take]; omega
      simp only [this]
      exact ringL_rest (by rw [pass_length]) (by omega) _ _
end Go.Proofs.Ythhdpjkmjebjhab
