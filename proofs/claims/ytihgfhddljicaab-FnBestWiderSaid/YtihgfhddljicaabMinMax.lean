/- The least and the greatest number of a list of integers: the program's library. -/
import Derived.Test.YtihgfhddljicaabInts
import Derived.Test.YtihgfhddljicaabSmoothLaw
import Derived.Test.YtihgfhddljicaabRegion
namespace Go.Proofs.Ytihgfhddljicaab
open Go.RowKit

/-- The least and the greatest number of a list. -/
def Least (l : List Int) (r : Int) : Prop := r ∈ l ∧ ∀ x ∈ l, r ≤ x
def Most (l : List Int) (r : Int) : Prop := r ∈ l ∧ ∀ x ∈ l, x ≤ r
theorem least_one (a : Int) : Least [a] a := ⟨by simp, by simp⟩
theorem most_one (a : Int) : Most [a] a := ⟨by simp, by simp⟩
theorem Least.next {l : List Int} {r a r' : Int} (h : Least l r) (e : r' = if a < r then a else r) : Least (l ++ [a]) r' := by
  subst e
  split
  · refine ⟨by simp, fun x hx => ?_⟩
    rcases List.mem_append.1 hx with q | q
    · have := h.2 x q; omega
    · simp at q; omega
  · refine ⟨List.mem_append.2 (.inl h.1), fun x hx => ?_⟩
    rcases List.mem_append.1 hx with q | q
    · exact h.2 x q
    · simp at q; omega
theorem Most.next {l : List Int} {r a r' : Int} (h : Most l r) (e : r' = if r < a then a else r) : Most (l ++ [a]) r' := by
  subst e
  split
  · refine ⟨by simp, fun x hx => ?_⟩
    rcases List.mem_append.1 hx with q | q
    · have := h.2 x q; omega
    · simp at q; omega
  · refine ⟨List.mem_append.2 (.inl h.1), fun x hx => ?_⟩
    rcases List.mem_append.1 hx with q | q
    · exact h.2 x q
    · simp at q; omega
theorem take_snoc {l : List Int} {j : Nat} (hj : j < l.length) : l.take j ++ [l[j]] = l.take (j + 1) := (List.take_succ_eq_append_getElem hj).symm
theorem min_any {w : World} {v : Value} {l : List Int} (h : IRow w v l) (h0 : 0 < l.length) :
    Calls Try.prog 44 #[v] w fun e w' => ∃ r, e = .returned (.int .i64 r) ∧ Least l r ∧ w = w' := by
  obtain ⟨g, o, c, rfl, k1, k2⟩ := h.known h0
  unfold maxLen at k2
  have R := Lib.hid h
  have c0 : w.cell? ⟨g, o, none⟩ = some (.int .i64 l[0]) := h.cells 0 h0
  have e1 : decide ((l.length : Int) < 1) = false := by simp; omega
  have e2 : (0 : Int) < (l.length : Int) := by omega
  clear h
  go_enter Try.func44, Try.ntmps44
  go_wp2_with fail
  go_loopg [3, 4] l.length (fun k y x wr => ∃ (j : Nat) (p : Int), x = .int .i64 j ∧ y = .int .i64 p ∧ j + k = l.length + 1 ∧ 1 ≤ j ∧ j ≤ l.length ∧ Least (l.take j) p ∧ w = wr)
  case atStart => exact ⟨1, l[0], rfl, rfl, by omega, by omega, by omega, by rw [List.take_one, List.head?_eq_getElem?, List.getElem?_eq_getElem h0]; exact least_one _, rfl⟩
  case round =>
    obtain ⟨j, p, rfl, rfl, hk, hj1, hjl, hs, rfl⟩ := hrel
    have K := Lib.hid hk; have S := Lib.hid hs
    clear hk hs c0
    by_cases hlt : j < l.length
    · have d1 := R.out.cells j hlt
      have i1 : (j : Int) < (l.length : Int) := by omega
      have i2 : (0 : Int) ≤ (j : Int) := by omega
      by_cases q : l[j] < p
      · go_wp2_with fail
        go_roundg (gk - 1)
        case measure => have := K.out; omega
        case rel => exact ⟨j + 1, _, by go_num, rfl, by have := K.out; omega, by omega, hlt, by rw [← take_snoc hlt]; exact S.out.next (if_pos q).symm, rfl⟩
      · go_wp2_with fail
        go_roundg (gk - 1)
        case measure => have := K.out; omega
        case rel => exact ⟨j + 1, _, by go_num, rfl, by have := K.out; omega, by omega, hlt, by rw [← take_snoc hlt]; exact S.out.next (if_neg (by omega)).symm, rfl⟩
    · have hj : j = l.length := by omega
      have S1 : Hid (Least l p) := Lib.hid (by have := S.out; rwa [hj, List.take_length] at this)
      go_wp2_with fail
      go_ret
      exact ⟨p, rfl, S1.out, rfl⟩
theorem max_any {w : World} {v : Value} {l : List Int} (h : IRow w v l) (h0 : 0 < l.length) :
    Calls Try.prog 45 #[v] w fun e w' => ∃ r, e = .returned (.int .i64 r) ∧ Most l r ∧ w = w' := by
  obtain ⟨g, o, c, rfl, k1, k2⟩ := h.known h0
  unfold maxLen at k2
  have R := Lib.hid h
  have c0 : w.cell? ⟨g, o, none⟩ = some (.int .i64 l[0]) := h.cells 0 h0
  have e1 : decide ((l.length : Int) < 1) = false := by simp; omega
  have e2 : (0 : Int) < (l.length : Int) := by omega
  clear h
  go_enter Try.func45, Try.ntmps45
  go_wp2_with fail
  go_loopg [3, 4] l.length (fun k y x wr => ∃ (j : Nat) (p : Int), x = .int .i64 j ∧ y = .int .i64 p ∧ j + k = l.length + 1 ∧ 1 ≤ j ∧ j ≤ l.length ∧ Most (l.take j) p ∧ w = wr)
  case atStart => exact ⟨1, l[0], rfl, rfl, by omega, by omega, by omega, by rw [List.take_one, List.head?_eq_getElem?, List.getElem?_eq_getElem h0]; exact most_one _, rfl⟩
  case round =>
    obtain ⟨j, p, rfl, rfl, hk, hj1, hjl, hs, rfl⟩ := hrel
    have K := Lib.hid hk; have S := Lib.hid hs
    clear hk hs c0
    by_cases hlt : j < l.length
    · have d1 := R.out.cells j hlt
      have i1 : (j : Int) < (l.length : Int) := by omega
      have i2 : (0 : Int) ≤ (j : Int) := by omega
      by_cases q : p < l[j]
      · go_wp2_with fail
        go_roundg (gk - 1)
        case measure => have := K.out; omega
        case rel => exact ⟨j + 1, _, by go_num, rfl, by have := K.out; omega, by omega, hlt, by rw [← take_snoc hlt]; exact S.out.next (if_pos q).symm, rfl⟩
      · go_wp2_with fail
        go_roundg (gk - 1)
        case measure => have := K.out; omega
        case rel => exact ⟨j + 1, _, by go_num, rfl, by have := K.out; omega, by omega, hlt, by rw [← take_snoc hlt]; exact S.out.next (if_neg (by omega)).symm, rfl⟩
    · have hj : j = l.length := by omega
      have S1 : Hid (Most l p) := Lib.hid (by have := S.out; rwa [hj, List.take_length] at this)
      go_wp2_with fail
      go_ret
      exact ⟨p, rfl, S1.out, rfl⟩
theorem least_low {l : List Int} {r : Int} (h : Least l r) : r = lowL l := by
  have h1 : 1 ≤ l.length := List.length_pos_of_mem h.1
  have a := h.2 _ (low_mem h1)
  have b := (ends_all l r h.1).1
  omega
theorem most_high {l : List Int} {r : Int} (h : Most l r) : r = highL l := by
  have h1 : 1 ≤ l.length := List.length_pos_of_mem h.1
  have a := h.2 _ (high_mem h1)
  have b := (ends_all l r h.1).2
  omega
theorem low_any {w : World} {v : Value} {l : List Int} (h : IRow w v l) (h0 : 0 < l.length) : Calls Try.prog 44 #[v] w fun e w' => e = .returned (.int .i64 (lowL l)) ∧ w = w' :=
  (min_any h h0).mono fun e w' ⟨r, he, hr, hw⟩ => ⟨by rw [he, least_low hr], hw⟩
theorem high_any {w : World} {v : Value} {l : List Int} (h : IRow w v l) (h0 : 0 < l.length) : Calls Try.prog 45 #[v] w fun e w' => e = .returned (.int .i64 (highL l)) ∧ w = w' :=
  (max_any h h0).mono fun e w' ⟨r, he, hr, hw⟩ => ⟨by rw [he, most_high hr], hw⟩
theorem row_ends_iff {l : List Int} (h1 : 1 ≤ l.length) (h2 : l.length ≤ 20) : isRow l = (decide (-10000 ≤ lowL l) && decide (highL l ≤ 10000)) := by
  rw [Bool.eq_iff_iff, isRow_iff, Bool.and_eq_true, decide_eq_true_eq, decide_eq_true_eq]
  constructor
  · rintro ⟨_, _, h⟩
    exact ⟨(h _ (low_mem h1)).1, (h _ (high_mem h1)).2⟩
  · rintro ⟨a, b⟩
    exact ⟨h1, h2, fun x hx => by have := ends_all l x hx; omega⟩
end Go.Proofs.Ytihgfhddljicaab
