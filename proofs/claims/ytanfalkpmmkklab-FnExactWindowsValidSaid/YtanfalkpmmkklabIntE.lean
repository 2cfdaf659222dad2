/- The exact laws' own functions on lists of integers, and how such an argument is opened. -/
import Derived.Test.YtanfalkpmmkklabInts
import Derived.Test.YtanfalkpmmkklabRegion
import Derived.Deep.Slices
import Derived.Deep.Fields
namespace Go.Proofs.Ytanfalkpmmkklab
open Go.RowKit

theorem spot_none {w : World} {a : Addr} {u : Value} (h : w.cell? a = some u) : a.spot = none := by
  unfold World.cell? at h
  split at h
  · split at h
    · cases h
    · rename_i hs; simpa using hs
  · cases h
/-- A slice of integers that came in: a row. -/
theorem irow_of {w : World} {a : Option Addr} {len cap : Nat} {zs : List Int}
    (h : (a = none ∧ len = 0 ∧ cap = 0 ∧ zs = []) ∨
      ∃ x, a = some x ∧ len ≤ cap ∧ cap ≤ maxLen ∧ zs.length = cap ∧ (∀ i, i < zs.length → w.cell? (x.add i) = some (.int .i64 (zs.getD i 0))) ∧ ∀ n ∈ zs, (Lit.int .i64 n).wf = true) : ∃ l, IRow w (.slice a len cap) l ∧ l.length = len := by
  rcases h with ⟨rfl, rfl, rfl, _⟩ | ⟨x, rfl, h2, h3, h4, h5, _⟩
  · exact ⟨[], irow_empty none (Nat.zero_le _), rfl⟩
  · have hl : (zs.take len).length = len := by rw [List.length_take]; omega
    refine ⟨zs.take len, ⟨_, len, cap, rfl, hl, h2, h3, ?_⟩, hl⟩
    by_cases h0 : len = 0
    · left; rw [h0]; rfl
    · have hs := spot_none (h5 0 (by omega))
      obtain ⟨b, o, s⟩ := x
      simp [Addr.add] at hs
      subst hs
      refine .inr ⟨b, o, rfl, fun i hi => ?_⟩
      have hi' : i < len := by omega
      have := h5 i (by omega)
      rw [Addr.add_lit] at this
      rw [this, List.getElem_take, List.getD_eq_getElem?_getD, List.getElem?_eq_getElem (by omega)]; rfl
theorem fill_next1 {l : List Int} {i n : Nat} (hl : l.length = n) (hi : i < n) : (l.take i ++ List.replicate (n - i) (0 : Int)).set i l[i] = l.take (i + 1) ++ List.replicate (n - (i + 1)) 0 := by
  have h1 : (l.take i).length = i := by rw [List.length_take]; omega
  rw [List.set_append_right _ _ (by omega), h1, Nat.sub_self, show n - i = (n - (i + 1)) + 1 by omega, List.replicate_succ, List.set_cons_zero, List.take_succ_eq_append_getElem (i := i) (by omega), List.append_assoc]
  rfl
theorem itake_eq {l m : List Int} {j : Nat} (h : l.take j = m.take j) (hl : j < l.length) (hm : j < m.length) (e : l[j] = m[j]) : l.take (j + 1) = m.take (j + 1) := by
  rw [List.take_succ_eq_append_getElem hl, List.take_succ_eq_append_getElem hm, h, e]
end Go.Proofs.Ytanfalkpmmkklab
