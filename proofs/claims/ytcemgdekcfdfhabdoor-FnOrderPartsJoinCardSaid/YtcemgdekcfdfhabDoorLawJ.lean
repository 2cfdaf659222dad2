/- What the walk of the law on joined parts names. -/
import Derived.Test.YtcemgdekcfdfhabDoorLawU
namespace Go.Proofs.YtcemgdekcfdfhabDoor
open Go.RowKit

theorem sp_join {t : List UInt8} {ts : List Tx} (h : sp t = some ts) : sp (t ++ [124, 97]) = some (ts ++ [[false]]) := by
  have h1 := sp_bar h
  have h2 := sp_letter (t := []) h1 false
  rw [List.append_assoc] at h2
  exact h2
theorem join_parts {t : List UInt8} {a b : List Int} (h : partsOf t = some (a, b)) : (a.length = 4 → partsOf (t ++ [124, 97]) = none) ∧ (a.length ≠ 4 → partsOf (t ++ [124, 97]) = some (a ++ [1], b ++ [0])) := by
  unfold partsOf at h
  cases c : sp t with
  | none => rw [c] at h; cases h
  | some ts =>
    rw [c] at h
    simp only at h
    split at h
    · rename_i k
      cases h
      have w := isPar_iff.1 k
      have ea : intA (ts ++ [[false]]) = intA ts ++ [1] := by simp [intA, na]
      have eb : intB (ts ++ [[false]]) = intB ts ++ [0] := by simp [intB, nb]
      have al : (intA ts ++ [1]).length = (intA ts).length + 1 := by simp
      refine ⟨fun h4 => ?_, fun h4 => ?_⟩
      · unfold partsOf
        rw [sp_join c]
        simp only
        rw [if_neg]
        intro q
        have := (isPar_iff.1 q).most
        rw [ea, al] at this
        omega
      · have q : isPar (intA ts ++ [1]) (intB ts ++ [0]) = true := isPar_iff.2 ⟨by rw [al]; omega, by rw [al]; have := w.most; omega, by simp [intA, intB], fun i hi => by
            rw [List.getElem_append]
            split
            · exact w.a6 i (by assumption)
            · simp, fun i hi => by
            rw [List.getElem_append]
            split
            · exact w.b6 i (by assumption)
            · simp⟩
        rw [parts_of_sp (sp_join c) (by rw [ea, eb]; exact q), ea, eb]
    · cases h
theorem irow_front {w : World} {g o n c : Nat} {l m : List Int} (h : IRow w (.slice (some ⟨g, o, none⟩) n c) (l ++ m)) (k : Nat) (hk : k = l.length) : IRow w (.slice (some ⟨g, o, none⟩) k c) l := by
  have q := h.take k (by simp; omega)
  subst hk
  rwa [List.take_left] at q
theorem irow_last {w : World} {g o n c : Nat} {l : List Int} {x : Int} (h : IRow w (.slice (some ⟨g, o, none⟩) n c) (l ++ [x])) (k : Nat) (hk : k = l.length) : w.cell? ⟨g, o + k, none⟩ = some (.int .i64 x) := by
  have q := h.cells k (by simp; omega)
  subst hk
  simpa using q
end Go.Proofs.YtcemgdekcfdfhabDoor
