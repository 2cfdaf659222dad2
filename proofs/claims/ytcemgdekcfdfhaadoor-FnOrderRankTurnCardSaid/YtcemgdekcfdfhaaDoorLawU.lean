/- What the walks of the laws on the parts of a text name. -/
import Derived.Test.YtcemgdekcfdfhaaDoorOrdR3
import Derived.Test.YtcemgdekcfdfhaaDoorLawP
import Derived.Test.YtcemgdekcfdfhaaDoorSameI
import Derived.Test.YtcemgdekcfdfhaaDoorOrdDraws2
namespace Go.Proofs.YtcemgdekcfdfhaaDoor
open Go.RowKit

variable {w : World} {L : List UInt8} {a b : List Int}
/-- Two lists of numbers that can be read, and true. -/
def GotU (w : World) (c : Bool) (a b : List Int) (e : Ending) (w' : World) : Prop := ∃ v u, e = .returned (.tuple #[v, u, .bool c]) ∧ IRow w' v a ∧ IRow w' u b ∧ Below w.heap.size w w'
theorem got_yes {P : Program} {f : FuncId} {x : Array Value} {o : Option (List Int × List Int)} (h : Calls P f x w fun e w' => PartsB w o e w') (ho : o = some (a, b)) : Calls P f x w fun e w' => GotU w true a b e w' := by
  subst ho
  refine h.mono ?_
  rintro e w' ⟨v, u, rfl, h1, h2, _, hb⟩
  exact ⟨v, u, rfl, h1.row, h2.row, hb⟩
theorem got_none {P : Program} {f : FuncId} {x : Array Value} {o : Option (List Int × List Int)} (h : Calls P f x w fun e w' => PartsB w o e w') (ho : o = none) : Calls P f x w fun e w' => GotU w false [] [] e w' := by
  subst ho
  refine h.mono ?_
  rintro e w' ⟨v, u, rfl, h1, h2, _, hb⟩
  exact ⟨v, u, rfl, h1.row, h2.row, hb⟩
theorem sums_flat (ts : List Tx) : (intA ts).sum + (intB ts).sum = (ts.flatten.length : Int) := by
  induction ts with
  | nil => rfl
  | cons t ts ih =>
    have := na_nb t
    simp only [intA, intB] at ih
    simp only [intA, intB, List.map_cons, List.sum_cons, List.flatten_cons, List.length_append]
    omega
theorem parts_facts (h : partsOf L = some (a, b)) : IsPar a b ∧ a.length = L.count 124 + 1 ∧ b.length = L.count 124 + 1 ∧ a.sum + b.sum + ((L.count 124 : Nat) : Int) = (L.length : Int) := by
  unfold partsOf at h
  cases c : sp L with
  | none => rw [c] at h; cases h
  | some ts =>
    rw [c] at h
    simp only at h
    split at h
    · rename_i k
      cases h
      have e1 := congrArg List.length (pcs_sp c)
      rw [pcs_length, List.length_map] at e1
      have e2 := parts_letters c
      have e3 := sums_flat ts
      exact ⟨isPar_iff.1 k, by simp [intA, e1], by simp [intB, e1], by omega⟩
    · cases h
theorem str_is2 (T : List UInt8) (p : Nat) (h : p < T.length) {c : UInt8} (hc : T[p] = c) (n : UInt8) : ((((str T)[p]'(by rw [str_size]; exact h)).toNat : Int) == (n.toNat : Int)) = decide (c = n) := by
  have e : (str T)[p]'(by rw [str_size]; exact h) = c := by rw [← hc]; rfl
  rw [e, Bool.eq_iff_iff, beq_iff_eq, decide_eq_true_eq]
  exact ⟨fun h => UInt8.toNat_inj.1 (by omega), fun h => by rw [h]⟩
theorem bars_next {T : List UInt8} {p : Nat} (h : p < T.length) : (T.take (p + 1)).count 124 = (T.take p).count 124 + (if T[p] = 124 then 1 else 0) := by
  rw [List.take_succ_eq_append_getElem h, List.count_append]
  simp [List.count_cons]
end Go.Proofs.YtcemgdekcfdfhaaDoor
