/- What the walks of the laws on merged records name. -/
import Derived.Test.YtkcbgeldnibjcaaLawR
import Derived.Test.YtkcbgeldnibjcaaSpecMerge
import Derived.Test.YtkcbgeldnibjcaaSameI
namespace Go.Proofs.Ytkcbgeldnibjcaa
open Go.RowKit

/-- Two lists, and whether there are any. -/
def MRes (w : World) (l a : List Int) (b : Bool) (e : Ending) (w' : World) : Prop := ∃ v u, e = .returned (.tuple #[v, u, .bool b]) ∧ IRow w' v l ∧ IRow w' u a ∧ Below w.heap.size w w'
theorem merge_yes {P : Program} {f : FuncId} {x : Array Value} {w : World} {o : Option (List Int × List Int)} {l a : List Int} (h : Calls P f x w fun e w' => MergeB w o e w') (ho : o = some (l, a)) : Calls P f x w fun e w' => MRes w l a true e w' := by
  subst ho
  exact h.mono fun e w' ⟨v, u, he, hw, hb⟩ => ⟨v, u, he, hw.fst.row, hw.snd.row, hb⟩
theorem merge_no {P : Program} {f : FuncId} {x : Array Value} {w : World} {o : Option (List Int × List Int)} (h : Calls P f x w fun e w' => MergeB w o e w') (ho : o = none) : Calls P f x w fun e w' => MRes w [] [] false e w' := by
  subst ho
  exact h.mono fun e w' ⟨v, u, he, hw, hb⟩ => ⟨v, u, he, hw.fst.row, hw.snd.row, hb⟩
theorem irow_two {w : World} {b : Nat} {p q : Int} (h0 : w.cell? ⟨b, 0, none⟩ = some (.int .i64 p)) (h1 : w.cell? ⟨b, 1, none⟩ = some (.int .i64 q)) : IRow w (.slice (some ⟨b, 0, none⟩) 2 2) [p, q] :=
  ⟨_, 2, 2, rfl, rfl, Nat.le_refl _, by unfold maxLen; omega, .inr ⟨b, 0, rfl, fun i hi => by
    match i, hi with
    | 0, _ => exact h0
    | 1, _ => exact h1⟩⟩
theorem irow_one {w : World} {b : Nat} {p : Int} (h0 : w.cell? ⟨b, 0, none⟩ = some (.int .i64 p)) : IRow w (.slice (some ⟨b, 0, none⟩) 1 1) [p] :=
  ⟨_, 1, 1, rfl, rfl, Nat.le_refl _, by unfold maxLen; omega, .inr ⟨b, 0, rfl, fun i hi => by
    match i, hi with
    | 0, _ => exact h0⟩⟩
theorem list_three {l : List Int} (h : l.length = 3) : ∃ x y z, l = [x, y, z] := by
  match l, h with
  | [x, y, z], _ => exact ⟨x, y, z, rfl⟩
theorem list_two {l : List Int} (h : l.length = 2) : ∃ x y, l = [x, y] := by
  match l, h with
  | [x, y], _ => exact ⟨x, y, rfl⟩
theorem merged_two {l a : List Int} (hl : l.length = a.length + 1) (h2 : a.length = 2) : mergedE l 0 = [l[0]'(by omega), l[2]'(by omega)] ∧ mergedA a 0 = [a[0]'(by omega) + a[1]'(by omega)] := by
  have h3 : l.length = 3 := by omega
  obtain ⟨p, q, rfl⟩ : ∃ p q, a = [p, q] := list_two h2
  obtain ⟨x, y, z, rfl⟩ : ∃ x y z, l = [x, y, z] := list_three h3
  exact ⟨rfl, rfl⟩
end Go.Proofs.Ytkcbgeldnibjcaa
