/- The exact laws of pieces: what the walks name. -/
import Derived.Test.YtdljfikgmhdedabExactM
import Derived.Test.YtdljfikgmhdedabExactI
namespace Go.Proofs.Ytdljfikgmhdedab
open Go.RowKit

theorem lst_own {P : Program} {f : FuncId} {a : Array Value} {w : World} {m m' : List Pc} (h : Calls P f a w fun e w' => Lst w m e w') (e : m = m') :
    Calls P f a w fun e w' => ∃ v, e = .returned v ∧ Owned w' w.heap.size w'.heap.size v m' ∧ Below w.heap.size w w' := by
  subst e; exact h.mono fun e w' ⟨v, h1, h2, h3⟩ => ⟨v, h1, h2.owned, h3⟩
theorem lstb_own {P : Program} {f : FuncId} {a : Array Value} {w : World} {o : Option (List Pc)} {m : List Pc} {b : Bool} (h : Calls P f a w fun e w' => LstB w o e w') (e : o.getD [] = m) (e2 : o.isSome = b) :
    Calls P f a w fun e w' => ∃ v, e = .returned (.tuple #[v, .bool b]) ∧ Owned w' w.heap.size w'.heap.size v m ∧ Below w.heap.size w w' := by
  subst e; subst e2; exact h.mono fun e w' ⟨v, h1, h2, h3⟩ => ⟨v, h1, h2.owned, h3⟩
theorem Owned.low {w : World} {L U B : Nat} {v : Value} {l : List Pc} (h : Owned w L U v l) (hB : B ≤ L) : ∀ k, v.ownBlock = some k → B ≤ k := fun k hk => by
  have := (h.1.lt k hk).1; omega

theorem gaps20 (l : List Pc) : (gapsOf l).length ≤ 1048576 := by
  unfold gapsOf; split
  · rename_i h; have := (isCore_iff.1 h).1; have := gaps_length_le l; omega
  · simp
theorem join20 (l : List Pc) : ((joinOf l).getD []).length ≤ 1048576 := by
  unfold joinOf; split
  · rename_i h; have := (isCore_iff.1 h).1; have := join_length_le l; simp; omega
  · simp
theorem cut20 (d : Int) (l : List Pc) : ((cutOf d l).getD []).length ≤ 1048576 := by
  unfold cutOf; split
  · rename_i h
    have := (isCore_iff.1 h.1).1
    cases hc : ct d l with
    | none => simp
    | some m => have := (ct_len hc).2; simp; omega
  · simp
theorem bt20 (t u : Int) (l : List Pc) : ((btOf t u l).getD []).length ≤ 1048576 := by
  unfold btOf; split
  · rename_i h; have := (isCore_iff.1 h.1).1; have := bt_length t u l; simp; omega
  · simp
end Go.Proofs.Ytdljfikgmhdedab
