/- The exact laws on the parts of a text and on its rank: what their walks name. -/
import Derived.Test.YtcemgdekcfdfhacDoorIntM
import Derived.Test.YtcemgdekcfdfhacDoorOrdR5
import Derived.Test.YtcemgdekcfdfhacDoorOrdRank
namespace Go.Proofs.YtcemgdekcfdfhacDoor
open Go.RowKit

variable {P : Program} {f : FuncId} {x : Array Value} {w : World}
theorem str_all (s : ByteArray) : ∃ L, s = str L ∧ s.size = L.length := ⟨s.data.toList, by unfold str; simp, by rw [Array.length_toList]; rfl⟩
theorem rval_gen {r z : Int} (h : Calls P f x w fun e w' => Val w (.int .i64 r) e w') (h1 : r = z) : Calls P f x w fun e w' => e = .returned (.int .i64 z) ∧ Below w.heap.size w w' := by
  subst h1; exact h
def TwoB (w : World) (m n : List Int) (b : Bool) (e : Ending) (w' : World) : Prop := ∃ v u, e = .returned (.tuple #[v, u, .bool b]) ∧ IOwn w' w.heap.size v m ∧ IOwn w' w.heap.size u n ∧ Apt v u ∧ Below w.heap.size w w'
theorem oparts_gen {o : Option (List Int × List Int)} {m n : List Int} {b : Bool} (h : Calls P f x w fun e w' => PartsB w o e w') (h1 : (o.map Prod.fst).getD [] = m) (h2 : (o.map Prod.snd).getD [] = n) (h3 : o.isSome = b) :
    Calls P f x w fun e w' => TwoB w m n b e w' := by
  subst h1 h2 h3; exact h
theorem parts_len {L : List UInt8} {m n : List Int} (h1 : ((partsOf L).map Prod.fst).getD [] = m) (h2 : ((partsOf L).map Prod.snd).getD [] = n) : m.length ≤ 4 ∧ n.length ≤ 4 := by
  cases c : partsOf L with
  | none => rw [c] at h1 h2; subst h1 h2; exact ⟨by decide, by decide⟩
  | some ab =>
    rw [c] at h1 h2; subst h1 h2
    unfold partsOf at c
    cases d : sp L with
    | none => rw [d] at c; cases c
    | some ts =>
      rw [d] at c
      simp only at c
      split at c
      · rename_i k
        cases c
        have w := isPar_iff.1 k
        exact ⟨w.most, by show (intB ts).length ≤ 4; have := w.len; have := w.most; omega⟩
      · cases c
end Go.Proofs.YtcemgdekcfdfhacDoor
