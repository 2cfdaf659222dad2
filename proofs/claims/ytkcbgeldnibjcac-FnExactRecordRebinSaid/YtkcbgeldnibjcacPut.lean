/- A store of a fraction into a block of the law's own. -/
import Derived.Test.YtkcbgeldnibjcacHolds
namespace Go.Proofs.Ytkcbgeldnibjcac
open Go.RowKit

def Apart (k : Nat) : List (Nat × Int × Int) → Prop
  | [] => True
  | (j, _, _) :: l => j ≠ k ∧ Apart k l
theorem Holds.put {w : World} {k : Nat} (x y : Value) : ∀ {l : List (Nat × Int × Int)}, Holds w l → Apart k l → Holds ((w.setCell ⟨k, 0, none⟩ x).setCell ⟨k, 1, none⟩ y) l
  | [], _, _ => trivial
  | (j, _, _) :: _, ⟨⟨c0, c1, f0, f1, hk⟩, h⟩, ⟨hj, ha⟩ =>
    ⟨⟨by rw [World.cell?_setCell_other _ _ _ _ (fun e => hj (congrArg Addr.block e).symm), World.cell?_setCell_other _ _ _ _ (fun e => hj (congrArg Addr.block e).symm)]; exact c0,
      by rw [World.cell?_setCell_other _ _ _ _ (fun e => hj (congrArg Addr.block e).symm), World.cell?_setCell_other _ _ _ _ (fun e => hj (congrArg Addr.block e).symm)]; exact c1,
      by rw [World.frozen?_setCell, World.frozen?_setCell]; exact f0, by rw [World.frozen?_setCell, World.frozen?_setCell]; exact f1, by simpa [World.setCell] using hk⟩, Holds.put x y h ha⟩
theorem St.put2 {w0 w : World} {l : List (Nat × Int × Int)} {k : Nat} {n d : Int} (h : St w0 w ((k, n, d) :: l)) (hk : w0.heap.size ≤ k) (ha : Apart k l) (x y : Int) :
    St w0 ((w.setCell ⟨k, 0, none⟩ (.int .i64 x)).setCell ⟨k, 1, none⟩ (.int .i64 y)) ((k, x, y) :: l) := by
  obtain ⟨b, ⟨⟨c0, c1, f0, f1, hl⟩, hh⟩⟩ := h
  refine ⟨(b.setCell (p := ⟨k, 0, none⟩) hk _).setCell (p := ⟨k, 1, none⟩) hk _, ⟨?_, ?_, ?_, ?_, ?_⟩, hh.put _ _ ha⟩
  · rw [World.cell?_setCell_other _ _ _ _ (by simp), World.cell?_setCell_same _ _ _ c0]
  · rw [World.cell?_setCell_same _ _ _ (by rw [World.cell?_setCell_other _ _ _ _ (by simp)]; exact c1)]
  · rw [World.frozen?_setCell, World.frozen?_setCell]; exact f0
  · rw [World.frozen?_setCell, World.frozen?_setCell]; exact f1
  · simpa [World.setCell] using hl
end Go.Proofs.Ytkcbgeldnibjcac
