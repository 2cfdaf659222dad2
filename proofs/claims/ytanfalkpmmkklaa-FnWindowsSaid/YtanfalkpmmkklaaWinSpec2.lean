/- The contracts of the model's functions on windows, second part: tight windows. -/
import Derived.Test.YtanfalkpmmkklaaWinSpec
import Derived.Test.YtanfalkpmmkklaaWinMix
import Derived.Test.YtanfalkpmmkklaaLate
namespace Go.Proofs.Ytanfalkpmmkklaa
open Go.RowKit

theorem wl_new (w1 : World) {w : World} (k : Below w.heap.size w w1) : Hid (Own WT (w1.alloc (.cells #[] WT)) w.heap.size (.slice (some ⟨w1.heap.size, 0, none⟩) 0 0) [] ∧ Below w.heap.size w (w1.alloc (.cells #[] WT))) := Lib.hid ⟨own_new WT k.size, k.alloc k.size _⟩
theorem set_own {w w' : World} {g i : Nat} {x y : Int} {B : Nat} (h : Below B w w') (hg : B ≤ g) : Below B w ((w'.setCell ⟨g, i, none⟩ (.int .i64 x)).setCell ⟨g, i + 1, none⟩ (.int .i64 y)) :=
  (h.setCell (p := ⟨g, i, none⟩) hg _).setCell (p := ⟨g, i + 1, none⟩) hg _
end Go.Proofs.Ytanfalkpmmkklaa
