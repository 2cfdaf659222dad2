/- What the listed package-level variables give to the walks, and that a call's own memory does not turn it. -/
import Derived.Test.YtahiidepegdnmabDoorShelf
import Derived.Test.YtahiidepegdnmabDoorDec
import Derived.WalkSmall
import Derived.Lib.LaidTab
import Derived.Stop.LaidErr
namespace Go.Proofs.YtahiidepegdnmabDoor
open Go.RowKit

theorem gTab : Tryd.prog.globalNamed "internal/strconv.uint64pow10" = some 0 := by kernel_rfl
theorem gTabType : (Tryd.prog.globals[0]?).map (·.type) = some 55 := by kernel_rfl
theorem tabCells : Tryd.prog.cellsOf 55 = 20 := by kernel_rfl
theorem u64Cells : Tryd.prog.cellsOf 49 = 1 := by kernel_rfl
/-- The table of the powers of ten is as the program's text lays it. -/
def Tab (w : World) : Prop := Lib.TabIs Tryd.prog w "internal/strconv.uint64pow10" .u64 Lib.pow10Tab
theorem tab_of {w : World} {r : List (String × DataW Unit)} (h : laidMet Tryd.prog (("math/bits.deBruijn32tab", Rows.laid_math_bits_deBruijn32tab) :: ("math/bits.deBruijn64tab", Rows.laid_math_bits_deBruijn64tab) :: ("internal/strconv.uint64pow10", Rows.laid_internal_strconv_uint64pow10) :: r) w) : Tab w :=
  Lib.tabIs_of_head (zs := Lib.pow10Tab) gTab gTabType Tryd.underlying55 Tryd.underlying49 u64Cells tabCells h.tail.tail
theorem Tab.lt {w : World} (h : Tab w) : 0 < w.heap.size := World.block_lt_of_cell? w _ (h.cell gTab 0 (by decide))
theorem Tab.next {w w' : World} (h : Tab w) (k : Below w.heap.size w w') : Tab w' := var?_below k gTab h.lt h
theorem Tab.drew {w : World} (h : Tab w) (n : Nat) : Tab (w.drewN n) := h.next (below_drewN (Below.refl _ _) n)

/-- The library's text of a number. -/
theorem Itoa_any (n : Int) (w : World) (h : Tab w) (h0 : -9223372036854775808 ≤ n) (h1 : n ≤ 9223372036854775807) :
    Calls Tryd.prog 10 #[.int .i64 n] w fun e w' => Texted (itoa n) w w' e := by
  refine (Tryd.strconv_Itoa n h0 h1 w h).mono fun e w' k => ?_
  obtain ⟨he, c, os, hw⟩ := k
  subst hw
  refine ⟨he, (below_drewN (Below.refl _ w) c).trans ⟨rfl, rfl, rfl, by simp [Sort.grow], fun i hi => ?_⟩⟩
  show (w.heap ++ os)[i]? = w.heap[i]?
  rw [Array.getElem?_append_left hi]
end Go.Proofs.YtahiidepegdnmabDoor
