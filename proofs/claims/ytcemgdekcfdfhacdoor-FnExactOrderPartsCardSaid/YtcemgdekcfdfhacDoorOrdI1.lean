/- The program's small functions on parts: which numbers are parts, where a layer is, the parts of two lists. -/
import Derived.Test.YtcemgdekcfdfhacDoorOrdTab
import Derived.Test.YtcemgdekcfdfhacDoorOrdFind
import Derived.Test.YtcemgdekcfdfhacDoorGrwP
import Derived.Test.YtcemgdekcfdfhacDoorTwoGrow
namespace Go.Proofs.YtcemgdekcfdfhacDoor
open Go.RowKit

def okPt (p : Pc) : Bool := parB p.1 && parB p.2
theorem okPt_parts (x y : Int) : okPt (x, y) = (decide (0 ≤ x) && (decide (x ≤ 6) && (decide (0 ≤ y) && decide (y ≤ 6)))) := by
  rw [Bool.eq_iff_iff, okPt]; simp only [Bool.and_eq_true, decide_eq_true_eq, parB_iff]; omega
theorem partValid_any (p : Pc) (w : World) :
    Calls Tryd.prog 26 #[.agg #[.int .i64 p.1, .int .i64 p.2]] w fun e w' => e = .returned (.bool (okPt p)) ∧ Below w.heap.size w w' := by
  obtain ⟨x, y⟩ := p
  have R := Lib.hid (okPt_parts x y)
  by_cases h1 : (0 : Int) ≤ x
  · by_cases h2 : x ≤ 6
    · by_cases h3 : (0 : Int) ≤ y
      · by_cases h4 : y ≤ 6
        · go_enter Tryd.func26, Tryd.ntmps26
          go_wp2_with fail
          go_returns
          exact ⟨by rw [R.out, decide_eq_true h1, decide_eq_true h2, decide_eq_true h3, decide_eq_true h4]; rfl, by go_grown⟩
        · go_enter Tryd.func26, Tryd.ntmps26
          go_wp2_with fail
          go_returns
          exact ⟨by rw [R.out, decide_eq_true h1, decide_eq_true h2, decide_eq_true h3, decide_eq_false (show ¬ y ≤ 6 by omega)]; rfl, by go_grown⟩
      · go_enter Tryd.func26, Tryd.ntmps26
        go_wp2_with fail
        go_returns
        exact ⟨by rw [R.out, decide_eq_true h1, decide_eq_true h2, decide_eq_false (show ¬ (0 : Int) ≤ y by omega)]; rfl, by go_grown⟩
    · go_enter Tryd.func26, Tryd.ntmps26
      go_wp2_with fail
      go_returns
      exact ⟨by rw [R.out, decide_eq_true h1, decide_eq_false (show ¬ x ≤ 6 by omega)]; rfl, by go_grown⟩
  · go_enter Tryd.func26, Tryd.ntmps26
    go_wp2_with fail
    go_returns
    exact ⟨by rw [R.out, decide_eq_false (show ¬ (0 : Int) ≤ x by omega)]; rfl, by go_grown⟩
theorem partValid_is {p : Pc} {b : Bool} (h : okPt p = b) (w : World) :
    Calls Tryd.prog 26 #[.agg #[.int .i64 p.1, .int .i64 p.2]] w fun e w' => e = .returned (.bool b) ∧ Below w.heap.size w w' := by
  subst h; exact partValid_any p w
/-- What placeOf answers. -/
def plcV (o : Option (Nat × Int)) : Value := match o with
  | some (p, x) => .tuple #[.int .i64 p, .int .i64 x, .bool true]
  | none => .tuple #[.int .i64 0, .int .i64 0, .bool false]
theorem prtT : PairT 34 30 := ⟨by kernel_rfl, Tryd.underlying30⟩
/-- The parts of two lists, and whether there are any. -/
def PrtB (w : World) (c : Bool) (l : List Pc) (e : Ending) (w' : World) : Prop :=
  ∃ v, e = .returned (.tuple #[v, .bool c]) ∧ (c = true → Row w' v l) ∧ (c = false → v = .slice none 0 0) ∧ Below w.heap.size w w'
theorem zip_get (a b : List Int) (i : Nat) (h : i < (a.zip b).length) (h1 : i < a.length) (h2 : i < b.length) : (a.zip b)[i] = (a[i], b[i]) := by simp
end Go.Proofs.YtcemgdekcfdfhacDoor
