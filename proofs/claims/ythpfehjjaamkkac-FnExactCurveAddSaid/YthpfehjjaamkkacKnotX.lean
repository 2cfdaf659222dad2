/- The exact laws on curves: lengths; fractions as results. -/
import Derived.Test.YthpfehjjaamkkacKnotW
import Derived.Test.YthpfehjjaamkkacCurveLaw
import Derived.Test.YthpfehjjaamkkacCurveTurn
import Derived.Test.YthpfehjjaamkkacExact
namespace Go.Proofs.Ythpfehjjaamkkac
open Go.RowKit

theorem turn20 (l : List Pc) : ((turnOf l).getD []).length ≤ 1048576 := by
  unfold turnOf; split
  · rename_i h; have := isCurve_len h; simp; omega
  · simp
theorem lean20 (l : List Pc) : ((leanOf l).getD []).length ≤ 1048576 := by
  unfold leanOf; split
  · rename_i h; have := isCurve_len h; have := leanL_length l; simp; omega
  · simp
theorem add20 (k : Pc) (l : List Pc) : ((addOf k l).getD []).length ≤ 1048576 := by
  unfold addOf; split
  · rename_i h; have := isCurve_len h.2; simp; omega
  · simp
theorem Row.alloc {w : World} {v : Value} {l : List Pc} (h : Row w v l) (n d : Int) (t : TypeId) : Row (w.alloc (.cells #[.int .i64 n, .int .i64 d] t)) v l := h.grow ((Below.refl _ _).alloc (Nat.le_refl _) _)
theorem eqFrac_yes (n d : Int) (w : World) : Calls Try.prog 31 #[.agg #[.int .i64 n, .int .i64 d], .agg #[.int .i64 n, .int .i64 d]] w fun e w' => Val w (.bool true) e w' :=
  (eqFrac_any n d n d w).mono fun e w' h => ⟨by rw [h.1]; simp, h.2⟩
theorem sz_any (a : Option Addr) (n c : Nat) (x : Int) (h0 : 0 ≤ x) (h1 : x ≤ 1048576) (hn : n ≤ 9223372036854775807) (w : World) :
    Calls Try.prog 26 #[.slice a n c, .int .i64 x] w fun e w' => e = .returned (.int .i64 (if x - n < 0 then -1 else x - n)) ∧ w = w' := by
  by_cases h : x - (n : Int) < 0
  · have R : Hid ((if x - (n : Int) < 0 then (-1 : Int) else x - n) = -1) := Lib.hid (if_pos h)
    have e1 : IntKind.i64.wrap (x - (n : Int)) = x - n := IntWalk.i64_in _ (by omega)
    go_enter Try.func26, Try.ntmps26
    go_wp2
    go_ret
    exact ⟨by first | rfl | (rw [R.out]; rfl), rfl⟩
  · have R : Hid ((if x - (n : Int) < 0 then (-1 : Int) else x - n) = x - n) := Lib.hid (if_neg h)
    have e1 : IntKind.i64.wrap (x - (n : Int)) = x - n := IntWalk.i64_in _ (by omega)
    go_enter Try.func26, Try.ntmps26
    go_wp2
    go_ret
    exact ⟨by first | rfl | (rw [R.out]; rfl), rfl⟩
end Go.Proofs.Ythpfehjjaamkkac
