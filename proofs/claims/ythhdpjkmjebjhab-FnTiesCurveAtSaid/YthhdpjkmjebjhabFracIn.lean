/- How the program holds fractions inside: whole ones and broken ones. -/
import Derived.Test.YthhdpjkmjebjhabFrac
namespace Go.Proofs.Ythhdpjkmjebjhab
open Go.RowKit

/-- A fraction as the program holds it inside: nothing, a whole one or a broken one. -/
def inside (n d : Int) : Value := bif fv n d then (bif d == 1 then .iface 136 (.int .i64 n) else .iface 138 (.agg #[.int .i64 n, .int .i64 d])) else .nilIface
theorem rationalOf_any (n d : Int) (w : World) :
    Calls Try.prog 91 #[.agg #[.int .i64 n, .int .i64 d]] w fun e w' => e = .returned (inside n d) ∧ Below w.heap.size w w' := by
  cases hf : fv n d
  · go_enter Try.func91, Try.ntmps91
    go_wp2_with fail
    refine (implFracValid_any _ _ _).mono ?_
    rintro e w1 ⟨rfl, b1⟩
    go_wp2
    go_ret
    exact ⟨by simp [inside, hf], by refine Below.trans ?_ (b1.mono (by simp)); go_grown⟩
  · cases hd : (d == 1)
    · go_enter Try.func91, Try.ntmps91
      go_wp2_with fail
      refine (implFracValid_any _ _ _).mono ?_
      rintro e w1 ⟨rfl, b1⟩
      obtain ⟨c0, c1, c2, c3⟩ := below_two w.heap.size (.int .i64 n) (.int .i64 d) b1 (by simp) (by simp) (by simp) (by simp)
      go_wp2
      go_ret
      exact ⟨by simp [inside, hf, hd], by refine Below.trans ?_ (b1.mono (by simp)); go_grown⟩
    · go_enter Try.func91, Try.ntmps91
      go_wp2_with fail
      refine (implFracValid_any _ _ _).mono ?_
      rintro e w1 ⟨rfl, b1⟩
      obtain ⟨c0, c1, c2, c3⟩ := below_two w.heap.size (.int .i64 n) (.int .i64 d) b1 (by simp) (by simp) (by simp) (by simp)
      go_wp2
      go_ret
      exact ⟨by simp [inside, hf, hd], by refine Below.trans ?_ (b1.mono (by simp)); go_grown⟩
theorem inside_ways (n d : Int) : (fv n d = false ∧ inside n d = .nilIface) ∨ (fv n d = true ∧ ∃ T v, inside n d = .iface T v) := by
  unfold inside
  cases fv n d
  · exact .inl ⟨rfl, rfl⟩
  · cases (d == 1)
    · exact .inr ⟨rfl, _, _, rfl⟩
    · exact .inr ⟨rfl, _, _, rfl⟩
set_option maxHeartbeats 1000000 in
theorem rationalsOf_any (a b c d : Int) (w : World) :
    Calls Try.prog 80 #[.agg #[.int .i64 a, .int .i64 b], .agg #[.int .i64 c, .int .i64 d]] w fun e w' =>
      e = .returned (.tuple #[inside a b, inside c d, .bool (fv a b && fv c d)]) ∧ Below w.heap.size w w' := by
  go_enter Try.func80, Try.ntmps80
  go_wp2
  go_region_with (go_at_call 91; refine (rationalOf_any _ _ _).mono ?_; rintro e w1 ⟨rfl, b1⟩; have bb : Below w.heap.size w w1 := Below.trans (by go_grown) (b1.mono (by go_size)); have hs := bb.size; try obtain ⟨c4, c5, c6, c7⟩ := below_two (w.heap.size + 1) (.int .i64 c) (.int .i64 d) b1 (by first | assumption | simp) (by first | assumption | simp) (by first | assumption | simp) (by first | assumption | simp))
  all_goals
    go_wp2
    rcases inside_ways a b with ⟨f1, i1⟩ | ⟨f1, T1, v1, i1⟩
    · go_quiet (fail)
      go_wp2
      go_returns
      exact ⟨by simp [i1, f1], below_drewN (by go_grown)⟩
    · rcases inside_ways c d with ⟨f2, i2⟩ | ⟨f2, T2, v2, i2⟩
      · go_quiet (fail)
        go_wp2
        go_returns
        exact ⟨by simp [i1, i2, f1, f2], below_drewN (by go_grown)⟩
      · go_quiet (fail)
        go_wp2
        go_returns
        exact ⟨by simp [i1, i2, f1, f2], below_drewN (by go_grown)⟩
theorem inside_known {n d : Int} (h : fv n d = true) : (d = 1 ∧ inside n d = .iface 136 (.int .i64 n)) ∨ (inside n d = .iface 138 (.agg #[.int .i64 n, .int .i64 d])) := by
  unfold inside
  rw [h]
  by_cases k : d = 1
  · subst k; exact .inl ⟨rfl, rfl⟩
  · refine .inr ?_
    have : (d == 1) = false := by simpa using k
    rw [this]; rfl
theorem wholeNum_any (n : Int) (w : World) :
    Calls Try.prog 127 #[.int .i64 n] w fun e w' => e = .returned (.int .i64 n) ∧ w = w' := by
  go_enter Try.func127, Try.ntmps127
  go_wp2
  go_ret
  exact ⟨rfl, rfl⟩
theorem wholeDen_any (n : Int) (w : World) :
    Calls Try.prog 126 #[.int .i64 n] w fun e w' => e = .returned (.int .i64 1) ∧ w = w' := by
  go_enter Try.func126, Try.ntmps126
  go_wp2
  go_ret
  exact ⟨rfl, rfl⟩
theorem brokenNum_any (n d : Int) (w : World) :
    Calls Try.prog 129 #[.agg #[.int .i64 n, .int .i64 d]] w fun e w' => e = .returned (.int .i64 n) ∧ Below w.heap.size w w' := by
  go_enter Try.func129, Try.ntmps129
  go_wp2
  go_ret
  exact ⟨rfl, by go_grown⟩
theorem brokenDen_any (n d : Int) (w : World) :
    Calls Try.prog 128 #[.agg #[.int .i64 n, .int .i64 d]] w fun e w' => e = .returned (.int .i64 d) ∧ Below w.heap.size w w' := by
  go_enter Try.func128, Try.ntmps128
  go_wp2
  go_ret
  exact ⟨rfl, by go_grown⟩
/-- A call through an interface comes to the method at once. -/
@[go_sem ↓] theorem execOp_call_invoke (a : Act) (dst : Option Tmp) (x : Operand) (name : String) (ty : TypeId) (pos : String) (after : Array Edge) :
    execOp a.eval { dst, op := .call { callee := .invoke x name, args := #[], argTypes := #[] }, type := ty, pos, after, guard := none } = callMethod (a.eval x) name #[] := by
  simp [execOp, resolve, invoke]
@[go_sem ↓] theorem call_wholeNum (n : Int) (w : World) : (callMethod (.iface 136 (.int .i64 n)) "loop.example/icecores/impl.num" #[]).run Try.prog w = .ok (.enter 127 #[.int .i64 n]) w := by kernel_rfl
@[go_sem ↓] theorem call_wholeDen (n : Int) (w : World) : (callMethod (.iface 136 (.int .i64 n)) "loop.example/icecores/impl.den" #[]).run Try.prog w = .ok (.enter 126 #[.int .i64 n]) w := by kernel_rfl
@[go_sem ↓] theorem call_brokenNum (n d : Int) (w : World) : (callMethod (.iface 138 (.agg #[.int .i64 n, .int .i64 d])) "loop.example/icecores/impl.num" #[]).run Try.prog w =
    .ok (.enter 129 #[.agg #[.int .i64 n, .int .i64 d]]) w := by kernel_rfl
@[go_sem ↓] theorem call_brokenDen (n d : Int) (w : World) : (callMethod (.iface 138 (.agg #[.int .i64 n, .int .i64 d])) "loop.example/icecores/impl.den" #[]).run Try.prog w =
    .ok (.enter 128 #[.agg #[.int .i64 n, .int .i64 d]]) w := by kernel_rfl
/-- A call's result lies in block k; all that was there when the call began is there. -/
structure Kept (w0 w : World) (k : Nat) (u v : Value) : Prop where
  below : Below w0.heap.size w0 w
  cell0 : w.cell? ⟨k, 0, none⟩ = some u
  cell1 : w.cell? ⟨k, 1, none⟩ = some v
  free0 : w.frozen? ⟨k, 0, none⟩ = false
  free1 : w.frozen? ⟨k, 1, none⟩ = false
theorem Kept.next {w0 w w' : World} {k : Nat} {u v : Value} (h : Kept w0 w k u v) (b : Below w.heap.size w w') : Kept w0 w' k u v := by
  obtain ⟨c0, c1, c2, c3⟩ := below_two k u v b h.cell0 h.cell1 h.free0 h.free1
  exact ⟨h.below.trans (b.mono h.below.size), c0, c1, c2, c3⟩
end Go.Proofs.Ythhdpjkmjebjhab
