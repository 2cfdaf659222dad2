/- The operations on fractions, of the program. -/
import Derived.Test.YthhdpjkmjebjhabFracIn
namespace Go.Proofs.Ythhdpjkmjebjhab
open Go.RowKit

theorem implFracLessWW (a c : Int) (w : World) (fa : fv a 1 = true) (fc : fv c 1 = true) (i1 : inside a 1 = .iface 136 (.int .i64 a)) (i2 : inside c 1 = .iface 136 (.int .i64 c)) :
    Calls Try.prog 64 #[.agg #[.int .i64 a, .int .i64 1], .agg #[.int .i64 c, .int .i64 1]] w fun e w' => e = .returned (.bool (decide (a * 1 < c * 1))) ∧ Below w.heap.size w w' := by
  have pa := fv_part fa
  have pc := fv_part fc
  have m1 := mul_part (a := a) (d := 1) pa.2.2.1 pa.2.2.2 (by omega) (by omega)
  have m2 := mul_part (a := c) (d := 1) pc.2.2.1 pc.2.2.2 (by omega) (by omega)
  have m3 := mul_part (a := 1) (d := 1) (by omega) (by omega) (by omega) (by omega)
  have m6 := Int.mul_pos (a := 1) (b := 1) (by omega) (by omega)
  have m4 := mul_part (a := a) (d := c) (by omega) (by omega) (by omega) (by omega)
  have m5 := mul_part (a := 1) (d := c) (by omega) (by omega) (by omega) (by omega)
  go_enter Try.func64, Try.ntmps64
  go_wp2_with fail
  refine (rationalsOf_any _ _ _ _ _).mono ?_
  rintro e w1 ⟨rfl, b1⟩
  have bb : Below w.heap.size w w1 := Below.trans (by go_grown) (b1.mono (by go_size))
  have K : Below w.heap.size w w1 := bb
  clear bb b1
  go_wp2_with (first
    | (go_at_call 127; refine (wholeNum_any _ _).mono ?_; rintro e w2 ⟨rfl, rfl⟩)
    | (go_at_call 126; refine (wholeDen_any _ _).mono ?_; rintro e w2 ⟨rfl, rfl⟩)
    | (go_at_call 129; refine (brokenNum_any _ _ _).mono ?_; rintro e w2 ⟨rfl, b2⟩; replace K := K.trans (b2.mono K.size); clear b2)
    | (go_at_call 128; refine (brokenDen_any _ _ _).mono ?_; rintro e w2 ⟨rfl, b2⟩; replace K := K.trans (b2.mono K.size); clear b2))
  go_ret
  exact ⟨one_of (by simp), K⟩
theorem implFracLessWB (a c d : Int) (w : World) (fa : fv a 1 = true) (fc : fv c d = true) (i1 : inside a 1 = .iface 136 (.int .i64 a)) (i2 : inside c d = .iface 138 (.agg #[.int .i64 c, .int .i64 d])) :
    Calls Try.prog 64 #[.agg #[.int .i64 a, .int .i64 1], .agg #[.int .i64 c, .int .i64 d]] w fun e w' => e = .returned (.bool (decide (a * d < c * 1))) ∧ Below w.heap.size w w' := by
  have pa := fv_part fa
  have pc := fv_part fc
  have m1 := mul_part (a := a) (d := d) pa.2.2.1 pa.2.2.2 (by omega) (by omega)
  have m2 := mul_part (a := c) (d := 1) pc.2.2.1 pc.2.2.2 (by omega) (by omega)
  have m3 := mul_part (a := 1) (d := d) (by omega) (by omega) (by omega) (by omega)
  have m6 := Int.mul_pos (a := 1) (b := d) (by omega) (by omega)
  have m4 := mul_part (a := a) (d := c) (by omega) (by omega) (by omega) (by omega)
  have m5 := mul_part (a := 1) (d := c) (by omega) (by omega) (by omega) (by omega)
  go_enter Try.func64, Try.ntmps64
  go_wp2_with fail
  refine (rationalsOf_any _ _ _ _ _).mono ?_
  rintro e w1 ⟨rfl, b1⟩
  have bb : Below w.heap.size w w1 := Below.trans (by go_grown) (b1.mono (by go_size))
  have K : Below w.heap.size w w1 := bb
  clear bb b1
  go_wp2_with (first
    | (go_at_call 127; refine (wholeNum_any _ _).mono ?_; rintro e w2 ⟨rfl, rfl⟩)
    | (go_at_call 126; refine (wholeDen_any _ _).mono ?_; rintro e w2 ⟨rfl, rfl⟩)
    | (go_at_call 129; refine (brokenNum_any _ _ _).mono ?_; rintro e w2 ⟨rfl, b2⟩; replace K := K.trans (b2.mono K.size); clear b2)
    | (go_at_call 128; refine (brokenDen_any _ _ _).mono ?_; rintro e w2 ⟨rfl, b2⟩; replace K := K.trans (b2.mono K.size); clear b2))
  go_ret
  exact ⟨one_of (by simp), K⟩
theorem implFracLessBW (a b c : Int) (w : World) (fa : fv a b = true) (fc : fv c 1 = true) (i1 : inside a b = .iface 138 (.agg #[.int .i64 a, .int .i64 b])) (i2 : inside c 1 = .iface 136 (.int .i64 c)) :
    Calls Try.prog 64 #[.agg #[.int .i64 a, .int .i64 b], .agg #[.int .i64 c, .int .i64 1]] w fun e w' => e = .returned (.bool (decide (a * 1 < c * b))) ∧ Below w.heap.size w w' := by
  have pa := fv_part fa
  have pc := fv_part fc
  have m1 := mul_part (a := a) (d := 1) pa.2.2.1 pa.2.2.2 (by omega) (by omega)
  have m2 := mul_part (a := c) (d := b) pc.2.2.1 pc.2.2.2 (by omega) (by omega)
  have m3 := mul_part (a := b) (d := 1) (by omega) (by omega) (by omega) (by omega)
  have m6 := Int.mul_pos (a := b) (b := 1) (by omega) (by omega)
  have m4 := mul_part (a := a) (d := c) (by omega) (by omega) (by omega) (by omega)
  have m5 := mul_part (a := b) (d := c) (by omega) (by omega) (by omega) (by omega)
  go_enter Try.func64, Try.ntmps64
  go_wp2_with fail
  refine (rationalsOf_any _ _ _ _ _).mono ?_
  rintro e w1 ⟨rfl, b1⟩
  have bb : Below w.heap.size w w1 := Below.trans (by go_grown) (b1.mono (by go_size))
  have K : Below w.heap.size w w1 := bb
  clear bb b1
  go_wp2_with (first
    | (go_at_call 127; refine (wholeNum_any _ _).mono ?_; rintro e w2 ⟨rfl, rfl⟩)
    | (go_at_call 126; refine (wholeDen_any _ _).mono ?_; rintro e w2 ⟨rfl, rfl⟩)
    | (go_at_call 129; refine (brokenNum_any _ _ _).mono ?_; rintro e w2 ⟨rfl, b2⟩; replace K := K.trans (b2.mono K.size); clear b2)
    | (go_at_call 128; refine (brokenDen_any _ _ _).mono ?_; rintro e w2 ⟨rfl, b2⟩; replace K := K.trans (b2.mono K.size); clear b2))
  go_ret
  exact ⟨one_of (by simp), K⟩
theorem implFracLessBB (a b c d : Int) (w : World) (fa : fv a b = true) (fc : fv c d = true) (i1 : inside a b = .iface 138 (.agg #[.int .i64 a, .int .i64 b])) (i2 : inside c d = .iface 138 (.agg #[.int .i64 c, .int .i64 d])) :
    Calls Try.prog 64 #[.agg #[.int .i64 a, .int .i64 b], .agg #[.int .i64 c, .int .i64 d]] w fun e w' => e = .returned (.bool (decide (a * d < c * b))) ∧ Below w.heap.size w w' := by
  have pa := fv_part fa
  have pc := fv_part fc
  have m1 := mul_part (a := a) (d := d) pa.2.2.1 pa.2.2.2 (by omega) (by omega)
  have m2 := mul_part (a := c) (d := b) pc.2.2.1 pc.2.2.2 (by omega) (by omega)
  have m3 := mul_part (a := b) (d := d) (by omega) (by omega) (by omega) (by omega)
  have m6 := Int.mul_pos (a := b) (b := d) (by omega) (by omega)
  have m4 := mul_part (a := a) (d := c) (by omega) (by omega) (by omega) (by omega)
  have m5 := mul_part (a := b) (d := c) (by omega) (by omega) (by omega) (by omega)
  go_enter Try.func64, Try.ntmps64
  go_wp2_with fail
  refine (rationalsOf_any _ _ _ _ _).mono ?_
  rintro e w1 ⟨rfl, b1⟩
  have bb : Below w.heap.size w w1 := Below.trans (by go_grown) (b1.mono (by go_size))
  have K : Below w.heap.size w w1 := bb
  clear bb b1
  go_wp2_with (first
    | (go_at_call 127; refine (wholeNum_any _ _).mono ?_; rintro e w2 ⟨rfl, rfl⟩)
    | (go_at_call 126; refine (wholeDen_any _ _).mono ?_; rintro e w2 ⟨rfl, rfl⟩)
    | (go_at_call 129; refine (brokenNum_any _ _ _).mono ?_; rintro e w2 ⟨rfl, b2⟩; replace K := K.trans (b2.mono K.size); clear b2)
    | (go_at_call 128; refine (brokenDen_any _ _ _).mono ?_; rintro e w2 ⟨rfl, b2⟩; replace K := K.trans (b2.mono K.size); clear b2))
  go_ret
  exact ⟨one_of (by simp), K⟩
theorem implFracLess_any (a b c d : Int) (w : World) :
    Calls Try.prog 64 #[.agg #[.int .i64 a, .int .i64 b], .agg #[.int .i64 c, .int .i64 d]] w fun e w' => e = .returned (.bool (fv a b && fv c d && decide (a * d < c * b))) ∧ Below w.heap.size w w' := by
  cases hv : (fv a b && fv c d)
  · go_enter Try.func64, Try.ntmps64
    go_wp2_with fail
    refine (rationalsOf_any _ _ _ _ _).mono ?_
    rintro e w1 ⟨rfl, b1⟩
    go_wp2
    go_ret
    exact ⟨rfl, Below.trans (by go_grown) (b1.mono (by go_size))⟩
  · have fa : fv a b = true := by simp at hv; exact hv.1
    have fc : fv c d = true := by simp at hv; exact hv.2
    clear hv
    try simp only [Bool.true_and]
    rcases inside_known fa with ⟨rfl, i1⟩ | i1
    all_goals
      rcases inside_known fc with ⟨rfl, i2⟩ | i2
    · exact implFracLessWW a c w fa fc i1 i2
    · exact implFracLessWB a c d w fa fc i1 i2
    · exact implFracLessBW a b c w fa fc i1 i2
    · exact implFracLessBB a b c d w fa fc i1 i2
end Go.Proofs.Ythhdpjkmjebjhab
