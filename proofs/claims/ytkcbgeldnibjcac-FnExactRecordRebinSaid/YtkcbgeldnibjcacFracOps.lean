/- The operations on fractions, of the program. -/
import Derived.Test.YtkcbgeldnibjcacFracIn
namespace Go.Proofs.Ytkcbgeldnibjcac
open Go.RowKit

theorem implFracAddWW (a c : Int) (w : World) (fa : fv a 1 = true) (fc : fv c 1 = true) (i1 : inside a 1 = .iface 71 (.int .i64 a)) (i2 : inside c 1 = .iface 71 (.int .i64 c)) :
    Calls Try.prog 45 #[.agg #[.int .i64 a, .int .i64 1], .agg #[.int .i64 c, .int .i64 1]] w fun e w' => GotFrac (true) (fq a 1 + fq c 1) w w' e := by
  have pa := fv_part fa
  have pc := fv_part fc
  have m1 := mul_part (a := a) (d := 1) pa.2.2.1 pa.2.2.2 (by omega) (by omega)
  have m2 := mul_part (a := c) (d := 1) pc.2.2.1 pc.2.2.2 (by omega) (by omega)
  have m3 := mul_part (a := 1) (d := 1) (by omega) (by omega) (by omega) (by omega)
  have m6 := Int.mul_pos (a := 1) (b := 1) (by omega) (by omega)
  have m4 := mul_part (a := a) (d := c) (by omega) (by omega) (by omega) (by omega)
  have m5 := mul_part (a := 1) (d := c) (by omega) (by omega) (by omega) (by omega)
  have key := Lib.hid (fq_add fa fc)
  go_enter Try.func45, Try.ntmps45
  go_wp2_with fail
  refine (rationalsOf_any _ _ _ _ _).mono ?_
  rintro e w1 ⟨rfl, b1⟩
  obtain ⟨c0, c1, c2, c3⟩ := below_two (w.heap.size + 1 + 1) (.int .i64 0) (.int .i64 0) b1 (by go_cell) (by go_cell) (by go_simp) (by go_simp)
  have K : Kept w w1 (w.heap.size + 1 + 1) (.int .i64 0) (.int .i64 0) := ⟨Below.trans (by go_grown) (b1.mono (by go_size)), c0, c1, c2, c3⟩
  clear b1 c0 c1 c2 c3
  go_wp2_with (first
    | (go_at_call 73; refine (wholeNum_any _ _).mono ?_; rintro e w2 ⟨rfl, rfl⟩)
    | (go_at_call 72; refine (wholeDen_any _ _).mono ?_; rintro e w2 ⟨rfl, rfl⟩)
    | (go_at_call 75; refine (brokenNum_any _ _ _).mono ?_; rintro e w2 ⟨rfl, b2⟩; replace K := K.next b2; clear b2)
    | (go_at_call 74; refine (brokenDen_any _ _ _).mono ?_; rintro e w2 ⟨rfl, b2⟩; replace K := K.next b2; clear b2))
  refine (implFracOf_any _ _ _).mono ?_
  rintro e w3 ⟨n3, d3, ok3, rfl, hr, b3⟩
  replace K := K.next b3
  have c0 := K.cell0
  have c1 := K.cell1
  have c2 := K.free0
  have c3 := K.free1
  have bb := K.below
  clear K b3
  go_wp2
  refine back_two rfl rfl rfl (stored0 _ _ c0) (stored1 _ _ c1) rfl ?_
  refine ⟨n3, d3, ok3, rfl, ?_, by go_grown⟩
  exact Res.cast hr (ofV_iff.2 (by omega)) (by have k := key.out; (try simp only [Int.mul_one] at k); (try simp only [Int.one_mul] at k); exact k)
theorem implFracAddWB (a c d : Int) (w : World) (fa : fv a 1 = true) (fc : fv c d = true) (i1 : inside a 1 = .iface 71 (.int .i64 a)) (i2 : inside c d = .iface 73 (.agg #[.int .i64 c, .int .i64 d])) :
    Calls Try.prog 45 #[.agg #[.int .i64 a, .int .i64 1], .agg #[.int .i64 c, .int .i64 d]] w fun e w' => GotFrac (true) (fq a 1 + fq c d) w w' e := by
  have pa := fv_part fa
  have pc := fv_part fc
  have m1 := mul_part (a := a) (d := d) pa.2.2.1 pa.2.2.2 (by omega) (by omega)
  have m2 := mul_part (a := c) (d := 1) pc.2.2.1 pc.2.2.2 (by omega) (by omega)
  have m3 := mul_part (a := 1) (d := d) (by omega) (by omega) (by omega) (by omega)
  have m6 := Int.mul_pos (a := 1) (b := d) (by omega) (by omega)
  have m4 := mul_part (a := a) (d := c) (by omega) (by omega) (by omega) (by omega)
  have m5 := mul_part (a := 1) (d := c) (by omega) (by omega) (by omega) (by omega)
  have key := Lib.hid (fq_add fa fc)
  go_enter Try.func45, Try.ntmps45
  go_wp2_with fail
  refine (rationalsOf_any _ _ _ _ _).mono ?_
  rintro e w1 ⟨rfl, b1⟩
  obtain ⟨c0, c1, c2, c3⟩ := below_two (w.heap.size + 1 + 1) (.int .i64 0) (.int .i64 0) b1 (by go_cell) (by go_cell) (by go_simp) (by go_simp)
  have K : Kept w w1 (w.heap.size + 1 + 1) (.int .i64 0) (.int .i64 0) := ⟨Below.trans (by go_grown) (b1.mono (by go_size)), c0, c1, c2, c3⟩
  clear b1 c0 c1 c2 c3
  go_wp2_with (first
    | (go_at_call 73; refine (wholeNum_any _ _).mono ?_; rintro e w2 ⟨rfl, rfl⟩)
    | (go_at_call 72; refine (wholeDen_any _ _).mono ?_; rintro e w2 ⟨rfl, rfl⟩)
    | (go_at_call 75; refine (brokenNum_any _ _ _).mono ?_; rintro e w2 ⟨rfl, b2⟩; replace K := K.next b2; clear b2)
    | (go_at_call 74; refine (brokenDen_any _ _ _).mono ?_; rintro e w2 ⟨rfl, b2⟩; replace K := K.next b2; clear b2))
  refine (implFracOf_any _ _ _).mono ?_
  rintro e w3 ⟨n3, d3, ok3, rfl, hr, b3⟩
  replace K := K.next b3
  have c0 := K.cell0
  have c1 := K.cell1
  have c2 := K.free0
  have c3 := K.free1
  have bb := K.below
  clear K b3
  go_wp2
  refine back_two rfl rfl rfl (stored0 _ _ c0) (stored1 _ _ c1) rfl ?_
  refine ⟨n3, d3, ok3, rfl, ?_, by go_grown⟩
  exact Res.cast hr (ofV_iff.2 (by omega)) (by have k := key.out; (try simp only [Int.mul_one] at k); (try simp only [Int.one_mul] at k); exact k)
theorem implFracAddBW (a b c : Int) (w : World) (fa : fv a b = true) (fc : fv c 1 = true) (i1 : inside a b = .iface 73 (.agg #[.int .i64 a, .int .i64 b])) (i2 : inside c 1 = .iface 71 (.int .i64 c)) :
    Calls Try.prog 45 #[.agg #[.int .i64 a, .int .i64 b], .agg #[.int .i64 c, .int .i64 1]] w fun e w' => GotFrac (true) (fq a b + fq c 1) w w' e := by
  have pa := fv_part fa
  have pc := fv_part fc
  have m1 := mul_part (a := a) (d := 1) pa.2.2.1 pa.2.2.2 (by omega) (by omega)
  have m2 := mul_part (a := c) (d := b) pc.2.2.1 pc.2.2.2 (by omega) (by omega)
  have m3 := mul_part (a := b) (d := 1) (by omega) (by omega) (by omega) (by omega)
  have m6 := Int.mul_pos (a := b) (b := 1) (by omega) (by omega)
  have m4 := mul_part (a := a) (d := c) (by omega) (by omega) (by omega) (by omega)
  have m5 := mul_part (a := b) (d := c) (by omega) (by omega) (by omega) (by omega)
  have key := Lib.hid (fq_add fa fc)
  go_enter Try.func45, Try.ntmps45
  go_wp2_with fail
  refine (rationalsOf_any _ _ _ _ _).mono ?_
  rintro e w1 ⟨rfl, b1⟩
  obtain ⟨c0, c1, c2, c3⟩ := below_two (w.heap.size + 1 + 1) (.int .i64 0) (.int .i64 0) b1 (by go_cell) (by go_cell) (by go_simp) (by go_simp)
  have K : Kept w w1 (w.heap.size + 1 + 1) (.int .i64 0) (.int .i64 0) := ⟨Below.trans (by go_grown) (b1.mono (by go_size)), c0, c1, c2, c3⟩
  clear b1 c0 c1 c2 c3
  go_wp2_with (first
    | (go_at_call 73; refine (wholeNum_any _ _).mono ?_; rintro e w2 ⟨rfl, rfl⟩)
    | (go_at_call 72; refine (wholeDen_any _ _).mono ?_; rintro e w2 ⟨rfl, rfl⟩)
    | (go_at_call 75; refine (brokenNum_any _ _ _).mono ?_; rintro e w2 ⟨rfl, b2⟩; replace K := K.next b2; clear b2)
    | (go_at_call 74; refine (brokenDen_any _ _ _).mono ?_; rintro e w2 ⟨rfl, b2⟩; replace K := K.next b2; clear b2))
  refine (implFracOf_any _ _ _).mono ?_
  rintro e w3 ⟨n3, d3, ok3, rfl, hr, b3⟩
  replace K := K.next b3
  have c0 := K.cell0
  have c1 := K.cell1
  have c2 := K.free0
  have c3 := K.free1
  have bb := K.below
  clear K b3
  go_wp2
  refine back_two rfl rfl rfl (stored0 _ _ c0) (stored1 _ _ c1) rfl ?_
  refine ⟨n3, d3, ok3, rfl, ?_, by go_grown⟩
  exact Res.cast hr (ofV_iff.2 (by omega)) (by have k := key.out; (try simp only [Int.mul_one] at k); (try simp only [Int.one_mul] at k); exact k)
theorem implFracAddBB (a b c d : Int) (w : World) (fa : fv a b = true) (fc : fv c d = true) (i1 : inside a b = .iface 73 (.agg #[.int .i64 a, .int .i64 b])) (i2 : inside c d = .iface 73 (.agg #[.int .i64 c, .int .i64 d])) :
    Calls Try.prog 45 #[.agg #[.int .i64 a, .int .i64 b], .agg #[.int .i64 c, .int .i64 d]] w fun e w' => GotFrac (true) (fq a b + fq c d) w w' e := by
  have pa := fv_part fa
  have pc := fv_part fc
  have m1 := mul_part (a := a) (d := d) pa.2.2.1 pa.2.2.2 (by omega) (by omega)
  have m2 := mul_part (a := c) (d := b) pc.2.2.1 pc.2.2.2 (by omega) (by omega)
  have m3 := mul_part (a := b) (d := d) (by omega) (by omega) (by omega) (by omega)
  have m6 := Int.mul_pos (a := b) (b := d) (by omega) (by omega)
  have m4 := mul_part (a := a) (d := c) (by omega) (by omega) (by omega) (by omega)
  have m5 := mul_part (a := b) (d := c) (by omega) (by omega) (by omega) (by omega)
  have key := Lib.hid (fq_add fa fc)
  go_enter Try.func45, Try.ntmps45
  go_wp2_with fail
  refine (rationalsOf_any _ _ _ _ _).mono ?_
  rintro e w1 ⟨rfl, b1⟩
  obtain ⟨c0, c1, c2, c3⟩ := below_two (w.heap.size + 1 + 1) (.int .i64 0) (.int .i64 0) b1 (by go_cell) (by go_cell) (by go_simp) (by go_simp)
  have K : Kept w w1 (w.heap.size + 1 + 1) (.int .i64 0) (.int .i64 0) := ⟨Below.trans (by go_grown) (b1.mono (by go_size)), c0, c1, c2, c3⟩
  clear b1 c0 c1 c2 c3
  go_wp2_with (first
    | (go_at_call 73; refine (wholeNum_any _ _).mono ?_; rintro e w2 ⟨rfl, rfl⟩)
    | (go_at_call 72; refine (wholeDen_any _ _).mono ?_; rintro e w2 ⟨rfl, rfl⟩)
    | (go_at_call 75; refine (brokenNum_any _ _ _).mono ?_; rintro e w2 ⟨rfl, b2⟩; replace K := K.next b2; clear b2)
    | (go_at_call 74; refine (brokenDen_any _ _ _).mono ?_; rintro e w2 ⟨rfl, b2⟩; replace K := K.next b2; clear b2))
  refine (implFracOf_any _ _ _).mono ?_
  rintro e w3 ⟨n3, d3, ok3, rfl, hr, b3⟩
  replace K := K.next b3
  have c0 := K.cell0
  have c1 := K.cell1
  have c2 := K.free0
  have c3 := K.free1
  have bb := K.below
  clear K b3
  go_wp2
  refine back_two rfl rfl rfl (stored0 _ _ c0) (stored1 _ _ c1) rfl ?_
  refine ⟨n3, d3, ok3, rfl, ?_, by go_grown⟩
  exact Res.cast hr (ofV_iff.2 (by omega)) (by have k := key.out; (try simp only [Int.mul_one] at k); (try simp only [Int.one_mul] at k); exact k)
theorem implFracDivWW (a c : Int) (w : World) (fa : fv a 1 = true) (fc : fv c 1 = true) (i1 : inside a 1 = .iface 71 (.int .i64 a)) (i2 : inside c 1 = .iface 71 (.int .i64 c)) :
    Calls Try.prog 37 #[.agg #[.int .i64 a, .int .i64 1], .agg #[.int .i64 c, .int .i64 1]] w fun e w' => GotFrac (!(c == 0)) (fq a 1 / fq c 1) w w' e := by
  have pa := fv_part fa
  have pc := fv_part fc
  have m1 := mul_part (a := a) (d := 1) pa.2.2.1 pa.2.2.2 (by omega) (by omega)
  have m2 := mul_part (a := c) (d := 1) pc.2.2.1 pc.2.2.2 (by omega) (by omega)
  have m3 := mul_part (a := 1) (d := 1) (by omega) (by omega) (by omega) (by omega)
  have m6 := Int.mul_pos (a := 1) (b := 1) (by omega) (by omega)
  have m4 := mul_part (a := a) (d := c) (by omega) (by omega) (by omega) (by omega)
  have m5 := mul_part (a := 1) (d := c) (by omega) (by omega) (by omega) (by omega)
  have key := Lib.hid (fq_div a 1 c 1)
  go_enter Try.func37, Try.ntmps37
  go_wp2_with fail
  refine (rationalsOf_any _ _ _ _ _).mono ?_
  rintro e w1 ⟨rfl, b1⟩
  obtain ⟨c0, c1, c2, c3⟩ := below_two (w.heap.size + 1 + 1) (.int .i64 0) (.int .i64 0) b1 (by go_cell) (by go_cell) (by go_simp) (by go_simp)
  have K : Kept w w1 (w.heap.size + 1 + 1) (.int .i64 0) (.int .i64 0) := ⟨Below.trans (by go_grown) (b1.mono (by go_size)), c0, c1, c2, c3⟩
  clear b1 c0 c1 c2 c3
  go_wp2_with (first
    | (go_at_call 73; refine (wholeNum_any _ _).mono ?_; rintro e w2 ⟨rfl, rfl⟩)
    | (go_at_call 72; refine (wholeDen_any _ _).mono ?_; rintro e w2 ⟨rfl, rfl⟩)
    | (go_at_call 75; refine (brokenNum_any _ _ _).mono ?_; rintro e w2 ⟨rfl, b2⟩; replace K := K.next b2; clear b2)
    | (go_at_call 74; refine (brokenDen_any _ _ _).mono ?_; rintro e w2 ⟨rfl, b2⟩; replace K := K.next b2; clear b2))
  refine (implFracOf_any _ _ _).mono ?_
  rintro e w3 ⟨n3, d3, ok3, rfl, hr, b3⟩
  replace K := K.next b3
  have c0 := K.cell0
  have c1 := K.cell1
  have c2 := K.free0
  have c3 := K.free1
  have bb := K.below
  clear K b3
  go_wp2
  refine back_two rfl rfl rfl (stored0 _ _ c0) (stored1 _ _ c1) rfl ?_
  refine ⟨n3, d3, ok3, rfl, ?_, by go_grown⟩
  refine Res.cast hr ?_ (by have k := key.out; (try simp only [Int.mul_one] at k); (try simp only [Int.one_mul] at k); exact k)
  rw [Bool.eq_iff_iff, ofV_iff]
  have hz := Int.mul_eq_zero (a := 1) (b := c)
  simp
  omega
theorem implFracDivWB (a c d : Int) (w : World) (fa : fv a 1 = true) (fc : fv c d = true) (i1 : inside a 1 = .iface 71 (.int .i64 a)) (i2 : inside c d = .iface 73 (.agg #[.int .i64 c, .int .i64 d])) :
    Calls Try.prog 37 #[.agg #[.int .i64 a, .int .i64 1], .agg #[.int .i64 c, .int .i64 d]] w fun e w' => GotFrac (!(c == 0)) (fq a 1 / fq c d) w w' e := by
  have pa := fv_part fa
  have pc := fv_part fc
  have m1 := mul_part (a := a) (d := d) pa.2.2.1 pa.2.2.2 (by omega) (by omega)
  have m2 := mul_part (a := c) (d := 1) pc.2.2.1 pc.2.2.2 (by omega) (by omega)
  have m3 := mul_part (a := 1) (d := d) (by omega) (by omega) (by omega) (by omega)
  have m6 := Int.mul_pos (a := 1) (b := d) (by omega) (by omega)
  have m4 := mul_part (a := a) (d := c) (by omega) (by omega) (by omega) (by omega)
  have m5 := mul_part (a := 1) (d := c) (by omega) (by omega) (by omega) (by omega)
  have key := Lib.hid (fq_div a 1 c d)
  go_enter Try.func37, Try.ntmps37
  go_wp2_with fail
  refine (rationalsOf_any _ _ _ _ _).mono ?_
  rintro e w1 ⟨rfl, b1⟩
  obtain ⟨c0, c1, c2, c3⟩ := below_two (w.heap.size + 1 + 1) (.int .i64 0) (.int .i64 0) b1 (by go_cell) (by go_cell) (by go_simp) (by go_simp)
  have K : Kept w w1 (w.heap.size + 1 + 1) (.int .i64 0) (.int .i64 0) := ⟨Below.trans (by go_grown) (b1.mono (by go_size)), c0, c1, c2, c3⟩
  clear b1 c0 c1 c2 c3
  go_wp2_with (first
    | (go_at_call 73; refine (wholeNum_any _ _).mono ?_; rintro e w2 ⟨rfl, rfl⟩)
    | (go_at_call 72; refine (wholeDen_any _ _).mono ?_; rintro e w2 ⟨rfl, rfl⟩)
    | (go_at_call 75; refine (brokenNum_any _ _ _).mono ?_; rintro e w2 ⟨rfl, b2⟩; replace K := K.next b2; clear b2)
    | (go_at_call 74; refine (brokenDen_any _ _ _).mono ?_; rintro e w2 ⟨rfl, b2⟩; replace K := K.next b2; clear b2))
  refine (implFracOf_any _ _ _).mono ?_
  rintro e w3 ⟨n3, d3, ok3, rfl, hr, b3⟩
  replace K := K.next b3
  have c0 := K.cell0
  have c1 := K.cell1
  have c2 := K.free0
  have c3 := K.free1
  have bb := K.below
  clear K b3
  go_wp2
  refine back_two rfl rfl rfl (stored0 _ _ c0) (stored1 _ _ c1) rfl ?_
  refine ⟨n3, d3, ok3, rfl, ?_, by go_grown⟩
  refine Res.cast hr ?_ (by have k := key.out; (try simp only [Int.mul_one] at k); (try simp only [Int.one_mul] at k); exact k)
  rw [Bool.eq_iff_iff, ofV_iff]
  have hz := Int.mul_eq_zero (a := 1) (b := c)
  simp
  omega
theorem implFracDivBW (a b c : Int) (w : World) (fa : fv a b = true) (fc : fv c 1 = true) (i1 : inside a b = .iface 73 (.agg #[.int .i64 a, .int .i64 b])) (i2 : inside c 1 = .iface 71 (.int .i64 c)) :
    Calls Try.prog 37 #[.agg #[.int .i64 a, .int .i64 b], .agg #[.int .i64 c, .int .i64 1]] w fun e w' => GotFrac (!(c == 0)) (fq a b / fq c 1) w w' e := by
  have pa := fv_part fa
  have pc := fv_part fc
  have m1 := mul_part (a := a) (d := 1) pa.2.2.1 pa.2.2.2 (by omega) (by omega)
  have m2 := mul_part (a := c) (d := b) pc.2.2.1 pc.2.2.2 (by omega) (by omega)
  have m3 := mul_part (a := b) (d := 1) (by omega) (by omega) (by omega) (by omega)
  have m6 := Int.mul_pos (a := b) (b := 1) (by omega) (by omega)
  have m4 := mul_part (a := a) (d := c) (by omega) (by omega) (by omega) (by omega)
  have m5 := mul_part (a := b) (d := c) (by omega) (by omega) (by omega) (by omega)
  have key := Lib.hid (fq_div a b c 1)
  go_enter Try.func37, Try.ntmps37
  go_wp2_with fail
  refine (rationalsOf_any _ _ _ _ _).mono ?_
  rintro e w1 ⟨rfl, b1⟩
  obtain ⟨c0, c1, c2, c3⟩ := below_two (w.heap.size + 1 + 1) (.int .i64 0) (.int .i64 0) b1 (by go_cell) (by go_cell) (by go_simp) (by go_simp)
  have K : Kept w w1 (w.heap.size + 1 + 1) (.int .i64 0) (.int .i64 0) := ⟨Below.trans (by go_grown) (b1.mono (by go_size)), c0, c1, c2, c3⟩
  clear b1 c0 c1 c2 c3
  go_wp2_with (first
    | (go_at_call 73; refine (wholeNum_any _ _).mono ?_; rintro e w2 ⟨rfl, rfl⟩)
    | (go_at_call 72; refine (wholeDen_any _ _).mono ?_; rintro e w2 ⟨rfl, rfl⟩)
    | (go_at_call 75; refine (brokenNum_any _ _ _).mono ?_; rintro e w2 ⟨rfl, b2⟩; replace K := K.next b2; clear b2)
    | (go_at_call 74; refine (brokenDen_any _ _ _).mono ?_; rintro e w2 ⟨rfl, b2⟩; replace K := K.next b2; clear b2))
  refine (implFracOf_any _ _ _).mono ?_
  rintro e w3 ⟨n3, d3, ok3, rfl, hr, b3⟩
  replace K := K.next b3
  have c0 := K.cell0
  have c1 := K.cell1
  have c2 := K.free0
  have c3 := K.free1
  have bb := K.below
  clear K b3
  go_wp2
  refine back_two rfl rfl rfl (stored0 _ _ c0) (stored1 _ _ c1) rfl ?_
  refine ⟨n3, d3, ok3, rfl, ?_, by go_grown⟩
  refine Res.cast hr ?_ (by have k := key.out; (try simp only [Int.mul_one] at k); (try simp only [Int.one_mul] at k); exact k)
  rw [Bool.eq_iff_iff, ofV_iff]
  have hz := Int.mul_eq_zero (a := b) (b := c)
  simp
  omega
theorem implFracDivBB (a b c d : Int) (w : World) (fa : fv a b = true) (fc : fv c d = true) (i1 : inside a b = .iface 73 (.agg #[.int .i64 a, .int .i64 b])) (i2 : inside c d = .iface 73 (.agg #[.int .i64 c, .int .i64 d])) :
    Calls Try.prog 37 #[.agg #[.int .i64 a, .int .i64 b], .agg #[.int .i64 c, .int .i64 d]] w fun e w' => GotFrac (!(c == 0)) (fq a b / fq c d) w w' e := by
  have pa := fv_part fa
  have pc := fv_part fc
  have m1 := mul_part (a := a) (d := d) pa.2.2.1 pa.2.2.2 (by omega) (by omega)
  have m2 := mul_part (a := c) (d := b) pc.2.2.1 pc.2.2.2 (by omega) (by omega)
  have m3 := mul_part (a := b) (d := d) (by omega) (by omega) (by omega) (by omega)
  have m6 := Int.mul_pos (a := b) (b := d) (by omega) (by omega)
  have m4 := mul_part (a := a) (d := c) (by omega) (by omega) (by omega) (by omega)
  have m5 := mul_part (a := b) (d := c) (by omega) (by omega) (by omega) (by omega)
  have key := Lib.hid (fq_div a b c d)
  go_enter Try.func37, Try.ntmps37
  go_wp2_with fail
  refine (rationalsOf_any _ _ _ _ _).mono ?_
  rintro e w1 ⟨rfl, b1⟩
  obtain ⟨c0, c1, c2, c3⟩ := below_two (w.heap.size + 1 + 1) (.int .i64 0) (.int .i64 0) b1 (by go_cell) (by go_cell) (by go_simp) (by go_simp)
  have K : Kept w w1 (w.heap.size + 1 + 1) (.int .i64 0) (.int .i64 0) := ⟨Below.trans (by go_grown) (b1.mono (by go_size)), c0, c1, c2, c3⟩
  clear b1 c0 c1 c2 c3
  go_wp2_with (first
    | (go_at_call 73; refine (wholeNum_any _ _).mono ?_; rintro e w2 ⟨rfl, rfl⟩)
    | (go_at_call 72; refine (wholeDen_any _ _).mono ?_; rintro e w2 ⟨rfl, rfl⟩)
    | (go_at_call 75; refine (brokenNum_any _ _ _).mono ?_; rintro e w2 ⟨rfl, b2⟩; replace K := K.next b2; clear b2)
    | (go_at_call 74; refine (brokenDen_any _ _ _).mono ?_; rintro e w2 ⟨rfl, b2⟩; replace K := K.next b2; clear b2))
  refine (implFracOf_any _ _ _).mono ?_
  rintro e w3 ⟨n3, d3, ok3, rfl, hr, b3⟩
  replace K := K.next b3
  have c0 := K.cell0
  have c1 := K.cell1
  have c2 := K.free0
  have c3 := K.free1
  have bb := K.below
  clear K b3
  go_wp2
  refine back_two rfl rfl rfl (stored0 _ _ c0) (stored1 _ _ c1) rfl ?_
  refine ⟨n3, d3, ok3, rfl, ?_, by go_grown⟩
  refine Res.cast hr ?_ (by have k := key.out; (try simp only [Int.mul_one] at k); (try simp only [Int.one_mul] at k); exact k)
  rw [Bool.eq_iff_iff, ofV_iff]
  have hz := Int.mul_eq_zero (a := b) (b := c)
  simp
  omega
theorem implFracAdd_any (a b c d : Int) (w : World) :
    Calls Try.prog 45 #[.agg #[.int .i64 a, .int .i64 b], .agg #[.int .i64 c, .int .i64 d]] w fun e w' => GotFrac (fv a b && fv c d) (fq a b + fq c d) w w' e := by
  cases hv : (fv a b && fv c d)
  · go_enter Try.func45, Try.ntmps45
    go_wp2_with fail
    refine (rationalsOf_any _ _ _ _ _).mono ?_
    rintro e w1 ⟨rfl, b1⟩
    obtain ⟨c0, c1, c2, c3⟩ := below_two (w.heap.size + 1 + 1) (.int .i64 0) (.int .i64 0) b1 (by go_cell) (by go_cell) (by go_simp) (by go_simp)
    go_wp2
    refine back_two rfl rfl rfl (stored0 _ _ c0) (stored1 _ _ c1) rfl ?_
    refine ⟨_, _, _, rfl, Res.no (.inl rfl), ?_⟩
    have bb : Below w.heap.size w w1 := Below.trans (by go_grown) (b1.mono (by go_size))
    go_grown
  · have fa : fv a b = true := by simp at hv; exact hv.1
    have fc : fv c d = true := by simp at hv; exact hv.2
    clear hv
    try simp only [Bool.true_and]
    rcases inside_known fa with ⟨rfl, i1⟩ | i1
    all_goals
      rcases inside_known fc with ⟨rfl, i2⟩ | i2
    · exact implFracAddWW a c w fa fc i1 i2
    · exact implFracAddWB a c d w fa fc i1 i2
    · exact implFracAddBW a b c w fa fc i1 i2
    · exact implFracAddBB a b c d w fa fc i1 i2
theorem implFracDiv_any (a b c d : Int) (w : World) :
    Calls Try.prog 37 #[.agg #[.int .i64 a, .int .i64 b], .agg #[.int .i64 c, .int .i64 d]] w fun e w' => GotFrac (fv a b && fv c d && !(c == 0)) (fq a b / fq c d) w w' e := by
  cases hv : (fv a b && fv c d)
  · go_enter Try.func37, Try.ntmps37
    go_wp2_with fail
    refine (rationalsOf_any _ _ _ _ _).mono ?_
    rintro e w1 ⟨rfl, b1⟩
    obtain ⟨c0, c1, c2, c3⟩ := below_two (w.heap.size + 1 + 1) (.int .i64 0) (.int .i64 0) b1 (by go_cell) (by go_cell) (by go_simp) (by go_simp)
    go_wp2
    refine back_two rfl rfl rfl (stored0 _ _ c0) (stored1 _ _ c1) rfl ?_
    refine ⟨_, _, _, rfl, Res.no (.inl rfl), ?_⟩
    have bb : Below w.heap.size w w1 := Below.trans (by go_grown) (b1.mono (by go_size))
    go_grown
  · have fa : fv a b = true := by simp at hv; exact hv.1
    have fc : fv c d = true := by simp at hv; exact hv.2
    clear hv
    try simp only [Bool.true_and]
    rcases inside_known fa with ⟨rfl, i1⟩ | i1
    all_goals
      rcases inside_known fc with ⟨rfl, i2⟩ | i2
    · exact implFracDivWW a c w fa fc i1 i2
    · exact implFracDivWB a c d w fa fc i1 i2
    · exact implFracDivBW a b c w fa fc i1 i2
    · exact implFracDivBB a b c d w fa fc i1 i2
end Go.Proofs.Ytkcbgeldnibjcac
