/- The operations on fractions, of the model. -/
import Derived.Test.YtkcbgeldnibjcacFracIn
namespace Go.Proofs.Ytkcbgeldnibjcac
open Go.RowKit

theorem l2Two_any (a b c d : Int) (w : World) :
    Calls Try.prog 41 #[.agg #[.int .i64 a, .int .i64 b], .agg #[.int .i64 c, .int .i64 d]] w fun e w' => e = .returned (.bool (fv a b && fv c d)) ∧ Below w.heap.size w w' := by
  cases fa : fv a b
  · go_enter Try.func41, Try.ntmps41
    go_wp2_with fail
    refine (specFracValid_any _ _ _).mono ?_
    rintro e w1 ⟨rfl, b1⟩
    go_wp2
    go_ret
    exact ⟨rfl, Below.trans (by go_grown) (b1.mono (by go_size))⟩
  · go_enter Try.func41, Try.ntmps41
    go_wp2_with fail
    refine (specFracValid_any _ _ _).mono ?_
    rintro e w1 ⟨rfl, b1⟩
    obtain ⟨c0, c1, c2, c3⟩ := below_two (w.heap.size + 1) (.int .i64 c) (.int .i64 d) b1 (by go_cell) (by go_cell) (by go_simp) (by go_simp)
    have bb : Below w.heap.size w w1 := Below.trans (by go_grown) (b1.mono (by go_size))
    go_wp2_with fail
    refine (specFracValid_any _ _ _).mono ?_
    rintro e w2 ⟨rfl, b2⟩
    go_wp2
    go_ret
    exact ⟨one_of (by simp), bb.trans (b2.mono bb.size)⟩
theorem specFracAdd_any (a b c d : Int) (w : World) :
    Calls Try.prog 28 #[.agg #[.int .i64 a, .int .i64 b], .agg #[.int .i64 c, .int .i64 d]] w fun e w' => GotFrac (fv a b && fv c d) (fq a b + fq c d) w w' e := by
  cases hv : (fv a b && fv c d)
  · go_enter Try.func28, Try.ntmps28
    go_wp2_with fail
    refine (l2Two_any _ _ _ _ _).mono ?_
    rintro e w1 ⟨rfl, b1⟩
    obtain ⟨c0, c1, c2, c3⟩ := below_two (w.heap.size + 1 + 1) (.int .i64 0) (.int .i64 0) b1 (by go_cell) (by go_cell) (by go_simp) (by go_simp)
    go_wp2
    refine back_two rfl rfl rfl (stored0 _ _ c0) (stored1 _ _ c1) rfl ?_
    refine ⟨_, _, _, rfl, Res.no (.inl rfl), ?_⟩
    have bb : Below w.heap.size w w1 := Below.trans (by go_grown) (b1.mono (by go_size))
    go_grown
  · have fa : fv a b = true := by simp at hv; exact hv.1
    have fc : fv c d = true := by simp at hv; exact hv.2
    try simp only [Bool.true_and]
    have pa := fv_part fa
    have pc := fv_part fc
    have m1 := mul_part (a := a) (d := d) pa.2.2.1 pa.2.2.2 (by omega) (by omega)
    have m2 := mul_part (a := c) (d := b) pc.2.2.1 pc.2.2.2 (by omega) (by omega)
    have m3 := mul_part (a := b) (d := d) (by omega) (by omega) (by omega) (by omega)
    have m6 := Int.mul_pos (a := b) (b := d) (by omega) (by omega)
    have m4 := mul_part (a := a) (d := c) (by omega) (by omega) (by omega) (by omega)
    have m5 := mul_part (a := b) (d := c) (by omega) (by omega) (by omega) (by omega)
    have key := Lib.hid (fq_add fa fc)
    go_enter Try.func28, Try.ntmps28
    go_wp2_with fail
    refine (l2Two_any _ _ _ _ _).mono ?_
    rintro e w1 ⟨rfl, b1⟩
    obtain ⟨c0, c1, c2, c3⟩ := below_two (w.heap.size + 1 + 1) (.int .i64 0) (.int .i64 0) b1 (by go_cell) (by go_cell) (by go_simp) (by go_simp)
    obtain ⟨a0, a1, a2, a3⟩ := below_two (w.heap.size) (.int .i64 a) (.int .i64 b) b1 (by go_cell) (by go_cell) (by go_simp) (by go_simp)
    obtain ⟨d0, d1, d2, d3⟩ := below_two (w.heap.size + 1) (.int .i64 c) (.int .i64 d) b1 (by go_cell) (by go_cell) (by go_simp) (by go_simp)
    have bb : Below w.heap.size w w1 := Below.trans (by go_grown) (b1.mono (by go_size))
    go_wp2_with fail
    refine (specFracOf_any _ _ _).mono ?_
    rintro e w3 ⟨n3, d3, ok3, rfl, hr, b3⟩
    replace bb := bb.trans (b3.mono bb.size)
    obtain ⟨c0, c1, c2, c3⟩ := below_two (w.heap.size + 1 + 1) (.int .i64 0) (.int .i64 0) b3 c0 c1 c2 c3
    go_wp2
    refine back_two rfl rfl rfl (stored0 _ _ c0) (stored1 _ _ c1) rfl ?_
    refine ⟨n3, d3, ok3, rfl, ?_, by go_grown⟩
    exact Res.cast hr (ofV_iff.2 (by omega)) key.out
theorem specFracDiv_any (a b c d : Int) (w : World) :
    Calls Try.prog 36 #[.agg #[.int .i64 a, .int .i64 b], .agg #[.int .i64 c, .int .i64 d]] w fun e w' => GotFrac (fv a b && fv c d && !(c == 0)) (fq a b / fq c d) w w' e := by
  cases hv : (fv a b && fv c d)
  · go_enter Try.func36, Try.ntmps36
    go_wp2_with fail
    refine (l2Two_any _ _ _ _ _).mono ?_
    rintro e w1 ⟨rfl, b1⟩
    obtain ⟨c0, c1, c2, c3⟩ := below_two (w.heap.size + 1 + 1) (.int .i64 0) (.int .i64 0) b1 (by go_cell) (by go_cell) (by go_simp) (by go_simp)
    go_wp2
    refine back_two rfl rfl rfl (stored0 _ _ c0) (stored1 _ _ c1) rfl ?_
    refine ⟨_, _, _, rfl, Res.no (.inl rfl), ?_⟩
    have bb : Below w.heap.size w w1 := Below.trans (by go_grown) (b1.mono (by go_size))
    go_grown
  · have fa : fv a b = true := by simp at hv; exact hv.1
    have fc : fv c d = true := by simp at hv; exact hv.2
    try simp only [Bool.true_and]
    have pa := fv_part fa
    have pc := fv_part fc
    have m1 := mul_part (a := a) (d := d) pa.2.2.1 pa.2.2.2 (by omega) (by omega)
    have m2 := mul_part (a := c) (d := b) pc.2.2.1 pc.2.2.2 (by omega) (by omega)
    have m3 := mul_part (a := b) (d := d) (by omega) (by omega) (by omega) (by omega)
    have m6 := Int.mul_pos (a := b) (b := d) (by omega) (by omega)
    have m4 := mul_part (a := a) (d := c) (by omega) (by omega) (by omega) (by omega)
    have m5 := mul_part (a := b) (d := c) (by omega) (by omega) (by omega) (by omega)
    have key := Lib.hid (fq_div a b c d)
    cases hc : (c == 0)
    · have hc' : c ≠ 0 := by simpa using hc
      go_enter Try.func36, Try.ntmps36
      go_wp2_with fail
      refine (l2Two_any _ _ _ _ _).mono ?_
      rintro e w1 ⟨rfl, b1⟩
      obtain ⟨c0, c1, c2, c3⟩ := below_two (w.heap.size + 1 + 1) (.int .i64 0) (.int .i64 0) b1 (by go_cell) (by go_cell) (by go_simp) (by go_simp)
      obtain ⟨a0, a1, a2, a3⟩ := below_two (w.heap.size) (.int .i64 a) (.int .i64 b) b1 (by go_cell) (by go_cell) (by go_simp) (by go_simp)
      obtain ⟨d0, d1, d2, d3⟩ := below_two (w.heap.size + 1) (.int .i64 c) (.int .i64 d) b1 (by go_cell) (by go_cell) (by go_simp) (by go_simp)
      have bb : Below w.heap.size w w1 := Below.trans (by go_grown) (b1.mono (by go_size))
      go_wp2_with fail
      refine (specFracOf_any _ _ _).mono ?_
      rintro e w3 ⟨n3, d3, ok3, rfl, hr, b3⟩
      replace bb := bb.trans (b3.mono bb.size)
      obtain ⟨c0, c1, c2, c3⟩ := below_two (w.heap.size + 1 + 1) (.int .i64 0) (.int .i64 0) b3 c0 c1 c2 c3
      go_wp2
      refine back_two rfl rfl rfl (stored0 _ _ c0) (stored1 _ _ c1) rfl ?_
      refine ⟨n3, d3, ok3, rfl, ?_, by go_grown⟩
      refine Res.cast hr ?_ key.out
      have hz := Int.mul_eq_zero (a := b) (b := c)
      exact ofV_iff.2 (by omega)
    · go_enter Try.func36, Try.ntmps36
      go_wp2_with fail
      refine (l2Two_any _ _ _ _ _).mono ?_
      rintro e w1 ⟨rfl, b1⟩
      obtain ⟨c0, c1, c2, c3⟩ := below_two (w.heap.size + 1 + 1) (.int .i64 0) (.int .i64 0) b1 (by go_cell) (by go_cell) (by go_simp) (by go_simp)
      obtain ⟨a0, a1, a2, a3⟩ := below_two (w.heap.size) (.int .i64 a) (.int .i64 b) b1 (by go_cell) (by go_cell) (by go_simp) (by go_simp)
      obtain ⟨d0, d1, d2, d3⟩ := below_two (w.heap.size + 1) (.int .i64 c) (.int .i64 d) b1 (by go_cell) (by go_cell) (by go_simp) (by go_simp)
      have bb : Below w.heap.size w w1 := Below.trans (by go_grown) (b1.mono (by go_size))
      go_wp2
      refine back_two rfl rfl rfl (stored0 _ _ c0) (stored1 _ _ c1) rfl ?_
      exact ⟨_, _, _, rfl, Res.no (.inl rfl), by go_grown⟩
end Go.Proofs.Ytkcbgeldnibjcac
