/- The whole part of a fraction, of the program and of the model. -/
import Derived.Test.YtahiidepegdnmabFracIn
namespace Go.Proofs.Ytahiidepegdnmab
open Go.RowKit

/-- The whole part of a fraction, or 0. -/
def fl (n d : Int) : Int := bif fv n d then n / d else 0
theorem fl_yes {n d : Int} (h : fv n d = true) : fl n d = n / d := by simp [fl, h]
theorem fl_floor {n d : Int} (h : fv n d = true) : fl n d = (fq n d).floor := by
  rw [fl_yes h, Rat.floor_def, fq_num h, fq_den h]
theorem div_part {n d : Int} (h : fv n d = true) : -1000000000 ≤ n / d ∧ n / d ≤ 1000000000 ∧ -1000000000 ≤ Int.tdiv n d ∧ Int.tdiv n d ≤ 1000000000 := by
  have p := fv_part h
  have h1 : (Int.tdiv n d).natAbs ≤ n.natAbs := by rw [Int.natAbs_tdiv]; exact Nat.div_le_self _ _
  have h2 : (n / d) * d ≤ n := Int.ediv_mul_le n (by omega)
  have h3 : -1000000000 ≤ n / d := (Int.le_ediv_iff_mul_le (by omega)).2 (by omega)
  have h4 : n / d ≤ 1000000000 := by
    have : n / d < 1000000000 + 1 := Int.ediv_lt_of_lt_mul (by omega) (by omega)
    omega
  omega
theorem tdiv_below {n d : Int} (h : fv n d = true) (h1 : d ≠ 1) (h2 : n < 0) : Int.tdiv n d = n / d + 1 := by
  have p := fv_iff.1 h
  have hn : ¬ d ∣ n := by
    intro k
    have g := Int.gcd_eq_right_iff_dvd (a := n) (b := d) (by omega) |>.2 k
    rw [p.2.2.2.2] at g
    exact h1 g.symm
  rw [Int.tdiv_eq_ediv, if_neg (by simp [hn]; omega), Int.sign_eq_one_of_pos (by omega)]
theorem brokenFloor_any (n d : Int) (h : fv n d = true) (hd : d ≠ 1) (w : World) :
    Calls Try.prog 36 #[.agg #[.int .i64 n, .int .i64 d]] w fun e w' => e = .returned (.int .i64 (fl n d)) ∧ Below w.heap.size w w' := by
  have q := div_part h
  have p := fv_part h
  have d0 : (d == 0) = false := by simp; omega
  rw [fl_yes h]
  by_cases hn : n < 0
  · have d1 : decide (n < 0) = true := by simpa using hn
    have k := Lib.hid (tdiv_below h hd hn)
    go_enter Try.func36, Try.ntmps36
    go_wp2
    go_ret
    exact ⟨by show Ending.returned (.int .i64 _) = _; rw [k.out]; congr 2; omega, by go_grown⟩
  · have d1 : decide (n < 0) = false := by simpa using hn
    have k := Lib.hid (Int.tdiv_eq_ediv_of_nonneg (a := n) (b := d) (by omega))
    go_enter Try.func36, Try.ntmps36
    go_wp2
    go_ret
    exact ⟨by first | rfl | (show Ending.returned (.int .i64 _) = _; rw [k.out]), by go_grown⟩
theorem inside_parts {n d : Int} (h : fv n d = true) : (d = 1 ∧ inside n d = .iface 46 (.int .i64 n)) ∨ (d ≠ 1 ∧ inside n d = .iface 48 (.agg #[.int .i64 n, .int .i64 d])) := by
  unfold inside
  rw [h]
  by_cases k : d = 1
  · subst k; exact .inl ⟨rfl, rfl⟩
  · refine .inr ⟨k, ?_⟩
    have : (d == 1) = false := by simpa using k
    rw [this]; rfl
@[go_sem] theorem nil_whole (w : World) : (Instr.typeAssert .nilIface 40 46 true).run Try.prog w = .ok (.tuple #[.int .i64 0, .bool false]) w := by kernel_rfl
@[go_sem] theorem nil_broken (w : World) : (Instr.typeAssert .nilIface 40 48 true).run Try.prog w = .ok (.tuple #[.agg #[.int .i64 0, .int .i64 0], .bool false]) w := by kernel_rfl
@[go_sem] theorem whole_whole (n : Int) (w : World) : (Instr.typeAssert (.iface 46 (.int .i64 n)) 40 46 true).run Try.prog w = .ok (.tuple #[.int .i64 n, .bool true]) w := by kernel_rfl
@[go_sem] theorem broken_whole (n d : Int) (w : World) : (Instr.typeAssert (.iface 48 (.agg #[.int .i64 n, .int .i64 d])) 40 46 true).run Try.prog w = .ok (.tuple #[.int .i64 0, .bool false]) w := by kernel_rfl
@[go_sem] theorem broken_broken (n d : Int) (w : World) : (Instr.typeAssert (.iface 48 (.agg #[.int .i64 n, .int .i64 d])) 40 48 true).run Try.prog w =
    .ok (.tuple #[.agg #[.int .i64 n, .int .i64 d], .bool true]) w := by kernel_rfl
theorem implFracFloor_any (n d : Int) (w : World) :
    Calls Try.prog 15 #[.agg #[.int .i64 n, .int .i64 d]] w fun e w' => e = .returned (.tuple #[.int .i64 (fl n d), .bool (fv n d)]) ∧ Below w.heap.size w w' := by
  cases h : fv n d
  · have i1 : inside n d = .nilIface := by simp [inside, h]
    have f1 : fl n d = 0 := by simp [fl, h]
    go_enter Try.func15, Try.ntmps15
    go_wp2_with fail
    refine (rationalOf_any _ _ _).mono ?_
    rintro e w1 ⟨rfl, b1⟩
    go_wp2
    go_ret2
    exact ⟨by simp [*], Below.trans (by go_grown) (b1.mono (by go_size))⟩
  · rcases inside_parts h with ⟨rfl, i1⟩ | ⟨hd, i1⟩
    · have f1 : fl n 1 = n := by rw [fl_yes h, Int.ediv_one]
      go_enter Try.func15, Try.ntmps15
      go_wp2_with fail
      refine (rationalOf_any _ _ _).mono ?_
      rintro e w1 ⟨rfl, b1⟩
      go_wp2
      go_ret2
      exact ⟨by simp [*], Below.trans (by go_grown) (b1.mono (by go_size))⟩
    · go_enter Try.func15, Try.ntmps15
      go_wp2_with fail
      refine (rationalOf_any _ _ _).mono ?_
      rintro e w1 ⟨rfl, b1⟩
      have bb : Below w.heap.size w w1 := Below.trans (by go_grown) (b1.mono (by go_size))
      have hs := bb.size
      go_wp2_with fail
      refine (brokenFloor_any _ _ h hd _).mono ?_
      rintro e w2 ⟨rfl, b2⟩
      go_wp2
      go_ret2
      exact ⟨by simp [*], Below.trans (by go_grown) (b2.mono (by go_size))⟩
theorem l2Floor_any (n d : Int) (h : fv n d = true) (w : World) :
    Calls Try.prog 38 #[.int .i64 n, .int .i64 d] w fun e w' => e = .returned (.int .i64 (fl n d)) ∧ w = w' := by
  have q := div_part h
  have p := fv_part h
  have d0 : (d == 0) = false := by simp; omega
  have d3 : (d == -1) = false := by simp; omega
  rw [fl_yes h]
  have k := Int.tdiv_eq_ediv (a := n) (b := d)
  have k2 := Int.tmod_eq_emod (a := n) (b := d)
  have k3 := Int.emod_nonneg n (b := d) (by omega)
  have k4 := Int.emod_lt_of_pos n (b := d) (by omega)
  by_cases hn : 0 ≤ n ∨ d ∣ n
  · rw [if_pos hn] at k k2
    have d1 : decide (Int.tmod n d < 0) = false := by simp; omega
    have k' := Lib.hid k
    clear k k2 k3 k4 hn
    go_enter Try.func38, Try.ntmps38
    go_wp2
    go_ret
    exact ⟨by show Ending.returned (.int .i64 _) = _; rw [k'.out]; congr 2; omega, rfl⟩
  · rw [if_neg hn] at k k2
    rw [Int.sign_eq_one_of_pos (by omega)] at k
    have d1 : decide (Int.tmod n d < 0) = true := by simp; omega
    have k' := Lib.hid k
    clear k k2 k3 k4 hn
    go_enter Try.func38, Try.ntmps38
    go_wp2
    go_ret
    exact ⟨by show Ending.returned (.int .i64 _) = _; rw [k'.out]; congr 2; omega, rfl⟩
theorem specFracFloor_any (n d : Int) (w : World) :
    Calls Try.prog 16 #[.agg #[.int .i64 n, .int .i64 d]] w fun e w' => e = .returned (.tuple #[.int .i64 (fl n d), .bool (fv n d)]) ∧ Below w.heap.size w w' := by
  cases h : fv n d
  · have f1 : fl n d = 0 := by simp [fl, h]
    go_enter Try.func16, Try.ntmps16
    go_wp2_with fail
    refine (specFracValid_any _ _ _).mono ?_
    rintro e w1 ⟨rfl, b1⟩
    go_wp2
    go_ret2
    exact ⟨by simp [*], Below.trans (by go_grown) (b1.mono (by go_size))⟩
  · go_enter Try.func16, Try.ntmps16
    go_wp2_with fail
    refine (specFracValid_any _ _ _).mono ?_
    rintro e w1 ⟨rfl, b1⟩
    obtain ⟨c0, c1, c2, c3⟩ := below_two w.heap.size (.int .i64 n) (.int .i64 d) b1 (by go_cell) (by go_cell) (by go_simp) (by go_simp)
    have bb : Below w.heap.size w w1 := Below.trans (by go_grown) (b1.mono (by go_size))
    go_wp2_with (go_at_call 38; refine (l2Floor_any _ _ h _).mono ?_; rintro e w2 ⟨rfl, rfl⟩)
    go_ret2
    exact ⟨by simp [*], bb⟩
/-- A whole number that is added comes out of the whole part. -/
theorem floor_shift {a b k n d : Int} (h : fv a b = true) (h' : fv n d = true) (e : fq n d = fq a b + fq k 1) : fl n d = fl a b + k := by
  rw [fl_floor h, fl_floor h', e, fq_whole, Rat.floor_add_intCast]
/-- The whole part of the opposite. -/
theorem floor_flip {a b : Int} (h : fv a b = true) : fl (-a) b = 0 - fl a b - min 1 (b - 1) := by
  have p := fv_part h
  have ng := fv_neg h
  rw [Int.zero_sub] at ng
  rw [fl_yes h, fl_yes ng.1]
  by_cases hb : b = 1
  · subst hb; simp; omega
  · have g := (fv_iff.1 h).2.2.2.2
    have hn : ¬ b ∣ a := by
      intro k
      have := Int.gcd_eq_right_iff_dvd (a := a) (b := b) (by omega) |>.2 k
      rw [g] at this; omega
    have e := Int.neg_ediv (a := a) (b := b)
    rw [e, if_neg hn, Int.sign_eq_one_of_pos (by omega)]
    omega
end Go.Proofs.Ytahiidepegdnmab
