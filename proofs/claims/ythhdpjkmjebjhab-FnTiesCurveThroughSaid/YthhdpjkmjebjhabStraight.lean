/- The contracts of the program's functions on curves: the straight parts, as functions. -/
import Derived.Test.YthhdpjkmjebjhabCurveImpl
import Derived.Laws.NewBlocks
namespace Go.Proofs.Ythhdpjkmjebjhab
open Go.RowKit

/-- At a return of a fraction that lies in a result's block (slot s) and of a word (slot s + 1). -/
theorem back_at (s : Nat) {fn : Func} (hf : fn.results = #[.cell s 41, .tmp (s + 1)]) {a : Act} {w : World} {k : Nat} {x y b : Value} {R : Ending → World → Prop}
    (h4 : a.tmps.getD s undef = .pointer (some ⟨k, 0, none⟩)) (h5 : a.tmps.getD (s + 1) undef = b) (c0 : w.cell? ⟨k, 0, none⟩ = some x) (c1 : w.cell? ⟨k, 1, none⟩ = some y)
    (hd : a.defers = []) (hR : R (.returned (.tuple #[.agg #[x, y], b])) w) : bodyPost Try.prog fn R .ret a w := by
  rw [Array.getD_eq_getD_getElem?] at h4 h5
  refine bodyPost_ret (v := .tuple #[.agg #[x, y], b]) ?_ hd hR
  simp [results, hf, go_sem, h4, h5, c0, c1]
/-- The value s is the straight part through p and q: a function with its knot, its width and its height in blocks from B on. -/
def Straight (w : World) (B : Nat) (s : Value) (p q : Pc) : Prop :=
  ∃ b1 b2 b3 : Nat, s = .func (.func 81) #[] #[.pointer (some ⟨b1, 0, none⟩), .pointer (some ⟨b2, 0, none⟩), .pointer (some ⟨b3, 0, none⟩)] ∧ B ≤ b1 ∧ B ≤ b2 ∧ B ≤ b3 ∧
    w.cell? ⟨b1, 0, none⟩ = some (.int .i64 p.1) ∧ w.cell? ⟨b1, 1, none⟩ = some (.int .i64 p.2) ∧ w.cell? ⟨b2, 0, none⟩ = some (.int .i64 (q.1 - p.1)) ∧ w.cell? ⟨b3, 0, none⟩ = some (.int .i64 (q.2 - p.2))
theorem Straight.grow {w w' : World} {B : Nat} {s : Value} {p q : Pc} (h : Straight w B s p q) (k : Below w.heap.size w w') : Straight w' B s p q := by
  obtain ⟨b1, b2, b3, e, h1, h2, h3, c1, c2, c3, c4⟩ := h
  exact ⟨b1, b2, b3, e, h1, h2, h3, (k.cell (cell_below c1)).trans c1, (k.cell (cell_below c2)).trans c2, (k.cell (cell_below c3)).trans c3, (k.cell (cell_below c4)).trans c4⟩
theorem Straight.mono {w : World} {B B' : Nat} {s : Value} {p q : Pc} (h : Straight w B s p q) (k : B' ≤ B) : Straight w B' s p q := by
  obtain ⟨b1, b2, b3, e, h1, h2, h3, c⟩ := h
  exact ⟨b1, b2, b3, e, Nat.le_trans k h1, Nat.le_trans k h2, Nat.le_trans k h3, c⟩
/-- What straightBetween hands back. -/
def Drawn (w : World) (p q : Pc) (e : Ending) (w' : World) : Prop := ∃ s, e = .returned s ∧ Straight w' w.heap.size s p q ∧ Below w.heap.size w w'

set_option maxHeartbeats 800000 in
theorem straightBetween_any {p q : Pc} (w : World) (hp : Dp p) (hq : Dp q) :
    Calls Try.prog 66 #[.agg #[.int .i64 p.1, .int .i64 p.2], .agg #[.int .i64 q.1, .int .i64 q.2]] w fun e w' => Drawn w p q e w' := by
  obtain ⟨p1, p2, p3, p4⟩ := hp
  obtain ⟨q1, q2, q3, q4⟩ := hq
  go_enter Try.func66, Try.ntmps66
  go_wp2_with fail
  go_region
  all_goals
    go_wp2_with fail
    go_ret
    exact ⟨_, rfl, ⟨_, _, _, rfl, by omega, by omega, by omega, by go_cell, by go_cell, by go_cell, by go_cell⟩, by go_grown⟩

theorem seg_div {p q : Pc} {n d : Int} (h : p.1 < q.1) (hd : 0 < d) :
    seg p q (fq n d) = Rat.divInt (p.2 * (q.1 - p.1) * d + (n - p.1 * d) * (q.2 - p.2)) ((q.1 - p.1) * d) := by
  have a := rat_lt h
  have b := rat_lt hd
  have h3 : (q.1 : Rat) - (p.1 : Rat) ≠ 0 := by grind
  have h4 : (d : Rat) ≠ 0 := by have : ((0 : Int) : Rat) = 0 := rfl; grind
  have e : fq n d = (n : Rat) / (d : Rat) := Rat.divInt_eq_div n d
  rw [Rat.divInt_eq_div, e]
  simp only [Rat.intCast_add, Rat.intCast_mul, Rat.intCast_sub]
  unfold seg; grind
theorem prod_le {a b A B : Int} (h0 : 0 ≤ a) (h1 : a ≤ A) (k0 : 0 ≤ b) (k1 : b ≤ B) : 0 ≤ a * b ∧ a * b ≤ A * B :=
  ⟨Int.mul_nonneg h0 k0, Int.mul_le_mul h1 k1 k0 (by omega)⟩

set_option maxHeartbeats 800000 in
/-- A straight part, called at a number between its ends. -/
theorem straight_any {w : World} {B : Nat} {s : Value} {p q : Pc} (h : Straight w B s p q) (hp : Dp p) (hq : Dp q) (h1 : p.1 < q.1) (h2 : p.2 < q.2) {n d : Int} (hf : fv n d = true) (lo : (p.1 : Rat) ≤ fq n d) (hi : fq n d ≤ (q.1 : Rat)) {R : Ending → World → Prop}
    (hR : ∀ e w', GotFrac true (seg p q (fq n d)) w w' e → R e w') :
    ∃ c, s = .func (.func 81) #[] c ∧ Calls Try.prog 81 (#[.agg #[.int .i64 n, .int .i64 d]] ++ c) w R := by
  obtain ⟨b1, b2, b3, rfl, _, _, _, c1, c2, c3, c4⟩ := h
  refine ⟨_, rfl, ?_⟩
  obtain ⟨p1, p2, p3, p4⟩ := hp
  obtain ⟨q1, q2, q3, q4⟩ := hq
  have k := fv_part hf
  have l1 := cell_below c1; have l2 := cell_below c3; have l3 := cell_below c4
  simp only at l1 l2 l3
  have e := Lib.hid (seg_div (n := n) h1 (show 0 < d by omega))
  -- between the ends, without fractions
  have lo' : p.1 * d ≤ n := by
    have := (Rat.le_iff _ _).1 lo
    rw [fq_num hf, fq_den hf] at this; simpa using this
  have hi' : n ≤ q.1 * d := by
    have := (Rat.le_iff _ _).1 hi
    rw [fq_num hf, fq_den hf] at this; simpa using this
  clear lo hi
  have m1 := prod_le (a := p.2) (A := 30000) (b := q.1 - p.1) (B := 30000) (by omega) (by omega) (by omega) (by omega)
  have m2 := prod_le (a := p.2 * (q.1 - p.1)) (A := 900000000) (b := d) (B := 1000000000) (by omega) (by omega) (by omega) (by omega)
  have m3 := prod_le (a := p.1) (A := 30000) (b := d) (B := 1000000000) (by omega) (by omega) (by omega) (by omega)
  have m4 := prod_le (a := n - p.1 * d) (A := 1000000000) (b := q.2 - p.2) (B := 30000) (by omega) (by omega) (by omega) (by omega)
  have m5 := prod_le (a := q.1 - p.1) (A := 30000) (b := d) (B := 1000000000) (by omega) (by omega) (by omega) (by omega)
  have m6 := Int.mul_pos (a := q.1 - p.1) (b := d) (by omega) (by omega)
  have RR := Lib.hid hR
  clear hR hf
  go_enter Try.func81, Try.ntmps81
  go_wp2_with fail
  refine (implFracOf_any _ _ _).mono ?_
  rintro e w3 ⟨n3, d3, ok3, rfl, hr, b3⟩
  have B3 : Hid (Below w.heap.size w w3) := Lib.hid (Below.trans (by go_grown) (b3.mono (by go_size)))
  obtain ⟨z0, z1, z2, z3⟩ := below_two (w.heap.size + 1) (.int .i64 0) (.int .i64 0) b3 (by go_cell) (by go_cell) (by go_simp) (by go_simp)
  clear b3
  go_wp2
  refine back_at 5 rfl rfl rfl (stored0 _ _ z0) (stored1 _ _ z1) rfl ?_
  refine RR.out _ _ ⟨n3, d3, ok3, rfl, Res.cast hr (ofV_iff.2 (by omega)) e.out.symm, ?_⟩
  have := B3.out
  go_grown
theorem nowhere_any (n d : Int) (w : World) :
    Calls Try.prog 65 #[.agg #[.int .i64 n, .int .i64 d]] w fun e w' => e = .returned (.tuple #[.agg #[.int .i64 0, .int .i64 0], .bool false]) ∧ Below w.heap.size w w' := by
  go_enter Try.func65, Try.ntmps65
  go_wp2
  refine back_at 2 (x := .int .i64 0) (y := .int .i64 0) rfl rfl rfl (by go_cell) (by go_cell) rfl ?_
  exact ⟨rfl, by go_grown⟩
end Go.Proofs.Ythhdpjkmjebjhab
