/- The draws of fractions. -/
import Derived.Test.YtahiidepegdnmabDoorDraw
import Derived.Test.YtahiidepegdnmabDoorFracIn
import Derived.Deep.RegionWith
namespace Go.Proofs.YtahiidepegdnmabDoor
open Go.RowKit

/-- Two cells of a block that is not the reader's stay as they were. -/
theorem keep_two {W w1 : World} {b : Nat} (k : Nat) (u v : Value) (h : Keep b W w1) (hb : k ≠ b) (h0 : W.cell? ⟨k, 0, none⟩ = some u) (h1 : W.cell? ⟨k, 1, none⟩ = some v)
    (f0 : W.frozen? ⟨k, 0, none⟩ = false) (f1 : W.frozen? ⟨k, 1, none⟩ = false) :
    w1.cell? ⟨k, 0, none⟩ = some u ∧ w1.cell? ⟨k, 1, none⟩ = some v ∧ w1.frozen? ⟨k, 0, none⟩ = false ∧ w1.frozen? ⟨k, 1, none⟩ = false := by
  have hl := lt_of_cell h0
  exact ⟨(h.cell (p := ⟨k, 0, none⟩) hl hb).trans h0, (h.cell (p := ⟨k, 1, none⟩) hl hb).trans h1, (h.frozen (p := ⟨k, 0, none⟩) hl hb).trans f0, (h.frozen (p := ⟨k, 1, none⟩) hl hb).trans f1⟩
theorem keep_two_alloc {W w1 : World} {b : Nat} {o : Obj} (k : Nat) (u v : Value) (h : Keep b (W.alloc o) w1) (hb : k ≠ b) (h0 : W.cell? ⟨k, 0, none⟩ = some u) (h1 : W.cell? ⟨k, 1, none⟩ = some v)
    (f0 : W.frozen? ⟨k, 0, none⟩ = false) (f1 : W.frozen? ⟨k, 1, none⟩ = false) :
    w1.cell? ⟨k, 0, none⟩ = some u ∧ w1.cell? ⟨k, 1, none⟩ = some v ∧ w1.frozen? ⟨k, 0, none⟩ = false ∧ w1.frozen? ⟨k, 1, none⟩ = false := by
  obtain ⟨c0, c1, c2, c3⟩ := below_two k u v ((Below.refl W.heap.size W).alloc (Nat.le_refl _) o) h0 h1 f0 f1
  exact keep_two k u v h hb c0 c1 c2 c3
/-- At a return of a fraction. -/
theorem back_frac {fn : Func} (hf : fn.results = #[.cell 2 24]) {a : Act} {w : World} {k : Nat} {x y : Value} {R : Ending → World → Prop}
    (h4 : a.tmps.getD 2 undef = .pointer (some ⟨k, 0, none⟩)) (c0 : w.cell? ⟨k, 0, none⟩ = some x) (c1 : w.cell? ⟨k, 1, none⟩ = some y)
    (hd : a.defers = []) (hR : R (.returned (.agg #[x, y])) w) : bodyPost Tryd.prog fn R .ret a w := by
  rw [Array.getD_eq_getD_getElem?] at h4
  refine bodyPost_ret (v := .agg #[x, y]) ?_ hd hR
  simp [results, hf, go_sem, h4, c0, c1]
/-- A store into a block beside the reader's. -/
theorem Keep.set {b : Nat} {w0 w : World} (h : Keep b w0 w) {p : Addr} (hp : w0.heap.size ≤ p.block) (u : Value) : Keep b w0 (w.setCell p u) :=
  ⟨h.os, h.tape, h.output, by simpa [World.setCell] using h.size, fun k hk hb => (Below.heap_setCell _ _ _ _ (by omega)).trans (h.block k hk hb)⟩
theorem At.set {w : World} {b m : Nat} (h : At w b m) {p : Addr} (hp : b < p.block) (u : Value) : At (w.setCell p u) b m :=
  h.below ((Below.refl _ _).setCell (by omega) _)
/-- What a draw of a fraction comes to. -/
def DrawnFrac (w w' : World) (b m : Nat) (e : Ending) : Prop :=
  ∃ n d : Int, e = .returned (.agg #[.int .i64 n, .int .i64 d]) ∧ (-1000000000 ≤ n ∧ n ≤ 1000000000 ∧ -1000000000 ≤ d ∧ d ≤ 1000000000) ∧ At w' b m ∧ Keep b w w'
theorem drawnFrac_mk {n d : Int} {w w' : World} {b m m' : Nat} (h : -1000000000 ≤ n ∧ n ≤ 1000000000 ∧ -1000000000 ≤ d ∧ d ≤ 1000000000) (h3 : At w' b m') (h4 : m' ≤ m) (h5 : Keep b w w') :
    DrawnFrac w w' b m (.returned (.agg #[.int .i64 n, .int .i64 d])) := ⟨n, d, rfl, h, h3.mono h4, h5⟩
theorem Res.small {v : Bool} {r : Rat} {n d : Int} {ok : Bool} (h : Res v r n d ok) : -1000000000 ≤ n ∧ n ≤ 1000000000 ∧ -1000000000 ≤ d ∧ d ≤ 1000000000 := by
  rcases h with ⟨_, _, h, _⟩ | ⟨_, h, k, _⟩
  · have := fv_part h; omega
  · omega
theorem l91Frac_any {w : World} {b m : Nat} (h : At w b m) (hm : m ≤ 900000) :
    Calls Tryd.prog 7 #[.pointer (some ⟨b, 0, none⟩)] w fun e w' => DrawnFrac w w' b (m + 4) e := by
  have hb := h.lt
  go_enter Tryd.func7, Tryd.ntmps7
  go_wp2_with fail
  refine (pick_at _ (h.alloc _) (by omega)).mono ?_
  rintro e w1 ⟨r, rfl, r0, r1, _, a1, k1⟩
  replace r1 := r1 (by decide)
  obtain ⟨c0, c1, c2, c3⟩ := keep_two w.heap.size (.int .i64 0) (.int .i64 0) k1 (by omega) (by go_cell) (by go_cell) (by go_simp) (by go_simp)
  replace k1 := (Keep.alloc b w _).trans k1
  go_wp2_with fail
  refine (pick_at _ a1 (by omega)).mono ?_
  rintro e w2 ⟨q, rfl, q0, q1, _, a2, k2⟩
  replace q1 := q1 (by decide)
  obtain ⟨c0, c1, c2, c3⟩ := keep_two w.heap.size (.int .i64 0) (.int .i64 0) k2 (by omega) c0 c1 c2 c3
  replace k2 := k1.trans k2
  clear k1
  go_wp2_with fail
  refine (specFracOf_any _ _ _).mono ?_
  rintro e w3 ⟨n, d, ok, rfl, hr, b3⟩
  obtain ⟨c0, c1, c2, c3⟩ := below_two w.heap.size (.int .i64 0) (.int .i64 0) b3 c0 c1 c2 c3
  have a3 := a2.below (b3.mono a2.lt)
  have k3 := k2.trans (Keep.made b3)
  have hs := k3.size
  have lt3 := lt_of_cell c0
  simp at lt3
  clear k2 b3 a2
  go_wp2_with fail
  refine (pick_at _ (a3.alloc _) (by omega)).mono ?_
  rintro e w4 ⟨s, rfl, s0, s1, _, a4, k4⟩
  replace s1 := s1 (by decide)
  obtain ⟨x0, x1, x2, x3⟩ := keep_two w3.heap.size (.int .i64 n) (.int .i64 d) k4 (by omega) (by go_cell) (by go_cell) (by go_simp) (by go_simp)
  obtain ⟨c0, c1, c2, c3⟩ := keep_two_alloc w.heap.size (.int .i64 0) (.int .i64 0) k4 (by omega) c0 c1 c2 c3
  replace k4 := (k3.trans (Keep.alloc b w3 _)).trans k4
  clear a3 k3
  have hr' := hr.small
  clear hr
  by_cases z : s = 0
  · subst z
    go_wp2_with fail
    refine (pick_at _ (a4.alloc _) (by omega)).mono ?_
    rintro e w5 ⟨p, rfl, p0, p1, _, a5, k5⟩
    replace p1 := p1 (by decide)
    have h4 := lt_of_cell x0
    simp at h4
    have e0 := k5.cell (p := ⟨w4.heap.size, 0, none⟩) (by simp) (by simp; omega)
    have e1 := k5.cell (p := ⟨w4.heap.size, 1, none⟩) (by simp) (by simp; omega)
    have e2 := k5.cell (p := ⟨w4.heap.size, 2, none⟩) (by simp) (by simp; omega)
    have e3 := k5.cell (p := ⟨w4.heap.size, 3, none⟩) (by simp) (by simp; omega)
    have e4 := k5.cell (p := ⟨w4.heap.size, 4, none⟩) (by simp) (by simp; omega)
    have e5 := k5.cell (p := ⟨w4.heap.size, 5, none⟩) (by simp) (by simp; omega)
    have e6 := k5.cell (p := ⟨w4.heap.size, 6, none⟩) (by simp) (by simp; omega)
    have e7 := k5.cell (p := ⟨w4.heap.size, 7, none⟩) (by simp) (by simp; omega)
    simp at e0 e1 e2 e3 e4 e5 e6 e7
    obtain ⟨c0, c1, c2, c3⟩ := keep_two_alloc w.heap.size (.int .i64 0) (.int .i64 0) k5 (by omega) c0 c1 c2 c3
    have kk := (k4.trans (Keep.alloc _ w4 _)).trans k5
    have hp : p = 0 ∨ p = 1 ∨ p = 2 ∨ p = 3 := by omega
    rcases hp with rfl | rfl | rfl | rfl
    all_goals
      go_wp2
      refine back_frac rfl rfl (stored0 _ _ c0) (stored1 _ _ c1) rfl ?_
      exact drawnFrac_mk (by decide) ((a5.set hb _).set hb _) (by omega) ((kk.set (Nat.le_refl _) _).set (Nat.le_refl _) _)
  · by_cases z1 : s = 1
    · subst z1
      go_wp2_with fail
      refine (pick_at _ (a4.alloc _) (by omega)).mono ?_
      rintro e w5 ⟨p, rfl, p0, p1, _, a5, k5⟩
      replace p1 := p1 (by decide)
      have h4 := lt_of_cell x0
      simp at h4
      have e0 := k5.cell (p := ⟨w4.heap.size, 0, none⟩) (by simp) (by simp; omega)
      have e1 := k5.cell (p := ⟨w4.heap.size, 1, none⟩) (by simp) (by simp; omega)
      have e2 := k5.cell (p := ⟨w4.heap.size, 2, none⟩) (by simp) (by simp; omega)
      have e3 := k5.cell (p := ⟨w4.heap.size, 3, none⟩) (by simp) (by simp; omega)
      have e4 := k5.cell (p := ⟨w4.heap.size, 4, none⟩) (by simp) (by simp; omega)
      have e5 := k5.cell (p := ⟨w4.heap.size, 5, none⟩) (by simp) (by simp; omega)
      simp at e0 e1 e2 e3 e4 e5
      obtain ⟨c0, c1, c2, c3⟩ := keep_two_alloc w.heap.size (.int .i64 0) (.int .i64 0) k5 (by omega) c0 c1 c2 c3
      have kk := (k4.trans (Keep.alloc _ w4 _)).trans k5
      have hp : p = 0 ∨ p = 1 ∨ p = 2 := by omega
      rcases hp with rfl | rfl | rfl
      all_goals
        go_wp2
        refine back_frac rfl rfl (stored0 _ _ c0) (stored1 _ _ c1) rfl ?_
        exact drawnFrac_mk (by decide) ((a5.set hb _).set hb _) (by omega) ((kk.set (Nat.le_refl _) _).set (Nat.le_refl _) _)
    · have z2 : (s == 0) = false := by simpa using z
      have z3 : (s == 1) = false := by simpa using z1
      clear z z1
      go_wp2
      refine back_frac rfl rfl (stored0 _ _ c0) (stored1 _ _ c1) rfl ?_
      exact drawnFrac_mk hr' ((a4.set hb _).set hb _) (by omega) ((k4.set (Nat.le_refl _) _).set (Nat.le_refl _) _)
end Go.Proofs.YtahiidepegdnmabDoor
