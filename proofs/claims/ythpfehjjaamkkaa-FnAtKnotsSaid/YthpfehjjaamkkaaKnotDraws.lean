/- The draws of the laws on curves. -/
import Derived.Test.YthpfehjjaamkkaaCurveDraws
import Derived.Test.YthpfehjjaamkkaaStraight
namespace Go.Proofs.Ythpfehjjaamkkaa
open Go.RowKit

/-- A drawn list; .. and a number; two lists and a number; a list and a knot. -/
def Dk1 (w : World) (e : Ending) (w' : World) : Prop := ∃ v l, e = .returned v ∧ Row w' v l ∧ Bd 200000 8 l ∧ 1 ≤ l.length ∧ Below w.heap.size w w'
def Dk2 (w : World) (e : Ending) (w' : World) : Prop := ∃ v l x, e = .returned (.tuple #[v, .int .i64 x]) ∧ Row w' v l ∧ Bd 200000 8 l ∧ 1 ≤ l.length ∧ -300000 ≤ x ∧ x ≤ 300000 ∧ Below w.heap.size w w'
def Dk3 (w : World) (e : Ending) (w' : World) : Prop :=
  ∃ v u l m x, e = .returned (.tuple #[v, u, .int .i64 x]) ∧ Row w' v l ∧ Row w' u m ∧ Bd 200000 8 l ∧ Bd 200000 8 m ∧ 1 ≤ l.length ∧ 1 ≤ m.length ∧ -300000 ≤ x ∧ x ≤ 300000 ∧ Below w.heap.size w w'
def DkK (w : World) (e : Ending) (w' : World) : Prop :=
  ∃ v l x y, e = .returned (.tuple #[v, .agg #[.int .i64 x, .int .i64 y]]) ∧ Row w' v l ∧ Bd 200000 8 l ∧ 1 ≤ l.length ∧ (-300000 ≤ x ∧ x ≤ 300000) ∧ (-300000 ≤ y ∧ y ≤ 300000) ∧ Below w.heap.size w w'

theorem DrawCurveTurn_any {w : World} {a : Option Addr} {len cap : Nat} (h : Bytes w a len cap) :
    Calls Try.prog 23 #[.slice a len cap] w fun e w' => Dk1 w e w' := by
  go_enter Try.func23, Try.ntmps23
  go_wp2_with fail
  refine (open_any h).mono ?_
  rintro e w1 ⟨rfl, a1, b1, s1⟩
  go_wp2_with fail
  refine (l91Curve_any a1 (by omega)).mono ?_
  rintro e w2 ⟨v, l, rfl, ho, hb, hl, a2, k2⟩
  go_wp2_with fail
  go_ret
  exact ⟨v, l, rfl, ho.row, hb.mono (by omega) (by omega), hl, k2.below b1 (Nat.le_refl _) b1.size⟩
theorem DrawCurveAt_any {w : World} {a : Option Addr} {len cap : Nat} (h : Bytes w a len cap) :
    Calls Try.prog 15 #[.slice a len cap] w fun e w' => Dk2 w e w' := by
  go_enter Try.func15, Try.ntmps15
  go_wp2_with fail
  refine (open_any h).mono ?_
  rintro e w1 ⟨rfl, a1, b1, s1⟩
  go_wp2_with fail
  refine (l91On_any a1 (by omega)).mono ?_
  rintro e w2 ⟨v, l, x, rfl, ho, hb, hl, x0, x1, a2, k2⟩
  go_wp2_with fail
  go_ret2
  exact ⟨v, l, x, rfl, ho.row, hb.mono (by omega) (by omega), hl, by omega, by omega, k2.below b1 (Nat.le_refl _) b1.size⟩

set_option maxRecDepth 100000 in
set_option maxHeartbeats 1600000 in
theorem DrawCurveValid_any {w : World} {a : Option Addr} {len cap : Nat} (h : Bytes w a len cap) :
    Calls Try.prog 12 #[.slice a len cap] w fun e w' => Dk1 w e w' := by
  go_enter Try.func12, Try.ntmps12
  go_wp2_with fail
  refine (open_any h).mono ?_
  rintro e w1 ⟨rfl, a1, b1, s1⟩
  have BO := Lib.hid b1
  go_wp2_with fail
  refine (l91Curve_any a1 (by omega)).mono ?_
  rintro e w2 ⟨v, l, rfl, ho, hb, hl, a2, k2⟩
  have O2 := Lib.hid ho; have BD := Lib.hid hb; have A2 := Lib.hid a2; have K2 := Lib.hid k2
  have hlz : 0 < l.length := hl
  have hs2 := k2.size
  have hl6 := hb.1
  clear ho hb a2 k2 a1 b1 h
  go_wp2_with fail
  refine (pick_at 6 A2.out (by omega)).mono ?_
  rintro e w3 ⟨r, rfl, p3, q3, _, a3, k3⟩
  have A3 := Lib.hid a3; have K3 := Lib.hid (K2.out.trans k3); have O3 := Lib.hid (O2.out.keep k3 s1)
  have hs3 := k3.size
  clear a3 k3
  by_cases z : r = 0
  · subst z
    obtain ⟨g, cp, rfl, hcap, hcapm, hBg, hgw, hp⟩ := O3.out.at hlz
    unfold maxLen at hcapm
    have hp0 := hp 0 hlz
    have t0 := hp0.top; have t2 := hp0.f0
    have ST := Lib.hid hp0.setTop
    simp only [Nat.zero_mul] at t0 t2 ST
    have bl := BD.out.get 0 hlz
    have hgb : g ≠ w.heap.size := by omega
    clear hp hp0
    go_wp2_with fail
    refine calm_region 10 (fun w' => w'.cell? ⟨g, 0, none⟩ = some (.int .i64 l[0].1)) (by kernel_rfl) (by go_keep) (fun hHeld => ?_)
    refine take_l 0 12 rfl rfl (by kernel_rfl) (by kernel_rfl) (by kernel_rfl) (by kernel_rfl) (fun _ _ _ h => h) (by kernel_rfl) (by intro w hSw; (try dsimp only at hSw); go_simp; try with_reducible rfl) (by assumption) ?_
    refine take_l 1 13 rfl rfl (by kernel_rfl) (by kernel_rfl) (by kernel_rfl) (by kernel_rfl) (fun _ _ _ h => h) (by kernel_rfl) (by intro w hSw; (try dsimp only at hSw); go_simp; try with_reducible rfl) (by assumption) ?_
    refine take_l 2 14 rfl rfl (by kernel_rfl) (by kernel_rfl) (by kernel_rfl) (by kernel_rfl) (fun _ _ _ h => h) (by kernel_rfl) (by intro w hSw; (try dsimp only at hSw); go_simp; try with_reducible rfl) (by assumption) ?_
    refine take_l 3 15 rfl rfl (by kernel_rfl) (by kernel_rfl) (by kernel_rfl) (by kernel_rfl) (fun _ _ _ h => h) (by kernel_rfl) (by intro w hSw; (try dsimp only at hSw); go_simp; try with_reducible rfl) (by assumption) ?_
    refine take_l 4 16 rfl rfl (by kernel_rfl) (by kernel_rfl) (by kernel_rfl) (by kernel_rfl) (fun _ _ _ h => h) (by kernel_rfl) (by intro w hSw; (try dsimp only at hSw); go_simp; try with_reducible rfl) (by assumption) ?_
    refine take_l 5 17 rfl rfl (by kernel_rfl) (by kernel_rfl) (by kernel_rfl) (by kernel_rfl) (fun _ _ _ h => h) (by kernel_rfl) (by intro w hSw; (try dsimp only at hSw); go_simp; try with_reducible rfl) (by assumption) ?_
    refine step_l 6 (by kernel_rfl) rfl (fun K hK => ?_)
    go_simp
    go_wp2_with (go_at_call 33; refine (pick_at (b := w.heap.size) (m := 21) 9 A3.out.drew (by omega)).mono ?_; rintro e w5 ⟨q, rfl, q0, q1, _, a5, k5⟩; replace q1 := q1 (by decide); have z1 : IntKind.i64.wrap (l[0].1 + q) = l[0].1 + q := IntWalk.i64_in _ (by omega); have f5 := (k5.frozen (p := ⟨g, 0, none⟩) (by show g < _; exact hgw) hgb).trans (show w3.drew.frozen? _ = false from t2))
    refine hK.out _ _ (by (try dsimp only); exact (k5.cell (cell_below hHeld) hgb).trans hHeld) (fun hHeld => ?_)
    clear hK K
    refine take_l 7 19 rfl rfl (by kernel_rfl) (by kernel_rfl) (by kernel_rfl) (by kernel_rfl) (fun _ _ _ h => h) (by kernel_rfl) (by intro w hSw; (try dsimp only at hSw); go_simp; try with_reducible rfl) (by assumption) ?_
    refine step_l 8 (by kernel_rfl) rfl (fun K hK => ?_)
    go_simp
    refine hK.out _ _ hHeld (fun hHeld => ?_)
    clear hK K
    refine step_l 9 (by kernel_rfl) rfl (fun K hK => ?_)
    go_simp
    refine hK.out _ _ hHeld (fun hHeld => ?_)
    clear hK K
    refine last_l (by kernel_rfl) rfl (by kernel_rfl) (fun K hK => ?_)
    go_simp
    refine hK.out _ _ ?_
    clear hK K
    simp only [Exit.then]
    try simp only [Act.put, List.setIfInBounds_toArray, List.set_cons_succ, List.set_cons_zero]
    have O5 := (O3.out.grow (Below.refl _ _).drew).keep k5 s1
    obtain ⟨g', cp', e', _, _, _, _, hp5⟩ := O5.at hlz
    simp only [Value.slice.injEq, Option.some.injEq, Addr.mk.injEq, and_true, true_and] at e'
    obtain ⟨rfl, rfl⟩ := e'
    have S5 := (hp5 0 hlz).setTop (l[0].1 + q)
    simp only [Nat.zero_mul] at S5
    have SH := Lib.hid S5
    have B5 := Lib.hid ((((K3.out.trans (Keep.drew _ w3)).trans k5).below BO.out (Nat.le_refl _) BO.out.size).setCell (p := ⟨g, 0, none⟩) (show w.heap.size ≤ g by omega) (.int .i64 (l[0].1 + q)))
    clear hp5 S5 O5 k5 a5 ST
    go_wp2_with fail
    go_ret
    exact ⟨_, l.set 0 (l[0].1 + q, l[0].2), rfl, SH.out.row, ((BD.out.mono (Nat.le_refl _) (show (100000 : Int) ≤ 200000 by omega)).set 0 (l[0].1 + q, l[0].2) ⟨by show _ ≤ l[0].1 + q ∧ l[0].1 + q ≤ _; omega, by show _ ≤ l[0].2 ∧ l[0].2 ≤ _; omega⟩).mono (by omega) (by omega), by rw [List.length_set]; exact hl, B5.out⟩
  · have e0 : (r == 0) = false := by simpa using z
    clear z
    go_wp2_with fail
    go_ret
    exact ⟨v, l, rfl, O3.out.row, BD.out.mono (by omega) (by omega), hl, K3.out.below BO.out (Nat.le_refl _) BO.out.size⟩

set_option maxRecDepth 100000 in
set_option maxHeartbeats 1600000 in
theorem DrawCurveThen_any {w : World} {a : Option Addr} {len cap : Nat} (h : Bytes w a len cap) :
    Calls Try.prog 28 #[.slice a len cap] w fun e w' => Dk3 w e w' := by
  go_enter Try.func28, Try.ntmps28
  go_wp2_with fail
  refine (open_any h).mono ?_
  rintro e w1 ⟨rfl, a1, b1, s1⟩
  have BO := Lib.hid b1
  go_wp2_with fail
  refine (l91On_any a1 (by omega)).mono ?_
  rintro e w2 ⟨v, l, x, rfl, ho, hb, hl, x0, x1, a2, k2⟩
  have O2 := Lib.hid ho; have BD := Lib.hid hb; have A2 := Lib.hid a2; have K2 := Lib.hid k2
  have hs2 := k2.size
  clear ho hb a2 k2 a1 b1 h
  go_wp2_with fail
  refine (l91Curve_any A2.out (by omega)).mono ?_
  rintro e w3 ⟨u, m, rfl, ho, hb, hm, a3, k3⟩
  have P3 := Lib.hid ho; have BM := Lib.hid hb; have A3 := Lib.hid a3; have K3 := Lib.hid (K2.out.trans k3)
  have O3 := Lib.hid (O2.out.keep k3 s1)
  have LV := Lib.hid O2.out.lt
  have hs3 := k3.size
  clear ho hb a3 k3
  go_wp2_with fail
  refine (pick_at 3 A3.out (by omega)).mono ?_
  rintro e w4 ⟨r, rfl, p4, q4, _, a4, k4⟩
  have K4 := Lib.hid (K3.out.trans k4); have P4 := Lib.hid (P3.out.keep k4 (by omega)); have O4 := Lib.hid (O3.out.keep k4 s1)
  have hs4 := k4.size
  have B4 := Lib.hid (K4.out.below BO.out (Nat.le_refl _) BO.out.size)
  clear a4 k4
  by_cases z : 0 < r
  · have hmz : 0 < m.length := hm
    obtain ⟨g, cp, rfl, hcap, hcapm, hBg, hgw, hp⟩ := P4.out.at hmz
    unfold maxLen at hcapm
    have bl := BM.out.get 0 hmz
    have t0 := (hp 0 hmz).top; have f0 := (hp 0 hmz).f0
    have S5 := (hp 0 hmz).setTop 0
    simp only [Nat.zero_mul] at t0 f0 S5
    obtain ⟨m', hm'⟩ : ∃ m', m.set 0 (0, m[0].2) = m' := ⟨_, rfl⟩
    have hml : m'.length = m.length := by rw [← hm', List.length_set]
    have BM' : Bd 100000 6 m' := by rw [← hm']; exact BM.out.set 0 (0, m[0].2) ⟨by show (-100000 : Int) ≤ 0 ∧ (0 : Int) ≤ 100000; decide, bl.2⟩
    rw [hm'] at S5
    obtain ⟨n0, hn0⟩ : ∃ n0, m.length = n0 + 1 := ⟨m.length - 1, by omega⟩
    have hn : n0 < m'.length := by omega
    obtain ⟨g', cp', e', _, _, _, _, hp5⟩ := S5.at (by omega)
    simp only [Value.slice.injEq, Option.some.injEq, Addr.mk.injEq, and_true] at e'
    obtain ⟨rfl, _, rfl⟩ := e'
    have t1 := (hp5 n0 hn).top; have f1 := (hp5 n0 hn).f0
    have bn := BM'.get n0 hn
    have S6 := Lib.hid ((hp5 n0 hn).setTop (m'[n0].1 + 60))
    have OV : Hid (Row ((w4.setCell ⟨g, 0, none⟩ (.int .i64 0)).setCell ⟨g, n0 * 2, none⟩ (.int .i64 (m'[n0].1 + 60))) v l) := Lib.hid ((O4.out.same fun k hk => by
      have := (LV.out k hk).2
      rw [Below.heap_setCell _ _ _ _ (by show k ≠ g; omega), Below.heap_setCell _ _ _ _ (by show k ≠ g; omega)]).row)
    have B6 := Lib.hid ((B4.out.setCell (p := ⟨g, 0, none⟩) (show w.heap.size ≤ g by omega) (.int .i64 0)).setCell (p := ⟨g, n0 * 2, none⟩) (show w.heap.size ≤ g by omega) (.int .i64 (m'[n0].1 + 60)))
    have s0 : (0 : Int) < (n0 : Int) + 1 := by omega
    have s1' : 0 < n0 + 1 := by omega
    have s2 : IntKind.i64.wrap ((n0 : Int) + 1 - 1) = (n0 : Int) := by rw [show (n0 : Int) + 1 - 1 = n0 by omega]; exact IntWalk.i64_in _ (by omega)
    have s2' : IntKind.i64.wrap (n0 : Int) = (n0 : Int) := IntWalk.i64_in _ (by omega)
    have s3 : (0 : Int) ≤ (n0 : Int) := by omega
    have s4 : (n0 : Int) < (n0 : Int) + 1 := by omega
    have s5 : n0 < n0 + 1 := by omega
    have s6 : IntKind.i64.wrap (m'[n0].1 + 60) = m'[n0].1 + 60 := IntWalk.i64_in _ (by omega)
    have HN := Lib.hid hn0
    have HM := Lib.hid hml
    rw [hn0] at hcap
    rw [hn0]
    clear hp hp5 S5 hm' hml hn0
    go_upto_region 6 with fail
    clear t0 f0
    go_wp2_with fail
    go_ret3
    refine ⟨v, _, l, m'.set n0 (m'[n0].1 + 60, m'[n0].2), x, rfl, OV.out, ?_, BD.out.mono (by omega) (by omega), ((BM'.mono (Nat.le_refl _) (show (100000 : Int) ≤ 200000 by omega)).set n0 (m'[n0].1 + 60, m'[n0].2) ⟨by show _ ≤ m'[n0].1 + 60 ∧ m'[n0].1 + 60 ≤ _; omega, by show _ ≤ m'[n0].2 ∧ m'[n0].2 ≤ _; omega⟩).mono (by omega) (by omega), hl, by rw [List.length_set, HM.out]; exact hm, by omega, by omega, B6.out⟩
    have := S6.out.row
    rwa [HN.out] at this
  · have e0 : ¬ 0 < r := z
    clear z
    go_wp2_with fail
    go_ret3
    exact ⟨v, u, l, m, x, rfl, O4.out.row, P4.out.row, BD.out.mono (by omega) (by omega), BM.out.mono (by omega) (by omega), hl, hm, by omega, by omega, B4.out⟩

/-- At a return of slot 2 and of a knot that lies in a result's block (slot 3). -/
theorem back_tc {fn : Func} (hf : fn.results = #[.tmp 2, .cell 3 27]) {a : Act} {w : World} {k : Nat} {x y v : Value} {R : Ending → World → Prop}
    (h2 : a.tmps.getD 2 undef = v) (h3 : a.tmps.getD 3 undef = .pointer (some ⟨k, 0, none⟩)) (c0 : w.cell? ⟨k, 0, none⟩ = some x) (c1 : w.cell? ⟨k, 1, none⟩ = some y)
    (hd : a.defers = []) (hR : R (.returned (.tuple #[v, .agg #[x, y]])) w) : bodyPost Try.prog fn R .ret a w := by
  rw [Array.getD_eq_getD_getElem?] at h2 h3
  refine bodyPost_ret (v := .tuple #[v, .agg #[x, y]]) ?_ hd hR
  simp [results, hf, go_sem, h2, h3, c0, c1]
theorem half_bound (a : Int) (h0 : -200000 ≤ a) (h1 : a ≤ 200000) : -300000 ≤ a.tdiv 2 ∧ a.tdiv 2 ≤ 300000 := by
  have : (a.tdiv 2).natAbs ≤ a.natAbs := by rw [Int.natAbs_tdiv]; exact Nat.div_le_self _ _
  omega
theorem Bytes.alloc {w : World} {a : Option Addr} {len cap : Nat} (h : Bytes w a len cap) (o : Obj) : Bytes (w.alloc o) a len cap := by
  rcases h with h | ⟨x, h1, h2, h3, h4, h5⟩
  · exact .inl h
  · refine .inr ⟨x, h1, h2, h3, ?_, fun i hi => ?_⟩
    · rcases h4 with h4 | h4
      · exact .inl h4
      · exact .inr (by simp; omega)
    · obtain ⟨z, hz, hz'⟩ := h5 i hi
      exact ⟨z, (World.cell?_alloc_lt _ _ _ (cell_below hz)).trans hz, hz'⟩
/-- The last knot, in block kb, has moved to another place. -/
structure NextAt (w : World) (b kb M : Nat) (v : Value) (l : List Pc) (kx ky : Int) (wx : World) : Prop where
  c0 : wx.cell? ⟨kb, 0, none⟩ = some (.int .i64 kx)
  c1 : wx.cell? ⟨kb, 1, none⟩ = some (.int .i64 ky)
  f0 : wx.frozen? ⟨kb, 0, none⟩ = false
  f1 : wx.frozen? ⟨kb, 1, none⟩ = false
  own : Own 27 wx (kb + 1) v l
  at_ : At wx b M
  keep : Keep b w wx
theorem NextAt.mk' {w : World} {b kb M : Nat} {v : Value} {l : List Pc} {kx ky kx' ky' : Int} {w5 : World} (hb : w.heap.size ≤ kb) (hbw : b < w.heap.size)
    (c0 : w5.cell? ⟨kb, 0, none⟩ = some (.int .i64 kx)) (c1 : w5.cell? ⟨kb, 1, none⟩ = some (.int .i64 ky)) (f0 : w5.frozen? ⟨kb, 0, none⟩ = false) (f1 : w5.frozen? ⟨kb, 1, none⟩ = false) (O : Own 27 w5 (kb + 1) v l) (A : At w5 b M) (K : Keep b w w5) :
    NextAt w b kb M v l kx' ky' ((w5.setCell ⟨kb, 0, none⟩ (.int .i64 kx')).setCell ⟨kb, 1, none⟩ (.int .i64 ky')) := by
  have b1 : Below kb w5 ((w5.setCell ⟨kb, 0, none⟩ (.int .i64 kx')).setCell ⟨kb, 1, none⟩ (.int .i64 ky')) := ((Below.refl _ _).setCell (p := ⟨kb, 0, none⟩) (Nat.le_refl _) _).setCell (p := ⟨kb, 1, none⟩) (Nat.le_refl _) _
  refine ⟨by go_cell, by go_cell, by go_simp, by go_simp, ?_, A.below (b1.mono (by omega)), K.grow (b1.mono hb)⟩
  refine O.same fun g hg => ?_
  have := (O.lt g hg).1
  rw [Below.heap_setCell _ _ _ _ (by show g ≠ kb; omega), Below.heap_setCell _ _ _ _ (by show g ≠ kb; omega)]
end Go.Proofs.Ythpfehjjaamkkaa
