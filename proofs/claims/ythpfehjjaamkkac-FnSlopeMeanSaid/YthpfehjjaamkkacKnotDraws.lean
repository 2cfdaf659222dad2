/- The draws of the laws on curves. -/
import Derived.Test.YthpfehjjaamkkacCurveDraws
import Derived.Test.YthpfehjjaamkkacStraight
namespace Go.Proofs.Ythpfehjjaamkkac
open Go.RowKit

/-- A drawn list; .. and a number; two lists and a number; a list and a knot. -/
def Dk1 (w : World) (e : Ending) (w' : World) : Prop := ∃ v l, e = .returned v ∧ Row w' v l ∧ Bd 200000 8 l ∧ 1 ≤ l.length ∧ Below w.heap.size w w'
def Dk2 (w : World) (e : Ending) (w' : World) : Prop := ∃ v l x, e = .returned (.tuple #[v, .int .i64 x]) ∧ Row w' v l ∧ Bd 200000 8 l ∧ 1 ≤ l.length ∧ -300000 ≤ x ∧ x ≤ 300000 ∧ Below w.heap.size w w'
def Dk3 (w : World) (e : Ending) (w' : World) : Prop :=
  ∃ v u l m x, e = .returned (.tuple #[v, u, .int .i64 x]) ∧ Row w' v l ∧ Row w' u m ∧ Bd 200000 8 l ∧ Bd 200000 8 m ∧ 1 ≤ l.length ∧ 1 ≤ m.length ∧ -300000 ≤ x ∧ x ≤ 300000 ∧ Below w.heap.size w w'
def DkK (w : World) (e : Ending) (w' : World) : Prop :=
  ∃ v l x y, e = .returned (.tuple #[v, .agg #[.int .i64 x, .int .i64 y]]) ∧ Row w' v l ∧ Bd 200000 8 l ∧ 1 ≤ l.length ∧ (-300000 ≤ x ∧ x ≤ 300000) ∧ (-300000 ≤ y ∧ y ≤ 300000) ∧ Below w.heap.size w w'

theorem DrawCurveAt_any {w : World} {a : Option Addr} {len cap : Nat} (h : Bytes w a len cap) :
    Calls Try.prog 21 #[.slice a len cap] w fun e w' => Dk2 w e w' := by
  go_enter Try.func21, Try.ntmps21
  go_wp2_with fail
  refine (open_any h).mono ?_
  rintro e w1 ⟨rfl, a1, b1, s1⟩
  go_wp2_with fail
  refine (l91On_any a1 (by omega)).mono ?_
  rintro e w2 ⟨v, l, x, rfl, ho, hb, hl, x0, x1, a2, k2⟩
  go_wp2_with fail
  go_ret2
  exact ⟨v, l, x, rfl, ho.row, hb.mono (by omega) (by omega), hl, by omega, by omega, k2.below b1 (Nat.le_refl _) b1.size⟩

set_option maxRecDepth 100000 in
set_option maxHeartbeats 1600000 in
theorem DrawCurveSlope_any {w : World} {a : Option Addr} {len cap : Nat} (h : Bytes w a len cap) :
    Calls Try.prog 17 #[.slice a len cap] w fun e w' => Dk2 w e w' := by
  go_enter Try.func17, Try.ntmps17
  go_wp2_with fail
  refine (open_any h).mono ?_
  rintro e w1 ⟨rfl, a1, b1, s1⟩
  have BO := Lib.hid b1
  go_wp2_with fail
  refine (l91Curve_any a1 (by omega)).mono ?_
  rintro e w2 ⟨v, l, rfl, ho, hb, hl, a2, k2⟩
  have O2 := Lib.hid ho; have BD := Lib.hid hb; have A2 := Lib.hid a2; have K2 := Lib.hid k2
  have hl6 := hb.1
  obtain ⟨ad, cp, rfl, hcap, hcapm⟩ := ho.row.len
  unfold maxLen at hcapm
  obtain ⟨y, hy⟩ : ∃ y : Int, (if 1 < (l.length : Int) then (l.length : Int) else 1) = y := ⟨_, rfl⟩
  have hy1 : 1 ≤ y ∧ y ≤ 6 := by rw [← hy]; split <;> omega
  obtain ⟨hy1a, hy1b⟩ := hy1
  clear ho hb a2 k2 a1 b1 h
  go_wp2_with fail
  refine (pick_at y A2.out (by omega)).mono ?_
  rintro e w3 ⟨r, rfl, p3, q3, _, a3, k3⟩
  replace q3 := q3 (by omega)
  have A3 := Lib.hid a3; have K3 := Lib.hid (K2.out.trans k3); have O3 := Lib.hid (O2.out.keep k3 s1)
  clear a3 k3
  go_wp2_with fail
  refine (pick_at 16 A3.out (by omega)).mono ?_
  rintro e w4 ⟨s, rfl, p4, q4, _, a4, k4⟩
  replace q4 := q4 (by omega)
  have K4 := Lib.hid (K3.out.trans k4); have O4 := Lib.hid (O3.out.keep k4 s1)
  clear a4 k4 hy
  obtain ⟨z, hz⟩ : ∃ z : Int, s.tdiv 15 = z := ⟨_, rfl⟩
  have hz0 : 0 ≤ z ∧ z ≤ 1 := by rw [← hz, Int.tdiv_eq_ediv_of_nonneg p4]; omega
  obtain ⟨hz1, hz2⟩ := hz0
  have z1 : IntKind.i64.wrap z = z := IntWalk.i64_in _ (by omega)
  have z2 : IntKind.i64.wrap (r - z) = r - z := IntWalk.i64_in _ (by omega)
  go_wp2_with fail
  go_ret2
  exact ⟨_, l, r - z, rfl, O4.out.row, BD.out.mono (by omega) (by omega), hl, by omega, by omega, K4.out.below BO.out (Nat.le_refl _) BO.out.size⟩

/-- At a return of slot 2 and of a knot that lies in a result's block (slot 3). -/
theorem back_tc {fn : Func} (hf : fn.results = #[.tmp 2, .cell 3 29]) {a : Act} {w : World} {k : Nat} {x y v : Value} {R : Ending → World → Prop}
    (h2 : a.tmps.getD 2 undef = v) (h3 : a.tmps.getD 3 undef = .pointer (some ⟨k, 0, none⟩)) (c0 : w.cell? ⟨k, 0, none⟩ = some x) (c1 : w.cell? ⟨k, 1, none⟩ = some y)
    (hd : a.defers = []) (hR : R (.returned (.tuple #[v, .agg #[x, y]])) w) : bodyPost Try.prog fn R .ret a w := by
  rw [Array.getD_eq_getD_getElem?] at h2 h3
  refine bodyPost_ret (v := .tuple #[v, .agg #[x, y]]) ?_ hd hR
  simp [results, hf, go_sem, h2, h3, c0, c1]
theorem half_bound (a : Int) (h0 : -200000 ≤ a) (h1 : a ≤ 200000) : -300000 ≤ a.tdiv 2 ∧ a.tdiv 2 ≤ 300000 := by
  have : (a.tdiv 2).natAbs ≤ a.natAbs := by rw [Int.natAbs_tdiv]; exact Nat.div_le_self _ _
  omega
theorem Bytes.alloc {w : World} {a : Option Addr} {len cap : Nat} (h : Bytes w a len cap) (o : Obj) : Bytes (w.alloc o) a len cap := by
  rcases h with h | ⟨x, h1, h2, h3, h4, h5⟩
  · exact .inl h
  · refine .inr ⟨x, h1, h2, h3, ?_, fun i hi => ?_⟩
    · rcases h4 with h4 | h4
      · exact .inl h4
      · exact .inr (by simp; omega)
    · obtain ⟨z, hz, hz'⟩ := h5 i hi
      exact ⟨z, (World.cell?_alloc_lt _ _ _ (cell_below hz)).trans hz, hz'⟩
/-- The last knot, in block kb, has moved to another place. -/
structure NextAt (w : World) (b kb M : Nat) (v : Value) (l : List Pc) (kx ky : Int) (wx : World) : Prop where
  c0 : wx.cell? ⟨kb, 0, none⟩ = some (.int .i64 kx)
  c1 : wx.cell? ⟨kb, 1, none⟩ = some (.int .i64 ky)
  f0 : wx.frozen? ⟨kb, 0, none⟩ = false
  f1 : wx.frozen? ⟨kb, 1, none⟩ = false
  own : Own 29 wx (kb + 1) v l
  at_ : At wx b M
  keep : Keep b w wx
theorem NextAt.mk' {w : World} {b kb M : Nat} {v : Value} {l : List Pc} {kx ky kx' ky' : Int} {w5 : World} (hb : w.heap.size ≤ kb) (hbw : b < w.heap.size)
    (c0 : w5.cell? ⟨kb, 0, none⟩ = some (.int .i64 kx)) (c1 : w5.cell? ⟨kb, 1, none⟩ = some (.int .i64 ky)) (f0 : w5.frozen? ⟨kb, 0, none⟩ = false) (f1 : w5.frozen? ⟨kb, 1, none⟩ = false) (O : Own 29 w5 (kb + 1) v l) (A : At w5 b M) (K : Keep b w w5) :
    NextAt w b kb M v l kx' ky' ((w5.setCell ⟨kb, 0, none⟩ (.int .i64 kx')).setCell ⟨kb, 1, none⟩ (.int .i64 ky')) := by
  have b1 : Below kb w5 ((w5.setCell ⟨kb, 0, none⟩ (.int .i64 kx')).setCell ⟨kb, 1, none⟩ (.int .i64 ky')) := ((Below.refl _ _).setCell (p := ⟨kb, 0, none⟩) (Nat.le_refl _) _).setCell (p := ⟨kb, 1, none⟩) (Nat.le_refl _) _
  refine ⟨by go_cell, by go_cell, by go_simp, by go_simp, ?_, A.below (b1.mono (by omega)), K.grow (b1.mono hb)⟩
  refine O.same fun g hg => ?_
  have := (O.lt g hg).1
  rw [Below.heap_setCell _ _ _ _ (by show g ≠ kb; omega), Below.heap_setCell _ _ _ _ (by show g ≠ kb; omega)]
set_option maxRecDepth 100000 in
set_option maxHeartbeats 3200000 in
theorem DrawCurveLean_any {w : World} {a : Option Addr} {len cap : Nat} (h : Bytes w a len cap) :
    Calls Try.prog 12 #[.slice a len cap] w fun e w' => Dk1 w e w' := by
  go_enter Try.func12, Try.ntmps12
  go_wp2_with fail
  refine (open_any h).mono ?_
  rintro e w1 ⟨rfl, a1, b1, s1⟩
  have BO := Lib.hid b1
  clear h b1
  go_wp2_with fail
  refine (pick_at 3 a1 (by omega)).mono ?_
  rintro e w2 ⟨r, rfl, p2, q2, _, a2, k2⟩
  have A2 := Lib.hid a2; have K2 := Lib.hid k2
  have hs2 := k2.size
  clear a2 k2 a1
  by_cases z : r = 0
  · subst z
    go_wp2_with fail
    refine (l91Curve_any A2.out (by omega)).mono ?_
    rintro e w3 ⟨v, l, rfl, ho, hb, hl, a3, k3⟩
    go_wp2_with fail
    go_ret
    exact ⟨v, l, rfl, ho.row, hb.mono (by omega) (by omega), hl, (K2.out.trans k3).below BO.out (Nat.le_refl _) BO.out.size⟩
  have e0 : (r == 0) = false := by simpa using z
  clear z
  obtain ⟨b, hb⟩ : ∃ b, b = w.heap.size := ⟨_, rfl⟩
  rw [← hb] at A2 K2 s1
  rw [← hb]
  have HB := Lib.hid hb
  clear hb
  go_wp2_with fail
  refine (pick_at 20 A2.out (by omega)).mono ?_
  rintro e w3 ⟨x, rfl, p3, q3, _, a3, k3⟩
  replace q3 := q3 (by decide)
  have A3 := Lib.hid a3; have K3 := Lib.hid (K2.out.trans k3)
  clear a3 k3
  go_wp2_with fail
  refine (pick_at 20 A3.out (by omega)).mono ?_
  rintro e w4 ⟨y, rfl, p4, q4, _, a4, k4⟩
  replace q4 := q4 (by decide)
  have A4 := Lib.hid a4; have K4 := Lib.hid (K3.out.trans k4)
  have hs4 : w1.heap.size ≤ w4.heap.size := (K3.out.trans k4).size
  clear a4 k4
  have KA := Lib.hid ((Keep.alloc b w4 (.cells #[.int .i64 x, .int .i64 y] 29)).trans (Keep.alloc b (w4.alloc (.cells #[.int .i64 x, .int .i64 y] 29)) (.cells #[.int .i64 x, .int .i64 y] 29)))
  go_wp2_with fail
  refine (pick_at 6 ((A4.out.alloc _).alloc _) (by omega)).mono ?_
  rintro e w5 ⟨n, rfl, p5, q5, _, a5, k5⟩
  replace q5 := q5 (by decide)
  obtain ⟨kb, hkb⟩ : ∃ kb, kb = w4.heap.size := ⟨_, rfl⟩
  have hbk : b < kb := by omega
  have hkw : w1.heap.size ≤ kb := by omega
  have hcells : w5.cell? ⟨kb, 0, none⟩ = some (.int .i64 x) ∧ w5.cell? ⟨kb, 1, none⟩ = some (.int .i64 y) ∧ w5.frozen? ⟨kb, 0, none⟩ = false ∧ w5.frozen? ⟨kb, 1, none⟩ = false := by
    subst hkb
    exact keep_pair _ _ _ k5 (by omega) (by go_cell) (by go_cell) (by go_simp) (by go_simp)
  have O5 : Hid (Own 29 w5 (kb + 1) (.slice (some ⟨kb + 1, 0, none⟩) 1 1) [(x, y)]) := Lib.hid (by
    subst hkb
    have := own_one 29 (w := w4.alloc (.cells #[.int .i64 x, .int .i64 y] 29)) (B := w4.heap.size + 1) (by simp) (x, y)
    simp only [World.size_alloc] at this
    exact this.keep k5 (by omega))
  have A5 := Lib.hid a5; have K5 := Lib.hid ((K4.out.trans KA.out).trans k5)
  have HC := Lib.hid hcells
  rw [← hkb]
  clear a5 k5 hcells hkb
  go_wp2_with fail
  refine (pick_at 4 A5.out (by omega)).mono ?_
  rintro e w6 ⟨xx, rfl, p6, q6, _, a6, k6⟩
  replace q6 := q6 (by decide)
  have A6 := Lib.hid a6; have K6 := Lib.hid (K5.out.trans k6); have O6 := Lib.hid (O5.out.keep k6 (by omega))
  have HC6 := Lib.hid (keep_pair kb _ _ k6 (by omega) HC.out.1 HC.out.2.1 HC.out.2.2.1 HC.out.2.2.2)
  clear a6 k6
  go_wp2_with fail
  refine (pick_at 4 A6.out (by omega)).mono ?_
  rintro e w7 ⟨yy, rfl, p7, q7, _, a7, k7⟩
  replace q7 := q7 (by decide)
  have A7 := Lib.hid a7; have K7 := Lib.hid (K6.out.trans k7); have O7 := Lib.hid (O6.out.keep k7 (by omega))
  have HC7 := Lib.hid (keep_pair kb _ _ k7 (by omega) HC6.out.1 HC6.out.2.1 HC6.out.2.2.1 HC6.out.2.2.2)
  clear a7 k7
  go_wp2_with fail
  go_loopg [5, 7, 8, 9] (2 + n).toNat (fun k v px py i wr => ∃ (l : List Pc) (kx ky xx yy : Int), i = .int .i64 ((l.length : Int) - 1) ∧ px = .int .i64 xx ∧ py = .int .i64 yy ∧ 1 ≤ l.length ∧ l.length + k = (2 + n).toNat + 1 ∧ (0 ≤ xx ∧ xx ≤ 5) ∧ (0 ≤ yy ∧ yy ≤ 5) ∧ (0 ≤ kx ∧ kx ≤ 20 + 20 * l.length) ∧ (0 ≤ ky ∧ ky ≤ 20 + 20 * l.length) ∧
      wr.cell? ⟨kb, 0, none⟩ = some (.int .i64 kx) ∧ wr.cell? ⟨kb, 1, none⟩ = some (.int .i64 ky) ∧ wr.frozen? ⟨kb, 0, none⟩ = false ∧ wr.frozen? ⟨kb, 1, none⟩ = false ∧
      Own 29 wr (kb + 1) v l ∧ Bd 100000 8 l ∧ At wr b (10 + 3 * (l.length - 1)) ∧ Keep b w1 wr)
  case atStart => exact ⟨[(x, y)], x, y, _, _, rfl, rfl, rfl, by simp, by simp; omega, by omega, by omega, by simp; omega, by simp; omega, HC7.out.1, HC7.out.2.1, HC7.out.2.2.1, HC7.out.2.2.2, O7.out, ⟨by simp, fun p hp => by
    simp only [List.mem_singleton] at hp; subst hp; exact ⟨⟨by show -100000 ≤ x; omega, by show x ≤ 100000; omega⟩, by show -100000 ≤ y; omega, by show y ≤ 100000; omega⟩⟩, A7.out.mono (by simp), K7.out⟩
  case round =>
    obtain ⟨l, kx, ky, xx, yy, rfl, rfl, rfl, hl1, hk, ⟨x0, x1⟩, ⟨y0, y1⟩, ⟨kx0, kx1⟩, ⟨ky0, ky1⟩, c0, c1, f0, f1, ho, hbd, ha, hke⟩ := hrel
    have K := Lib.hid hk; have O8 := Lib.hid ho; have BD := Lib.hid hbd; have A8 := Lib.hid ha; have K8 := Lib.hid hke
    have hl8 : l.length ≤ 8 := hbd.1
    clear hk ho hbd ha hke
    by_cases hlt : (l.length : Int) - 1 < 2 + n
    · go_wp2_with fail
      refine (pick_at 3 A8.out (by omega)).mono ?_
      rintro e w9 ⟨q, rfl, p9, q9, _, a9, k9⟩
      have A9 := Lib.hid a9; have K9 := Lib.hid (K8.out.trans k9); have O9 := Lib.hid (O8.out.keep k9 (by omega))
      obtain ⟨d0, d1, d2, d3⟩ := keep_pair kb _ _ k9 (by omega) c0 c1 f0 f1
      replace c0 := d0; replace c1 := d1; replace f0 := d2; replace f1 := d3
      clear a9 k9 d0 d1 d2 d3
      by_cases z : q = 0
      · subst z
        go_wp2_with fail
        refine (pick_at 4 A9.out (by omega)).mono ?_
        rintro e wA ⟨xn, rfl, pA, qA, _, aA, kA⟩
        replace qA := qA (by decide)
        have AA := Lib.hid aA; have KA' := Lib.hid (K9.out.trans kA); have OA := Lib.hid (O9.out.keep kA (by omega))
        obtain ⟨d0, d1, d2, d3⟩ := keep_pair kb _ _ kA (by omega) c0 c1 f0 f1
        replace c0 := d0; replace c1 := d1; replace f0 := d2; replace f1 := d3
        clear aA kA d0 d1 d2 d3
        go_wp2_with fail
        refine (pick_at 4 AA.out (by omega)).mono ?_
        rintro e wB ⟨yn, rfl, pB, qB, _, aB, kB⟩
        replace qB := qB (by decide)
        have AB := Lib.hid aB; have KB := Lib.hid (KA'.out.trans kB); have OB := Lib.hid (OA.out.keep kB (by omega))
        obtain ⟨d0, d1, d2, d3⟩ := keep_pair kb _ _ kB (by omega) c0 c1 f0 f1
        replace c0 := d0; replace c1 := d1; replace f0 := d2; replace f1 := d3
        clear aB kB d0 d1 d2 d3
        have z1 : IntKind.i64.wrap (kx + (1 + xn)) = kx + (1 + xn) := IntWalk.i64_in _ (by omega)
        have z2 : IntKind.i64.wrap (ky + (1 + yn)) = ky + (1 + yn) := IntWalk.i64_in _ (by omega)
        have NK := NextAt.mk' (kx' := kx + (1 + xn)) (ky' := ky + (1 + yn)) hkw (show b < w1.heap.size by omega) c0 c1 f0 f1 OB.out AB.out KB.out
        go_upto_region 16 with fail
        generalize ((wB.setCell ⟨kb, 0, none⟩ (.int .i64 (kx + (1 + xn)))).setCell ⟨kb, 1, none⟩ (.int .i64 (ky + (1 + yn)))) = wN at NK ⊢
        obtain ⟨g0, g1, g2, g3, oN, aN, kN⟩ := NK
        have ON := Lib.hid oN; have AN := Lib.hid aN; have KN := Lib.hid kN
        have hkbw : kb < wN.heap.size := cell_below g0
        clear oN aN kN c0 c1 f0 f1
        obtain ⟨n1, n2⟩ := new_two wN (.int .i64 (kx + (1 + xn))) (.int .i64 (ky + (1 + yn))) 29
        have N1 := Lib.hid n1; have N2 := Lib.hid n2
        have BW := Lib.hid ((Below.refl wN.heap.size wN).alloc (Nat.le_refl _) (.cells #[.int .i64 (kx + (1 + xn)), .int .i64 (ky + (1 + yn))] 29))
        clear n1 n2
        go_wp2_with (at_builtin; refine append_pair knotT' rfl _ _ rfl (B := kb + 1) _ l rfl (ON.out.grow BW.out) ⟨wN.heap.size, 0, none⟩ (kx + (1 + xn), ky + (1 + yn)) rfl N1.out N2.out (by omega) (by simp; omega) ?_; intro v8 w8 hown8 hg8)
        have OL := Lib.hid hown8
        have BL := Lib.hid ((BW.out.mono (show kb + 1 ≤ wN.heap.size by omega)).trans ((ON.out.grow BW.out).below hg8 (by simp; omega)))
        obtain ⟨j0, j1, j2, j3⟩ : w8.cell? ⟨kb, 0, none⟩ = some (.int .i64 (kx + (1 + xn))) ∧ w8.cell? ⟨kb, 1, none⟩ = some (.int .i64 (ky + (1 + yn))) ∧ w8.frozen? ⟨kb, 0, none⟩ = false ∧ w8.frozen? ⟨kb, 1, none⟩ = false :=
          ⟨(BL.out.cell (p := ⟨kb, 0, none⟩) (by simp)).trans g0, (BL.out.cell (p := ⟨kb, 1, none⟩) (by simp)).trans g1, (BL.out.frozen (p := ⟨kb, 0, none⟩) (by simp)).trans g2, (BL.out.frozen (p := ⟨kb, 1, none⟩) (by simp)).trans g3⟩
        clear hown8 hg8
        go_wp2_with fail
        go_roundg (gk - 1)
        case measure => have := K.out; omega
        case rel =>
          refine ⟨l ++ [(kx + (1 + xn), ky + (1 + yn))], _, _, _, _, by simp, rfl, rfl, by simp, by have := K.out; simp; omega, by omega, by omega, by simp; omega, by simp; omega, j0, j1, j2, j3, OL.out, ?_, (AN.out.below (BL.out.mono (by omega))).mono (by simp; omega), KN.out.grow (BL.out.mono (by omega))⟩
          have := BD.out.snoc (kx + (1 + xn), ky + (1 + yn)) ⟨⟨by show _ ≤ kx + (1 + xn); omega, by show kx + (1 + xn) ≤ _; omega⟩, by show _ ≤ ky + (1 + yn); omega, by show ky + (1 + yn) ≤ _; omega⟩
          exact ⟨by have := K.out; simp; omega, this.2⟩
      · have e9 : (q == 0) = false := by simpa using z
        clear z
        have z1 : IntKind.i64.wrap (kx + xx) = kx + xx := IntWalk.i64_in _ (by omega)
        have z2 : IntKind.i64.wrap (ky + yy) = ky + yy := IntWalk.i64_in _ (by omega)
        have NK := NextAt.mk' (kx' := kx + xx) (ky' := ky + yy) hkw (show b < w1.heap.size by omega) c0 c1 f0 f1 O9.out A9.out K9.out
        go_upto_region 16 with fail
        generalize ((w9.setCell ⟨kb, 0, none⟩ (.int .i64 (kx + xx))).setCell ⟨kb, 1, none⟩ (.int .i64 (ky + yy))) = wN at NK ⊢
        obtain ⟨g0, g1, g2, g3, oN, aN, kN⟩ := NK
        have ON := Lib.hid oN; have AN := Lib.hid aN; have KN := Lib.hid kN
        have hkbw : kb < wN.heap.size := cell_below g0
        clear oN aN kN c0 c1 f0 f1
        obtain ⟨n1, n2⟩ := new_two wN (.int .i64 (kx + xx)) (.int .i64 (ky + yy)) 29
        have N1 := Lib.hid n1; have N2 := Lib.hid n2
        have BW := Lib.hid ((Below.refl wN.heap.size wN).alloc (Nat.le_refl _) (.cells #[.int .i64 (kx + xx), .int .i64 (ky + yy)] 29))
        clear n1 n2
        go_wp2_with (at_builtin; refine append_pair knotT' rfl _ _ rfl (B := kb + 1) _ l rfl (ON.out.grow BW.out) ⟨wN.heap.size, 0, none⟩ (kx + xx, ky + yy) rfl N1.out N2.out (by omega) (by simp; omega) ?_; intro v8 w8 hown8 hg8)
        have OL := Lib.hid hown8
        have BL := Lib.hid ((BW.out.mono (show kb + 1 ≤ wN.heap.size by omega)).trans ((ON.out.grow BW.out).below hg8 (by simp; omega)))
        obtain ⟨j0, j1, j2, j3⟩ : w8.cell? ⟨kb, 0, none⟩ = some (.int .i64 (kx + xx)) ∧ w8.cell? ⟨kb, 1, none⟩ = some (.int .i64 (ky + yy)) ∧ w8.frozen? ⟨kb, 0, none⟩ = false ∧ w8.frozen? ⟨kb, 1, none⟩ = false :=
          ⟨(BL.out.cell (p := ⟨kb, 0, none⟩) (by simp)).trans g0, (BL.out.cell (p := ⟨kb, 1, none⟩) (by simp)).trans g1, (BL.out.frozen (p := ⟨kb, 0, none⟩) (by simp)).trans g2, (BL.out.frozen (p := ⟨kb, 1, none⟩) (by simp)).trans g3⟩
        clear hown8 hg8
        go_wp2_with fail
        go_roundg (gk - 1)
        case measure => have := K.out; omega
        case rel =>
          refine ⟨l ++ [(kx + xx, ky + yy)], _, _, _, _, by simp, rfl, rfl, by simp, by have := K.out; simp; omega, by omega, by omega, by simp; omega, by simp; omega, j0, j1, j2, j3, OL.out, ?_, (AN.out.below (BL.out.mono (by omega))).mono (by simp; omega), KN.out.grow (BL.out.mono (by omega))⟩
          have := BD.out.snoc (kx + xx, ky + yy) ⟨⟨by show _ ≤ kx + xx; omega, by show kx + xx ≤ _; omega⟩, by show _ ≤ ky + yy; omega, by show ky + yy ≤ _; omega⟩
          exact ⟨by have := K.out; simp; omega, this.2⟩
    · go_wp2_with fail
      go_ret
      exact ⟨_, l, rfl, O8.out.row, BD.out.mono (by omega) (by omega), hl1, by have := HB.out; exact K8.out.below BO.out (by omega) BO.out.size⟩
end Go.Proofs.Ythpfehjjaamkkac
