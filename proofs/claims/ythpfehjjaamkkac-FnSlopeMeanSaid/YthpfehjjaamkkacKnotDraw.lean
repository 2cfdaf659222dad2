/- The draws of curves: l91Curve. -/
import Derived.Test.YthpfehjjaamkkacDraw
import Derived.Test.YthpfehjjaamkkacPair
import Derived.Laws.NewBlocks
import Derived.Test.YthpfehjjaamkkacLate
namespace Go.Proofs.Ythpfehjjaamkkac
open Go.RowKit

theorem Keep.grow {b : Nat} {w x y : World} (h : Keep b w x) (k : Below w.heap.size x y) : Keep b w y :=
  ⟨k.os.trans h.os, k.tape.trans h.tape, k.output.trans h.output, Nat.le_trans h.size k.size, fun i hi hb => (k.block i hi).trans (h.block i hi hb)⟩
theorem Own.keep {T : TypeId} {w w' : World} {b B : Nat} {v : Value} {l : List Pc} (h : Own T w B v l) (k : Keep b w w') (hb : b < B) : Own T w' B v l :=
  h.same fun g hg => k.block g (h.lt g hg).2 (by have := (h.lt g hg).1; omega)
theorem Row.keep {w w' : World} {b : Nat} {v : Value} {l : List Pc} (h : Row w v l) (k : Keep b w w') (hb : ∀ g, v.ownBlock = some g → g ≠ b) : Row w' v l := by
  obtain ⟨a, len, cap, rfl, h1, h2, h3, h4⟩ := h
  refine ⟨a, len, cap, rfl, h1, h2, h3, ?_⟩
  rcases h4 with h4 | ⟨g, o, rfl, h4⟩
  · exact .inl h4
  · have hg := hb g rfl
    refine .inr ⟨g, o, rfl, fun i hi => ?_⟩
    obtain ⟨c1, c2⟩ := h4 i hi
    exact ⟨(k.cell (cell_below c1) hg).trans c1, (k.cell (cell_below c2) hg).trans c2⟩
/-- The first ones of a slice of the call's own. -/
theorem Own.take {T : TypeId} {w : World} {B g n cap : Nat} {l : List Pc} (h : Own T w B (.slice (some ⟨g, 0, none⟩) n cap) l) (k : Nat) (hk : k ≤ l.length) : Own T w B (.slice (some ⟨g, 0, none⟩) k cap) (l.take k) := by
  have hl : (l.take k).length = k := by rw [List.length_take]; omega
  obtain ⟨h1, h2⟩ := h
  rcases h2 with ⟨e, _⟩ | ⟨g', cap', cur, e, hb, hgg, hn, hm, hs, ht⟩
  · cases e
  · simp only [Value.slice.injEq, Option.some.injEq, Addr.mk.injEq, and_true] at e
    obtain ⟨rfl, rfl, rfl⟩ := e
    have e2 : cells2 (l.take k) = (cells2 l).take (k * 2) := by
      have := cells2_append (l.take k) (l.drop k)
      rw [List.take_append_drop] at this
      rw [this, List.take_left' (by rw [cells2_length, hl])]
    refine ⟨by rw [cells2_length], .inr ⟨g, cap, cur, by rw [hl], hb, hgg, by rw [hl]; omega, hm, hs, ?_⟩⟩
    rw [e2, ← ht, List.take_take, hl, Nat.min_eq_left (by omega)]
theorem keep_pair {W w1 : World} {b : Nat} (k : Nat) (u v : Value) (h : Keep b W w1) (hb : k ≠ b) (h0 : W.cell? ⟨k, 0, none⟩ = some u) (h1 : W.cell? ⟨k, 1, none⟩ = some v)
    (f0 : W.frozen? ⟨k, 0, none⟩ = false) (f1 : W.frozen? ⟨k, 1, none⟩ = false) :
    w1.cell? ⟨k, 0, none⟩ = some u ∧ w1.cell? ⟨k, 1, none⟩ = some v ∧ w1.frozen? ⟨k, 0, none⟩ = false ∧ w1.frozen? ⟨k, 1, none⟩ = false := by
  have hl := cell_below h0
  exact ⟨(h.cell (p := ⟨k, 0, none⟩) hl hb).trans h0, (h.cell (p := ⟨k, 1, none⟩) hl hb).trans h1, (h.frozen (p := ⟨k, 0, none⟩) hl hb).trans f0, (h.frozen (p := ⟨k, 1, none⟩) hl hb).trans f1⟩
theorem knotT' : PairT 29 23 := ⟨by kernel_rfl, Try.underlying23⟩

/-- What l91Curve comes to. -/
def CurveDrawn (w : World) (b m : Nat) (e : Ending) (w' : World) : Prop :=
  ∃ v l, e = .returned v ∧ Own 29 w' w.heap.size v l ∧ Bd 100000 6 l ∧ 1 ≤ l.length ∧ At w' b (m + 20) ∧ Keep b w w'
/-- The last knot, in block kb, has moved on. -/
def NextKnot (w : World) (b kb M : Nat) (v : Value) (l : List Pc) (kx ky : Int) (_s : Value) (wx : World) : Prop :=
  ∃ r1 r2 : Int, 0 ≤ r1 ∧ r1 < 12 ∧ 0 ≤ r2 ∧ r2 < 12 ∧ wx.cell? ⟨kb, 0, none⟩ = some (.int .i64 (kx + 1 + r1)) ∧ wx.cell? ⟨kb, 1, none⟩ = some (.int .i64 (ky + 1 + r2)) ∧ wx.frozen? ⟨kb, 0, none⟩ = false ∧ wx.frozen? ⟨kb, 1, none⟩ = false ∧
    Own 29 wx (kb + 1) v l ∧ At wx b M ∧ Keep b w wx
theorem NextKnot.mk {w : World} {b kb M : Nat} {v : Value} {l : List Pc} {kx ky r1 r2 : Int} {s : Value} {wx : World} (p1 : 0 ≤ r1) (q1 : r1 < 12) (p2 : 0 ≤ r2) (q2 : r2 < 12) {w5 : World} (hb : w.heap.size ≤ kb) (hbw : b < w.heap.size)
    (c0 : w5.cell? ⟨kb, 0, none⟩ = some (.int .i64 kx)) (c1 : w5.cell? ⟨kb, 1, none⟩ = some (.int .i64 ky)) (f0 : w5.frozen? ⟨kb, 0, none⟩ = false) (f1 : w5.frozen? ⟨kb, 1, none⟩ = false) (O : Own 29 w5 (kb + 1) v l) (A : At w5 b M) (K : Keep b w w5)
    (e : wx = (w5.setCell ⟨kb, 0, none⟩ (.int .i64 (kx + 1 + r1))).setCell ⟨kb, 1, none⟩ (.int .i64 (ky + 1 + r2))) : NextKnot w b kb M v l kx ky s wx := by
  subst e
  have b1 : Below kb w5 ((w5.setCell ⟨kb, 0, none⟩ (.int .i64 (kx + 1 + r1))).setCell ⟨kb, 1, none⟩ (.int .i64 (ky + 1 + r2))) := ((Below.refl _ _).setCell (p := ⟨kb, 0, none⟩) (Nat.le_refl _) _).setCell (p := ⟨kb, 1, none⟩) (Nat.le_refl _) _
  refine ⟨r1, r2, p1, q1, p2, q2, by go_cell, by go_cell, by go_simp, by go_simp, ?_, A.below (b1.mono (by omega)), K.grow (b1.mono hb)⟩
  refine O.same fun g hg => ?_
  have := (O.lt g hg).1
  rw [Below.heap_setCell _ _ _ _ (by show g ≠ kb; omega), Below.heap_setCell _ _ _ _ (by show g ≠ kb; omega)]

set_option maxRecDepth 100000 in
set_option maxHeartbeats 3200000 in
theorem l91Curve_any {w : World} {b m : Nat} (h : At w b m) (hm : m ≤ 900000) :
    Calls Try.prog 41 #[.pointer (some ⟨b, 0, none⟩)] w fun e w' => CurveDrawn w b m e w' := by
  have hbw := h.lt
  have A0 := Lib.hid h
  clear h
  go_enter Try.func41, Try.ntmps41
  go_wp2_with fail
  refine (pick_at 20 A0.out (by omega)).mono ?_
  rintro e w1 ⟨x, rfl, p1, q1, _, a1, k1⟩
  replace q1 := q1 (by decide)
  have A1 := Lib.hid a1; have K1 := Lib.hid k1
  clear a1 k1
  go_wp2_with fail
  refine (pick_at 20 A1.out (by omega)).mono ?_
  rintro e w2 ⟨y, rfl, p2, q2, _, a2, k2⟩
  replace q2 := q2 (by decide)
  have A2 := Lib.hid a2; have K2 := Lib.hid (K1.out.trans k2)
  have hs2 : w.heap.size ≤ w2.heap.size := (K1.out.trans k2).size
  clear a2 k2
  go_wp2_with fail
  have KA := Lib.hid ((Keep.alloc b w2 (.cells #[.int .i64 x, .int .i64 y] 29)).trans (Keep.alloc b (w2.alloc (.cells #[.int .i64 x, .int .i64 y] 29)) (.cells #[.int .i64 x, .int .i64 y] 29)))
  refine (pick_at 5 ((A2.out.alloc _).alloc _) (by omega)).mono ?_
  rintro e w3 ⟨r, rfl, p3, q3, _, a3, k3⟩
  replace q3 := q3 (by decide)
  obtain ⟨kb, hkb⟩ : ∃ kb, kb = w2.heap.size := ⟨_, rfl⟩
  have hkw : w.heap.size ≤ kb := by omega
  have hbk : b < kb := by omega
  have hcells : w3.cell? ⟨kb, 0, none⟩ = some (.int .i64 x) ∧ w3.cell? ⟨kb, 1, none⟩ = some (.int .i64 y) ∧ w3.frozen? ⟨kb, 0, none⟩ = false ∧ w3.frozen? ⟨kb, 1, none⟩ = false := by
    subst hkb
    exact keep_pair _ _ _ k3 (by omega) (by go_cell) (by go_cell) (by go_simp) (by go_simp)
  have O3 : Hid (Own 29 w3 (kb + 1) (.slice (some ⟨kb + 1, 0, none⟩) 1 1) [(x, y)]) := Lib.hid (by
    subst hkb
    have := own_one 29 (w := w2.alloc (.cells #[.int .i64 x, .int .i64 y] 29)) (B := w2.heap.size + 1) (by simp) (x, y)
    simp only [World.size_alloc] at this
    exact this.keep k3 (by omega))
  have A3 := Lib.hid a3; have K3 := Lib.hid ((K2.out.trans KA.out).trans k3)
  have HC := Lib.hid hcells
  rw [← hkb]
  clear a3 k3 hcells hkb
  go_wp2_with fail
  go_loopg [4, 6] (1 + r).toNat (fun k v i wr => ∃ (l : List Pc) (kx ky : Int), i = .int .i64 ((l.length : Int) - 1) ∧ 1 ≤ l.length ∧ l.length + k = (1 + r).toNat + 1 ∧ 0 ≤ kx ∧ kx ≤ 20 + 20 * l.length ∧ 0 ≤ ky ∧ ky ≤ 20 + 20 * l.length ∧
      wr.cell? ⟨kb, 0, none⟩ = some (.int .i64 kx) ∧ wr.cell? ⟨kb, 1, none⟩ = some (.int .i64 ky) ∧ wr.frozen? ⟨kb, 0, none⟩ = false ∧ wr.frozen? ⟨kb, 1, none⟩ = false ∧
      Own 29 wr (kb + 1) v l ∧ Bd 100000 6 l ∧ At wr b (m + 3 + 2 * (l.length - 1)) ∧ Keep b w wr)
  case atStart => exact ⟨[(x, y)], x, y, rfl, by simp, by simp; omega, by omega, by simp; omega, by omega, by simp; omega, HC.out.1, HC.out.2.1, HC.out.2.2.1, HC.out.2.2.2, O3.out, ⟨by simp, fun p hp => by
    simp only [List.mem_singleton] at hp; subst hp; exact ⟨⟨by show -100000 ≤ x; omega, by show x ≤ 100000; omega⟩, by show -100000 ≤ y; omega, by show y ≤ 100000; omega⟩⟩, A3.out, K3.out⟩
  case round =>
    obtain ⟨l, kx, ky, rfl, hl1, hk, x0, x1, y0, y1, c0, c1, f0, f1, ho, hbd, ha, hke⟩ := hrel
    have K := Lib.hid hk; have O4 := Lib.hid ho; have BD := Lib.hid hbd; have A4 := Lib.hid ha; have K4 := Lib.hid hke
    have hl6 : l.length ≤ 6 := hbd.1
    have hw4 : w.heap.size ≤ wr.heap.size := hke.size
    clear hk ho hbd ha hke
    by_cases hlt : (l.length : Int) - 1 < 1 + r
    · have hkbw : kb < wr.heap.size := cell_below c0
      go_wp2_with fail
      refine calm_region 13 (fun w' => w'.cell? ⟨kb, 0, none⟩ = some (.int .i64 kx) ∧ w'.cell? ⟨kb, 1, none⟩ = some (.int .i64 ky)) (by kernel_rfl) (by go_keep) (fun hHeld => ?_)
      refine take_l 0 22 rfl rfl (by kernel_rfl) (by kernel_rfl) (by kernel_rfl) (by kernel_rfl) (fun _ _ _ h => h) (by kernel_rfl) (by intro w hSw; (try dsimp only at hSw); go_simp; try with_reducible rfl) (by assumption) ?_
      refine take_l 1 23 rfl rfl (by kernel_rfl) (by kernel_rfl) (by kernel_rfl) (by kernel_rfl) (fun _ _ _ h => h) (by kernel_rfl) (by intro w hSw; (try dsimp only at hSw); go_simp; try with_reducible rfl) (by assumption) ?_
      refine take_l 2 24 rfl rfl (by kernel_rfl) (by kernel_rfl) (by kernel_rfl) (by kernel_rfl) (fun _ _ _ h => h) (by kernel_rfl) (by intro w hSw; (try dsimp only at hSw); go_simp; try with_reducible rfl) (by assumption) ?_
      refine take_l 3 25 rfl rfl (by kernel_rfl) (by kernel_rfl) (by kernel_rfl) (by kernel_rfl) (fun _ _ _ h => h) (by kernel_rfl) (by intro w hSw; (try dsimp only at hSw); go_simp; try with_reducible rfl) (by assumption) ?_
      refine take_l 6 28 rfl rfl (by kernel_rfl) (by kernel_rfl) (by kernel_rfl) (by kernel_rfl) (fun _ _ _ h => h) (by kernel_rfl) (by intro w hSw; (try dsimp only at hSw); go_simp; try with_reducible rfl) (by assumption) ?_
      refine take_l 7 29 rfl rfl (by kernel_rfl) (by kernel_rfl) (by kernel_rfl) (by kernel_rfl) (fun _ _ _ h => h) (by kernel_rfl) (by intro w hSw; (try dsimp only at hSw); go_simp; try with_reducible rfl) (by assumption) ?_
      refine take_l 8 30 rfl rfl (by kernel_rfl) (by kernel_rfl) (by kernel_rfl) (by kernel_rfl) (fun _ _ _ h => h) (by kernel_rfl) (by intro w hSw; (try dsimp only at hSw); go_simp; try with_reducible rfl) (by assumption) ?_
      refine take_l 9 31 rfl rfl (by kernel_rfl) (by kernel_rfl) (by kernel_rfl) (by kernel_rfl) (fun _ _ _ h => h) (by kernel_rfl) (by intro w hSw; (try dsimp only at hSw); go_simp; try with_reducible rfl) (by assumption) ?_
      refine step_l 4 (by kernel_rfl) rfl (fun K hK => ?_)
      go_simp
      go_wp2_with (go_at_call 40; refine (pick_at (b := b) (m := m + 3 + 2 * (l.length - 1)) 12 A4.out.drew (by omega)).mono ?_; rintro e w5 ⟨r5, rfl, p5, q5, _, a5, k5⟩; replace q5 := q5 (by decide); obtain ⟨d0, d1, g0, g1⟩ := keep_pair kb (.int .i64 kx) (.int .i64 ky) k5 (by omega) (by go_cell) (by go_cell) (by go_simp) (by go_simp); have z1 : IntKind.i64.wrap (kx + 1 + r5) = kx + 1 + r5 := IntWalk.i64_in _ (by omega))
      refine hK.out _ _ (by (try dsimp only); (exact ⟨d0, d1⟩)) (fun hHeld => ?_)
      clear hK K
      refine take_l 5 27 rfl rfl (by kernel_rfl) (by kernel_rfl) (by kernel_rfl) (by kernel_rfl) (fun _ _ _ h => h) (by kernel_rfl) (by intro w hSw; (try dsimp only at hSw); go_simp; try with_reducible rfl) (by assumption) ?_
      refine step_l 10 (by kernel_rfl) rfl (fun K hK => ?_)
      go_simp
      go_wp2_with (go_at_call 40; refine (pick_at (b := b) (m := m + 3 + 2 * (l.length - 1) + 1) 12 a5 (by omega)).mono ?_; rintro e w6 ⟨r6, rfl, p6, q6, _, a6, k6⟩; replace q6 := q6 (by decide); obtain ⟨d2, d3, g2, g3⟩ := keep_pair kb (.int .i64 kx) (.int .i64 ky) k6 (by omega) d0 d1 g0 g1; have z2 : IntKind.i64.wrap (ky + 1 + r6) = ky + 1 + r6 := IntWalk.i64_in _ (by omega))
      refine hK.out _ _ (by (try dsimp only); (exact ⟨d2, d3⟩)) (fun hHeld => ?_)
      clear hK K
      refine take_l 11 33 rfl rfl (by kernel_rfl) (by kernel_rfl) (by kernel_rfl) (by kernel_rfl) (fun _ _ _ h => h) (by kernel_rfl) (by intro w hSw; (try dsimp only at hSw); go_simp; try with_reducible rfl) (by assumption) ?_
      refine take_l 12 34 rfl rfl (by kernel_rfl) (by kernel_rfl) (by kernel_rfl) (by kernel_rfl) (fun _ _ _ h => h) (by kernel_rfl) (by intro w hSw; (try dsimp only at hSw); go_simp; try with_reducible rfl) (by assumption) ?_
      refine last_l (by kernel_rfl) rfl (by kernel_rfl) (fun K hK => ?_)
      go_simp
      refine hK.out _ _ ?_
      clear hK K
      simp only [Exit.then]
      try simp only [Act.put, List.setIfInBounds_toArray, List.set_cons_succ, List.set_cons_zero]
      have z3 : IntKind.i64.wrap (kx + 1) = kx + 1 := IntWalk.i64_in _ (by omega)
      have z4 : IntKind.i64.wrap (ky + 1) = ky + 1 := IntWalk.i64_in _ (by omega)
      simp only [z3, z4, z1, z2]
      have NK := NextKnot.mk (s := .bool true) (l := l) (v := u4) (M := m + 3 + 2 * (l.length - 1) + 2) p5 q5 p6 q6 hkw hbw d2 d3 g2 g3 ((O4.out.grow (Below.refl _ _).drew).keep k5 (by omega) |>.keep k6 (by omega)) a6 ((K4.out.trans (Keep.drew b wr)).trans k5 |>.trans k6) rfl
      generalize ((w6.setCell ⟨kb, 0, none⟩ (.int .i64 (kx + 1 + r5))).setCell ⟨kb, 1, none⟩ (.int .i64 (ky + 1 + r6))) = w7 at NK ⊢
      obtain ⟨s1, s2, s3, s4, s5, s6, e0, e1, g4, g5, o7, a7, k7⟩ := NK
      have O7 := Lib.hid o7; have A7 := Lib.hid a7; have K7 := Lib.hid k7
      have hs7 : kb < w7.heap.size := cell_below e0
      clear a5 k5 a6 k6 d0 d1 d2 d3 g0 g1 g2 g3 hHeld c0 c1 f0 f1 o7 a7 k7
      obtain ⟨n1, n2⟩ := new_two w7 (.int .i64 (kx + 1 + s1)) (.int .i64 (ky + 1 + s2)) 29
      have N1 := Lib.hid n1; have N2 := Lib.hid n2
      have BW := Lib.hid ((Below.refl w7.heap.size w7).alloc (Nat.le_refl _) (.cells #[.int .i64 (kx + 1 + s1), .int .i64 (ky + 1 + s2)] 29))
      clear n1 n2
      go_wp2_with (at_builtin; refine append_pair knotT' rfl _ _ rfl (B := kb + 1) _ l rfl (O7.out.grow BW.out) ⟨w7.heap.size, 0, none⟩ (kx + 1 + s1, ky + 1 + s2) rfl N1.out N2.out (by omega) (by simp; omega) ?_; intro v8 w8 hown8 hg8)
      have O8 := Lib.hid hown8
      have B8 := Lib.hid ((BW.out.mono (show kb + 1 ≤ w7.heap.size by omega)).trans ((O7.out.grow BW.out).below hg8 (by simp; omega)))
      obtain ⟨j0, j1, j2, j3⟩ : w8.cell? ⟨kb, 0, none⟩ = some (.int .i64 (kx + 1 + s1)) ∧ w8.cell? ⟨kb, 1, none⟩ = some (.int .i64 (ky + 1 + s2)) ∧ w8.frozen? ⟨kb, 0, none⟩ = false ∧ w8.frozen? ⟨kb, 1, none⟩ = false :=
        ⟨(B8.out.cell (p := ⟨kb, 0, none⟩) (by simp)).trans e0, (B8.out.cell (p := ⟨kb, 1, none⟩) (by simp)).trans e1, (B8.out.frozen (p := ⟨kb, 0, none⟩) (by simp)).trans g4, (B8.out.frozen (p := ⟨kb, 1, none⟩) (by simp)).trans g5⟩
      clear hown8 hg8
      go_wp2_with fail
      go_roundg (gk - 1)
      case measure => have := K.out; omega
      case rel =>
        refine ⟨l ++ [(kx + 1 + s1, ky + 1 + s2)], _, _, by simp, by simp, by have := K.out; simp; omega, by omega, by simp; omega, by omega, by simp; omega, j0, j1, j2, j3, O8.out, ?_, (A7.out.below (B8.out.mono (by omega))).mono (by simp; omega), K7.out.grow (B8.out.mono (by omega))⟩
        have := BD.out.snoc (kx + 1 + s1, ky + 1 + s2) ⟨⟨by show _ ≤ kx + 1 + s1; omega, by show kx + 1 + s1 ≤ _; omega⟩, by show _ ≤ ky + 1 + s2; omega, by show ky + 1 + s2 ≤ _; omega⟩
        exact ⟨by have := K.out; simp; omega, this.2⟩
    · obtain ⟨n0, hn0⟩ : ∃ n0 : Nat, r = n0 := ⟨r.toNat, by omega⟩
      subst hn0
      have hln : l.length = n0 + 2 := by have := K.out; omega
      have hl0 : n0 < l.length := by omega
      have hl2 : n0 + 1 < l.length := by omega
      clear hln
      go_wp2_with fail
      refine (pick_at 40 A4.out (by omega)).mono ?_
      rintro e w5 ⟨r5, rfl, p5, q5, _, a5, k5⟩
      replace q5 := q5 (by decide)
      have A5 := Lib.hid (a5.mono (by omega : m + 3 + 2 * (l.length - 1) + 1 ≤ m + 20)); have K5 := Lib.hid (K4.out.trans k5); have O5 := Lib.hid ((O4.out.keep k5 (by omega)).mono (show w.heap.size ≤ kb + 1 by omega))
      clear a5 k5 c0 c1 f0 f1
      obtain ⟨g, cap, hu, hcap, hcapm, hBg, hgw, hp⟩ := O5.out.at (by omega)
      subst hu
      unfold maxLen at hcapm
      have hlast := hp (n0 + 1) hl2
      have hprev := hp n0 hl0
      have bl := BD.out.get (n0 + 1) hl2
      have bf := BD.out.get n0 hl0
      have s0 : (0 : Int) ≤ 1 + (n0 : Int) := by omega
      have s1 : 1 + (n0 : Int) < (l.length : Int) := by omega
      have s2 : (1 + (n0 : Int)).toNat = n0 + 1 := by omega
      have s3 : IntKind.i64.wrap (1 + (n0 : Int) - 1) = (n0 : Int) := by rw [show 1 + (n0 : Int) - 1 = n0 by omega]; exact IntWalk.i64_in _ (by omega)
      have s4 : IntKind.i64.wrap (1 + (n0 : Int)) = 1 + (n0 : Int) := IntWalk.i64_in _ (by omega)
      have s5 : (0 : Int) ≤ (n0 : Int) := by omega
      have s6 : (n0 : Int) < (l.length : Int) := by omega
      have hcapw : l.length ≤ cap := hcap
      clear hp
      by_cases e0 : r5 = 0
      · subst e0
        have S := Lib.hid (hlast.setBot l[n0].2)
        have t0 := hlast.top; have t1 := hlast.bot; have t2 := hlast.f1
        have t3 := hprev.bot
        clear hlast hprev
        go_wp2_with fail
        go_ret
        refine ⟨_, l.set (n0 + 1) (l[n0 + 1].1, l[n0].2), rfl, S.out, (BD.out.set (n0 + 1) (l[n0 + 1].1, l[n0].2) ⟨bl.1, bf.2⟩).mono (by omega) (by omega), by rw [List.length_set]; omega, A5.out.below (((Below.refl _ _).setCell (p := ⟨g, (n0 + 1) * 2 + 1, none⟩) hBg _).mono (by omega)), K5.out.grow ((Below.refl _ _).setCell (p := ⟨g, (n0 + 1) * 2 + 1, none⟩) hBg _)⟩
      · by_cases e1 : r5 = 1
        · subst e1
          have S := Lib.hid (O5.out.take 1 (by omega))
          clear hlast hprev e0
          go_wp2_with fail
          go_ret
          exact ⟨_, l.take 1, rfl, S.out, ⟨by rw [List.length_take]; omega, fun p hp => BD.out.2 p (List.mem_of_mem_take hp)⟩, by rw [List.length_take]; omega, A5.out, K5.out⟩
        · by_cases e2 : r5 = 2
          · subst e2
            have S := Lib.hid (hlast.setTop 30001)
            have t0 := hlast.top; have t2 := hlast.f0
            clear hlast hprev e0 e1
            go_wp2_with fail
            go_ret
            exact ⟨_, l.set (n0 + 1) (30001, l[n0 + 1].2), rfl, S.out, (BD.out.set (n0 + 1) (30001, l[n0 + 1].2) ⟨(by show (-100000 : Int) ≤ 30001 ∧ (30001 : Int) ≤ 100000; decide), bl.2⟩).mono (by omega) (by omega), by rw [List.length_set]; omega, A5.out.below (((Below.refl _ _).setCell (p := ⟨g, (n0 + 1) * 2, none⟩) hBg _).mono (by omega)), K5.out.grow ((Below.refl _ _).setCell (p := ⟨g, (n0 + 1) * 2, none⟩) hBg _)⟩
          · have f0 : (r5 == 0) = false := by simpa using e0
            have f1 : (r5 == 1) = false := by simpa using e1
            have f2 : (r5 == 2) = false := by simpa using e2
            clear e0 e1 e2 hlast hprev
            go_wp2_with fail
            go_ret
            exact ⟨_, l, rfl, O5.out, BD.out.mono (by omega) (by omega), by omega, A5.out, K5.out⟩
end Go.Proofs.Ythpfehjjaamkkac
