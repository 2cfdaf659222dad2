/- The draws of windows and steps. -/
import Derived.Test.YtanfalkpmmkklaaDoorDraw
import Derived.Test.YtanfalkpmmkklaaDoorTwoGrow
namespace Go.Proofs.YtanfalkpmmkklaaDoor
open Go.RowKit

abbrev WT' : TypeId := 33
theorem winT' : PairT 33 23 := ⟨by kernel_rfl, Tryd.underlying23⟩
theorem Blk.keep {T : TypeId} {w w' : World} {b B : Nat} {v : Value} {l : List Pc} (h : Blk T w B v l) (k : Keep b w w') (hb : b < B) : Blk T w' B v l := ⟨h.own.keep' k.block hb, h.blk⟩
theorem Keep.grow {b : Nat} {w w' x : World} (h : Keep b w w') (k : Below w.heap.size w' x) : Keep b w x :=
  ⟨k.os.trans h.os, k.tape.trans h.tape, k.output.trans h.output, Nat.le_trans h.size k.size, fun i hi hb => (k.block i hi).trans (h.block i hi hb)⟩
/-- What l92Windows comes to. -/
def WinDrawn (w : World) (b m : Nat) (e : Ending) (w' : World) : Prop :=
  ∃ v u l s, e = .returned (.tuple #[v, u]) ∧ Blk WT' w' w.heap.size v l ∧ Blk WT' w' w.heap.size u s ∧ Apt v u ∧ 1 ≤ l.length ∧ Bd 100000 6 l ∧ Bd 100000 6 s ∧ At w' b (m + 40) ∧ Keep b w w'
set_option maxRecDepth 100000 in
set_option maxHeartbeats 6400000 in
theorem l92Windows_any {w : World} {b m : Nat} (h : At w b m) (hm : m ≤ 900000) :
    Calls Tryd.prog 24 #[.pointer (some ⟨b, 0, none⟩)] w fun e w' => WinDrawn w b m e w' := by
  have hbw := h.lt
  have A0 := Lib.hid ((h.alloc (.cells #[] WT')).alloc (.cells #[] WT'))
  have O0 := Lib.hid ((blk_new (w := w) WT' (Nat.le_refl w.heap.size)).grow ((Below.refl _ _).alloc (Nat.le_refl _) (.cells #[] WT')))
  have U0 := Lib.hid (blk_new (B := w.heap.size) (w := w.alloc (.cells #[] WT')) WT' (by simp))
  have K0 := Lib.hid ((Keep.alloc b w (.cells #[] WT')).trans (Keep.alloc b _ (.cells #[] WT')))
  clear h
  rw [World.size_alloc] at U0
  go_enter Tryd.func24, Tryd.ntmps24
  go_wp2_with fail
  refine (pick_at 50 A0.out (by omega)).mono ?_
  rintro e w1 ⟨x0, rfl, p1, q1, _, a1, k1⟩
  replace q1 := q1 (by decide)
  have A1 := Lib.hid a1; have K1 := Lib.hid (K0.out.trans k1); have O1 := Lib.hid (O0.out.keep k1 hbw); have U1 := Lib.hid (U0.out.keep k1 hbw)
  have s1 : IntKind.i64.wrap (20 + x0) = 20 + x0 := IntWalk.i64_in _ (by omega)
  clear a1 k1 A0 K0 O0 U0
  go_wp2_with fail
  refine (pick_at 5 A1.out (by omega)).mono ?_
  rintro e w2 ⟨r, rfl, p2, q2, _, a2, k2⟩
  replace q2 := q2 (by decide)
  obtain ⟨n, hn⟩ : ∃ n : Nat, 1 + r = n := ⟨(1 + r).toNat, by omega⟩
  have s2 : IntKind.i64.wrap (1 + r) = (n : Int) := by rw [hn]; exact IntWalk.i64_in _ (by omega)
  have n5 : 1 ≤ n ∧ n ≤ 5 := by omega
  have A2 := Lib.hid a2; have K2 := Lib.hid (K1.out.trans k2); have O2 := Lib.hid (O1.out.keep k2 hbw); have U2 := Lib.hid (U1.out.keep k2 hbw)
  have X2 : Hid (Apt (.slice (some ⟨w.heap.size, 0, none⟩) 0 0) (.slice (some ⟨w.heap.size + 1, 0, none⟩) 0 0)) := Lib.hid (fun k h1 h2 => by
    simp [Value.ownBlock] at h1 h2; omega)
  clear a2 k2 A1 K1 O1 U1 hn q2 p2
  go_wp2_with fail
  go_loopg [4, 5, 6, 8] n (fun k x y z i wr => ∃ (j : Nat) (L M : List Pc) (g : Int), i = .int .i64 j ∧ z = .int .i64 g ∧ j + k = n ∧ L.length = j ∧ (20 ≤ g ∧ g ≤ 70 + 15 * (j : Int)) ∧ Bd 100000 j L ∧ Bd 100000 j M ∧ Blk WT' wr w.heap.size x L ∧ Blk WT' wr w.heap.size y M ∧ Apt x y ∧ At wr b (m + 2 + 5 * j) ∧ Keep b w wr)
  case atStart => exact ⟨0, [], [], 20 + x0, rfl, rfl, by omega, rfl, by omega, ⟨by simp, fun p hp => by simp at hp⟩, ⟨by simp, fun p hp => by simp at hp⟩, O2.out, U2.out, X2.out, A2.out.mono (by omega), K2.out⟩
  case round =>
    obtain ⟨j, L, M, g, rfl, rfl, hk, hl, hg, bl, bm, ho, hu, hx, hat, hke⟩ := hrel
    have K := Lib.hid hk; have HL := Lib.hid hl; have BL := Lib.hid bl; have BM := Lib.hid bm; have O := Lib.hid ho; have U := Lib.hid hu; have X := Lib.hid hx; have A := Lib.hid hat; have Kp := Lib.hid hke
    have hjn : j ≤ n := by omega
    have m12 := bm.1
    have l12 : L.length ≤ 5 := by omega
    clear hk hl bl bm ho hu hx hat hke O2 U2 X2 A2 K2
    by_cases hlt : (j : Int) < (n : Int)
    · have hj4 : j ≤ 4 := by omega
      go_wp2_with fail
      refine (pick_at 12 A.out (by omega)).mono ?_
      rintro e w3 ⟨q3, rfl, p3, r3, _, a3, k3⟩
      replace r3 := r3 (by decide)
      have A3 := Lib.hid a3; have K3 := Lib.hid (Kp.out.trans k3); have O3 := Lib.hid (O.out.keep k3 hbw); have U3 := Lib.hid (U.out.keep k3 hbw)
      have t1 : IntKind.i64.wrap (g - q3) = g - q3 := IntWalk.i64_in _ (by omega)
      have t2 : (if 0 < g - q3 then g - q3 else 0) = g - q3 := if_pos (by omega)
      have t2' : q3 < g := by omega
      clear a3 k3 A Kp O U
      go_wp2_with fail
      refine (pick_at 12 A3.out (by omega)).mono ?_
      rintro e w4 ⟨q4, rfl, p4, r4, _, a4, k4⟩
      replace r4 := r4 (by decide)
      have A4 := Lib.hid a4; have K4 := Lib.hid (K3.out.trans k4); have O4 := Lib.hid (O3.out.keep k4 hbw); have U4 := Lib.hid (U3.out.keep k4 hbw)
      have t3 : IntKind.i64.wrap (g + q4) = g + q4 := IntWalk.i64_in _ (by omega)
      have z4 := K4.out.size
      obtain ⟨n1, n2⟩ := new_two w4 (.int .i64 (g - q3)) (.int .i64 (g + q4)) WT'
      have N1 := Lib.hid n1; have N2 := Lib.hid n2
      have BW := Lib.hid ((Below.refl w4.heap.size w4).alloc (Nat.le_refl _) (.cells #[.int .i64 (g - q3), .int .i64 (g + q4)] WT'))
      clear a4 k4 n1 n2 A3 K3 O3 U3
      go_wp2_with (at_builtin; refine append_blk winT' rfl _ _ rfl (B := w.heap.size) _ L rfl (O4.out.grow BW.out) ⟨w4.heap.size, 0, none⟩ (g - q3, g + q4) rfl N1.out N2.out (by omega) (by simp; omega) ?_; intro v5 w5 o5 g5 h5; have O5 := Lib.hid o5; have UB := Lib.hid (U4.out.grow BW.out); have X5 := Lib.hid (X.out.new (w := w4.alloc (.cells #[.int .i64 (g - q3), .int .i64 (g + q4)] WT')) (fun k hk => (UB.out.own.lt k hk).2) h5); have U5 := Lib.hid (UB.out.stays g5 X.out.symm); have B5 := Lib.hid (BW.out.mono z4 |>.trans ((O4.out.grow BW.out).own.below g5 (by simp; omega))); clear o5 g5 h5)
      have A5 := Lib.hid (A4.out.below (B5.out.mono hbw)); have K5 := Lib.hid (K4.out.grow B5.out)
      clear O4 U4 A4 K4 UB N1 N2 BW X
      go_wp2_with fail
      refine (pick_at 15 A5.out (by omega)).mono ?_
      rintro e w6 ⟨q6, rfl, p6, r6, _, a6, k6⟩
      replace r6 := r6 (by decide)
      have A6 := Lib.hid a6; have K6 := Lib.hid (K5.out.trans k6); have O6 := Lib.hid (O5.out.keep k6 hbw); have U6 := Lib.hid (U5.out.keep k6 hbw)
      have t5 : IntKind.i64.wrap (g + q6) = g + q6 := IntWalk.i64_in _ (by omega)
      have t6 : IntKind.i64.wrap ((j : Int) + 1) = (j : Int) + 1 := IntWalk.i64_in _ (by omega)
      have BL2 := Lib.hid (BL.out.snoc (g - q3, g + q4) ⟨⟨by show -100000 ≤ g - q3; omega, by show g - q3 ≤ 100000; omega⟩, by show -100000 ≤ g + q4; omega, by show g + q4 ≤ 100000; omega⟩)
      have HL2 : Hid ((L ++ [(g - q3, g + q4)]).length = j + 1) := Lib.hid (by have := HL.out; simp; omega)
      clear a6 k6 A5 K5 O5 U5 B5 BL HL
      by_cases hl2 : (j : Int) + 1 < (n : Int)
      · go_wp2_with fail
        refine (pick_at 5 A6.out (by omega)).mono ?_
        rintro e w7 ⟨q7, rfl, p7, r7, _, a7, k7⟩
        replace r7 := r7 (by decide)
        have A7 := Lib.hid a7; have K7 := Lib.hid (K6.out.trans k7); have O7 := Lib.hid (O6.out.keep k7 hbw); have U7 := Lib.hid (U6.out.keep k7 hbw)
        have t7 : IntKind.i64.wrap (q6 - q7) = q6 - q7 := IntWalk.i64_in _ (by omega)
        obtain ⟨y, hy⟩ : ∃ y, (if 0 < q6 - q7 then q6 - q7 else 0) = y := ⟨_, rfl⟩
        have hy2 : (if q7 < q6 then q6 - q7 else 0) = y := by rw [← hy]; split <;> split <;> omega
        have yb : 0 ≤ y ∧ y ≤ 15 := by rw [← hy]; split <;> omega
        clear a7 k7 A6 K6 O6 U6
        go_wp2_with fail
        refine (pick_at 5 A7.out (by omega)).mono ?_
        rintro e w8 ⟨q8, rfl, p8, r8, _, a8, k8⟩
        replace r8 := r8 (by decide)
        have A8 := Lib.hid a8; have K8 := Lib.hid (K7.out.trans k8); have O8 := Lib.hid (O7.out.keep k8 hbw); have U8 := Lib.hid (U7.out.keep k8 hbw)
        have t8 : IntKind.i64.wrap (q6 + q8) = q6 + q8 := IntWalk.i64_in _ (by omega)
        have z8 := K8.out.size
        obtain ⟨n1, n2⟩ := new_two w8 (.int .i64 y) (.int .i64 (q6 + q8)) WT'
        have N1 := Lib.hid n1; have N2 := Lib.hid n2
        have BW := Lib.hid ((Below.refl w8.heap.size w8).alloc (Nat.le_refl _) (.cells #[.int .i64 y, .int .i64 (q6 + q8)] WT'))
        clear a8 k8 n1 n2 A7 K7 O7 U7
        go_wp2_with (at_builtin; refine append_blk winT' rfl _ _ rfl (B := w.heap.size) _ M rfl (U8.out.grow BW.out) ⟨w8.heap.size, 0, none⟩ (y, q6 + q8) rfl N1.out N2.out (by omega) (by simp; omega) ?_; intro v9 w9 o9 g9 h9; have U9 := Lib.hid o9; have OB := Lib.hid (O8.out.grow BW.out); have X9 := Lib.hid ((X5.out.symm.new (w := w8.alloc (.cells #[.int .i64 y, .int .i64 (q6 + q8)] WT')) (fun k hk => (OB.out.own.lt k hk).2) h9).symm); have O9 := Lib.hid (OB.out.stays g9 X5.out); have B9 := Lib.hid (BW.out.mono z8 |>.trans ((U8.out.grow BW.out).own.below g9 (by simp; omega))); clear o9 g9 h9)
        have A9 := Lib.hid (A8.out.below (B9.out.mono hbw)); have K9 := Lib.hid (K8.out.grow B9.out)
        have BM2 := Lib.hid (BM.out.snoc (y, q6 + q8) ⟨⟨by show -100000 ≤ y; omega, by show y ≤ 100000; omega⟩, by show -100000 ≤ q6 + q8; omega, by show q6 + q8 ≤ 100000; omega⟩)
        clear O8 U8 A8 K8 OB N1 N2 BW BM X5
        go_wp2_with fail
        go_roundg (gk - 1)
        case measure => have := K.out; omega
        case rel => exact ⟨j + 1, _, _, g + q6, by go_num, by first | rfl | go_num, by have := K.out; omega, HL2.out, by omega, BL2.out, BM2.out, O9.out, U9.out, X9.out, A9.out.mono (by omega), K9.out⟩
      · go_wp2_with fail
        go_roundg (gk - 1)
        case measure => have := K.out; omega
        case rel => exact ⟨j + 1, _, _, g + q6, by go_num, by first | rfl | go_num, by have := K.out; omega, HL2.out, by omega, BL2.out, BM.out.mono (by omega) (by omega), O6.out, U6.out, X5.out, A6.out.mono (by omega), K6.out⟩
    · have hjn2 : j = n := by omega
      subst hjn2
      have ll : 1 ≤ L.length := by have := HL.out; omega
      have l5 : L.length ≤ 5 := by have := HL.out; omega
      go_wp2_with fail
      refine (pick_at 24 A.out (by omega)).mono ?_
      rintro e w3 ⟨q, rfl, p3, r3, _, a3, k3⟩
      replace r3 := r3 (by decide)
      have A3 := Lib.hid a3; have K3 := Lib.hid (Kp.out.trans k3); have O3 := Lib.hid (O.out.keep k3 hbw); have U3 := Lib.hid (U.out.keep k3 hbw)
      have wr1 : IntKind.i64.wrap ((j : Int) - 1) = (j : Int) - 1 := IntWalk.i64_in _ (by omega)
      have z3 := K3.out.size
      clear a3 k3 A Kp O U
      obtain ⟨r, hr⟩ : ∃ r, j = r + 1 := ⟨j - 1, by omega⟩
      have hrl : r < L.length := by have := HL.out; omega
      have wr2 : (j : Int) - 1 = (r : Int) := by omega
      have r0 : (0 : Int) ≤ (r : Int) := by omega
      have r1 : (r : Int) < (L.length : Int) := by omega
      rw [wr2] at wr1
      have stay : ∀ (w' : World) (h : Below w.heap.size w3 w'), At w' b (m + 39) ∧ Keep b w w' := fun w' h => ⟨(A3.out.below (h.mono hbw)).mono (by omega), K3.out.grow h⟩
      have ST := Lib.hid stay
      -- the last window is another one
      have put : ∀ (w4 : World) (_ : Blk WT' w4 w.heap.size u4 L) (_ : Blk WT' w4 w.heap.size u5 M) (p : Pc) (_ : -100000 ≤ p.1 ∧ p.1 ≤ 100000) (_ : -100000 ≤ p.2 ∧ p.2 ≤ 100000), ∃ g c, u4 = .slice (some ⟨g, 0, none⟩) L.length c ∧ L.length ≤ c ∧ c ≤ 9223372036854775807 ∧ w.heap.size ≤ g ∧ Pair2 WT' w4 w.heap.size u4 L g r L[r] ∧
          Blk WT' ((w4.setCell ⟨g, r * 2, none⟩ (.int .i64 p.1)).setCell ⟨g, r * 2 + 1, none⟩ (.int .i64 p.2)) w.heap.size u4 (L.set r p) ∧ Blk WT' ((w4.setCell ⟨g, r * 2, none⟩ (.int .i64 p.1)).setCell ⟨g, r * 2 + 1, none⟩ (.int .i64 p.2)) w.heap.size u5 M ∧ Bd 100000 6 (L.set r p) := fun w4 o u p h1 h2 => by
        obtain ⟨g, c, e, v1, v2, v3, v4, P, st⟩ := o.own.set2 r hrl p
        unfold maxLen at v2
        refine ⟨g, c, e, v1, v2, v3, P, ⟨st, o.blk⟩, ⟨u.own.same fun k hk => ?_, u.blk⟩, (BL.out.set r p ⟨h1, h2⟩).mono (by omega) (by omega)⟩
        have ne : k ≠ g := fun e2 => X.out g (by rw [e]; rfl) (e2 ▸ hk)
        rw [Below.heap_setCell _ ⟨g, r * 2 + 1, none⟩ _ k ne, Below.heap_setCell _ ⟨g, r * 2, none⟩ _ k ne]
      have PUT := Lib.hid put
      clear put stay
      by_cases e0 : q = 0
      · subst e0
        obtain ⟨g1, c1, rfl, v1, v2, v3, P, bx, by1, bd⟩ := PUT.out w3 O3.out U3.out (5, 3) (by simp) (by simp)
        have f0 := P.f0; have f1 := P.f1; have d0 := P.top; have d1 := P.bot
        have BX := Lib.hid bx; have BY := Lib.hid by1; have BD := Lib.hid bd
        have SS := Lib.hid (ST.out _ (((Below.refl _ w3).setCell (p := ⟨g1, r * 2, none⟩) v3 (.int .i64 5)).setCell (p := ⟨g1, r * 2 + 1, none⟩) v3 (.int .i64 3)))
        clear P bx by1 bd
        go_wp2_with fail
        go_ret2
        exact ⟨_, _, _, M, rfl, BX.out, BY.out, X.out, by simp; omega, BD.out, BM.out.mono (by omega) (by omega), SS.out.1.mono (by omega), SS.out.2⟩
      have e0' : (q == 0) = false := by simpa using e0
      by_cases e1 : q = 1
      · subst e1
        obtain ⟨n1, n2⟩ := new_two w3 (.int .i64 0) (.int .i64 0) WT'
        have N1 := Lib.hid n1; have N2 := Lib.hid n2
        have BW := Lib.hid ((Below.refl w3.heap.size w3).alloc (Nat.le_refl _) (.cells #[.int .i64 0, .int .i64 0] WT'))
        clear n1 n2
        go_wp2_with (at_builtin; refine append_blk winT' rfl _ _ rfl (B := w.heap.size) _ M rfl (U3.out.grow BW.out) ⟨w3.heap.size, 0, none⟩ (0, 0) rfl N1.out N2.out (by omega) (by simp; omega) ?_; intro v9 w9 o9 g9 h9; have U9 := Lib.hid o9; have OB := Lib.hid (O3.out.grow BW.out); have X9 := Lib.hid ((X.out.symm.new (w := w3.alloc (.cells #[.int .i64 0, .int .i64 0] WT')) (fun k hk => (OB.out.own.lt k hk).2) h9).symm); have O9 := Lib.hid (OB.out.stays g9 X.out); have B9 := Lib.hid (BW.out.mono z3 |>.trans ((U3.out.grow BW.out).own.below g9 (by simp; omega))); clear o9 g9 h9)
        have SS := Lib.hid (ST.out _ B9.out)
        have BM2 := Lib.hid (BM.out.snoc (0, 0) ⟨by simp, by simp⟩)
        go_wp2_with fail
        go_ret2
        exact ⟨_, _, L, _, rfl, O9.out, U9.out, X9.out, ll, BL.out.mono (by omega) (by omega), BM2.out.mono (by omega) (by omega), SS.out.1.mono (by omega), SS.out.2⟩
      have e1' : (q == 1) = false := by simpa using e1
      by_cases e2 : q = 2 ∨ q = 3 ∨ q = 4
      · rcases e2 with rfl | rfl | rfl
        all_goals
          go_wp2_with fail
          refine (pick_at 40 A3.out (by omega)).mono ?_
          rintro e w4 ⟨q4, rfl, p4, r4, _, a4, k4⟩
          replace r4 := r4 (by decide)
          have t4 : IntKind.i64.wrap (40 + q4) = 40 + q4 := IntWalk.i64_in _ (by omega)
          obtain ⟨g1, c1, rfl, v1, v2, v3, P, bx, by1, bd⟩ := PUT.out w4 (O3.out.keep k4 hbw) (U3.out.keep k4 hbw) (10, 40 + q4) (by simp) (by simp; omega)
          have f0 := P.f0; have f1 := P.f1; have d0 := P.top; have d1 := P.bot
          have BX := Lib.hid bx; have BY := Lib.hid by1; have BD := Lib.hid bd
          have SB : Hid (Below w.heap.size w4 ((w4.setCell ⟨g1, r * 2, none⟩ (.int .i64 10)).setCell ⟨g1, r * 2 + 1, none⟩ (.int .i64 (40 + q4)))) := Lib.hid (((Below.refl _ w4).setCell (p := ⟨g1, r * 2, none⟩) v3 (.int .i64 10)).setCell (p := ⟨g1, r * 2 + 1, none⟩) v3 (.int .i64 (40 + q4)))
          have A4 := Lib.hid (a4.below (SB.out.mono hbw)); have K4 := Lib.hid ((K3.out.trans k4).grow SB.out)
          clear P bx by1 bd a4 k4
          go_wp2_with fail
          go_ret2
          exact ⟨_, _, _, M, rfl, BX.out, BY.out, X.out, by simp; omega, BD.out, BM.out.mono (by omega) (by omega), A4.out.mono (by omega), K4.out⟩
      · have e2' : (q == 2) = false := by simp; omega
        have e3' : (q == 3) = false := by simp; omega
        have e4' : (q == 4) = false := by simp; omega
        have SS := Lib.hid (ST.out _ (Below.refl _ w3))
        go_wp2_with fail
        go_ret2
        exact ⟨_, _, L, M, rfl, O3.out, U3.out, X.out, ll, BL.out.mono (by omega) (by omega), BM.out.mono (by omega) (by omega), SS.out.1.mono (by omega), SS.out.2⟩
end Go.Proofs.YtanfalkpmmkklaaDoor
