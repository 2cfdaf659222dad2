/- The draws of parts. -/
import Derived.Test.YtcemgdekcfdfhaaDoorDraw
import Derived.Test.YtcemgdekcfdfhaaDoorTwoIP
namespace Go.Proofs.YtcemgdekcfdfhaaDoor
open Go.RowKit

theorem inTo : IntT 23 := Tryd.underlying23
theorem IBlk.keep {w w' : World} {b B : Nat} {v : Value} {l : List Int} (h : IBlk w B v l) (k : Keep b w w') (hb : b < B) : IBlk w' B v l := ⟨h.own.keep' k.block hb, h.blk⟩
theorem Keep.grow {b : Nat} {w w' x : World} (h : Keep b w w') (k : Below w.heap.size w' x) : Keep b w x :=
  ⟨k.os.trans h.os, k.tape.trans h.tape, k.output.trans h.output, Nat.le_trans h.size k.size, fun i hi hb => (k.block i hi).trans (h.block i hi hb)⟩
/-- Numbers of layers as they are drawn. -/
def Lay7 (l : List Int) : Prop := ∀ x ∈ l, -1 ≤ x ∧ x ≤ 7
theorem Lay7.snoc {l : List Int} (h : Lay7 l) {x : Int} (h1 : -1 ≤ x) (h2 : x ≤ 7) : Lay7 (l ++ [x]) := fun y hy => by
  rcases List.mem_append.1 hy with k | k
  · exact h y k
  · rw [List.mem_singleton] at k; subst k; exact ⟨h1, h2⟩
/-- What l92Parts comes to. -/
def PartsDrawn (w : World) (b m : Nat) (e : Ending) (w' : World) : Prop :=
  ∃ v u l s, e = .returned (.tuple #[v, u]) ∧ IBlk w' w.heap.size v l ∧ IBlk w' w.heap.size u s ∧ Apt v u ∧ 1 ≤ l.length ∧ l.length ≤ 3 ∧ 1 ≤ s.length ∧ s.length ≤ 4 ∧ Lay7 l ∧ Lay7 s ∧ At w' b (m + 10) ∧ Keep b w w'
set_option maxRecDepth 100000 in
set_option maxHeartbeats 6400000 in
theorem l92Parts_any {w : World} {b m : Nat} (h : At w b m) (hm : m ≤ 900000) :
    Calls Tryd.prog 20 #[.pointer (some ⟨b, 0, none⟩)] w fun e w' => PartsDrawn w b m e w' := by
  have hbw := h.lt
  have A0 := Lib.hid ((h.alloc (.cells #[] 3)).alloc (.cells #[] 3))
  have O0 := Lib.hid ((iblk_new (w := w) (Nat.le_refl w.heap.size)).grow ((Below.refl _ _).alloc (Nat.le_refl _) (.cells #[] 3)))
  have U0 := Lib.hid (iblk_new (B := w.heap.size) (w := w.alloc (.cells #[] 3)) (by simp))
  have K0 := Lib.hid ((Keep.alloc b w (.cells #[] 3)).trans (Keep.alloc b _ (.cells #[] 3)))
  clear h
  rw [World.size_alloc] at U0
  go_enter Tryd.func20, Tryd.ntmps20
  go_wp2_with fail
  refine (pick_at 3 A0.out (by omega)).mono ?_
  rintro e w2 ⟨r, rfl, p2, q2, _, a2, k2⟩
  replace q2 := q2 (by decide)
  obtain ⟨n, hn⟩ : ∃ n : Nat, 1 + r = n := ⟨(1 + r).toNat, by omega⟩
  have s2 : IntKind.i64.wrap (1 + r) = (n : Int) := by rw [hn]; exact IntWalk.i64_in _ (by omega)
  have n5 : 1 ≤ n ∧ n ≤ 3 := by omega
  have A2 := Lib.hid a2; have K2 := Lib.hid (K0.out.trans k2); have O2 := Lib.hid (O0.out.keep k2 hbw); have U2 := Lib.hid (U0.out.keep k2 hbw)
  have X2 : Hid (Apt (.slice (some ⟨w.heap.size, 0, none⟩) 0 0) (.slice (some ⟨w.heap.size + 1, 0, none⟩) 0 0)) := Lib.hid (fun k h1 h2 => by
    simp [Value.ownBlock] at h1 h2; omega)
  clear a2 k2 A0 K0 O0 U0 hn q2 p2
  go_wp2_with fail
  go_loopg [4, 5, 7] n (fun k x y i wr => ∃ (j : Nat) (L M : List Int), i = .int .i64 j ∧ j + k = n ∧ L.length = j ∧ M.length = j ∧ Lay7 L ∧ Lay7 M ∧ IBlk wr w.heap.size x L ∧ IBlk wr w.heap.size y M ∧ Apt x y ∧ At wr b (m + 1 + 2 * j) ∧ Keep b w wr)
  case atStart => exact ⟨0, [], [], rfl, by omega, rfl, rfl, fun x hx => by simp at hx, fun x hx => by simp at hx, O2.out, U2.out, X2.out, A2.out.mono (by omega), K2.out⟩
  case round =>
    obtain ⟨j, L, M, rfl, hk, hl, hl2, bl, bm, ho, hu, hx, hat, hke⟩ := hrel
    have K := Lib.hid hk; have HL := Lib.hid hl; have HM := Lib.hid hl2; have BL := Lib.hid bl; have BM := Lib.hid bm; have O := Lib.hid ho; have U := Lib.hid hu; have X := Lib.hid hx; have A := Lib.hid hat; have Kp := Lib.hid hke
    have hjn : j ≤ n := by omega
    have l12 : L.length ≤ 3 := by omega
    have m12 : M.length ≤ 3 := by omega
    clear hk hl hl2 bl bm ho hu hx hat hke O2 U2 X2 A2 K2
    by_cases hlt : (j : Int) < (n : Int)
    · have hj4 : j ≤ 2 := by omega
      go_wp2_with fail
      refine (pick_at 4 A.out (by omega)).mono ?_
      rintro e w3 ⟨q3, rfl, p_q3, r_q3, _, a_q3, k_q3⟩
      replace r_q3 := r_q3 (by decide)
      have A3 := Lib.hid a_q3; have K3 := Lib.hid (Kp.out.trans k_q3); have O3 := Lib.hid (O.out.keep k_q3 hbw); have U3 := Lib.hid (U.out.keep k_q3 hbw)
      clear a_q3 k_q3 A Kp O U
      have z5 := K3.out.size
      have n1 := new_one w3 (.int .i64 q3) 3
      have N1 := Lib.hid n1
      have BW := Lib.hid ((Below.refl w3.heap.size w3).alloc (Nat.le_refl _) (.cells #[.int .i64 q3] 3))
      clear n1
      go_wp2_with (at_builtin; refine iappend_blk inTo rfl _ _ rfl (B := w.heap.size) _ L rfl (O3.out.grow BW.out) ⟨w3.heap.size, 0, none⟩ q3 rfl N1.out (by omega) (by simp; omega) ?_; intro v5 w5 o9 g9 h9; have O5 := Lib.hid o9; have UB := Lib.hid (U3.out.grow BW.out); have X5 := Lib.hid ((X.out.new (w := w3.alloc (.cells #[.int .i64 q3] 3)) (fun k hk => (UB.out.own.lt k hk).2) h9)); have U5 := Lib.hid (UB.out.stays g9 X.out.symm); have B5 := Lib.hid (BW.out.mono z5 |>.trans ((O3.out.grow BW.out).own.below g9 (by simp; omega))); clear o9 g9 h9)
      have A5 := Lib.hid (A3.out.below (B5.out.mono hbw)); have K5 := Lib.hid (K3.out.grow B5.out)
      clear O3 U3 A3 UB N1 BW
      go_wp2_with fail
      refine (pick_at 4 A5.out (by omega)).mono ?_
      rintro e w6 ⟨q6, rfl, p_q6, r_q6, _, a_q6, k_q6⟩
      replace r_q6 := r_q6 (by decide)
      have A6 := Lib.hid a_q6; have K6 := Lib.hid (K5.out.trans k_q6); have O6 := Lib.hid (O5.out.keep k_q6 hbw); have U6 := Lib.hid (U5.out.keep k_q6 hbw)
      clear a_q6 k_q6 A5 K5 O5 U5
      have z9 := K6.out.size
      have n1 := new_one w6 (.int .i64 q6) 3
      have N1 := Lib.hid n1
      have BW := Lib.hid ((Below.refl w6.heap.size w6).alloc (Nat.le_refl _) (.cells #[.int .i64 q6] 3))
      clear n1
      go_wp2_with (at_builtin; refine iappend_blk inTo rfl _ _ rfl (B := w.heap.size) _ M rfl (U6.out.grow BW.out) ⟨w6.heap.size, 0, none⟩ q6 rfl N1.out (by omega) (by simp; omega) ?_; intro v9 w9 o9 g9 h9; have U9 := Lib.hid o9; have UB := Lib.hid (O6.out.grow BW.out); have X9 := Lib.hid ((X5.out.symm.new (w := w6.alloc (.cells #[.int .i64 q6] 3)) (fun k hk => (UB.out.own.lt k hk).2) h9).symm); have O9 := Lib.hid (UB.out.stays g9 X5.out); have B9 := Lib.hid (BW.out.mono z9 |>.trans ((U6.out.grow BW.out).own.below g9 (by simp; omega))); clear o9 g9 h9)
      have A9 := Lib.hid (A6.out.below (B9.out.mono hbw)); have K9 := Lib.hid (K6.out.grow B9.out)
      clear U6 O6 A6 UB N1 BW
      have t6 : IntKind.i64.wrap ((j : Int) + 1) = (j : Int) + 1 := IntWalk.i64_in _ (by omega)
      have BL2 := Lib.hid (BL.out.snoc (x := q3) (by omega) (by omega)); have BM2 := Lib.hid (BM.out.snoc (x := q6) (by omega) (by omega))
      have HL2 : Hid ((L ++ [q3]).length = j + 1) := Lib.hid (by have := HL.out; simp; omega)
      have HM2 : Hid ((M ++ [q6]).length = j + 1) := Lib.hid (by have := HM.out; simp; omega)
      go_wp2_with fail
      go_roundg (gk - 1)
      case measure => have := K.out; omega
      case rel => exact ⟨j + 1, _, _, by go_num, by have := K.out; omega, HL2.out, HM2.out, BL2.out, BM2.out, O9.out, U9.out, X9.out, A9.out.mono (by omega), K9.out⟩
    · have hjn2 : j = n := by omega
      subst hjn2
      have ll : 1 ≤ L.length := by have := HL.out; omega
      have lm : 1 ≤ M.length := by have := HM.out; omega
      go_wp2_with fail
      refine (pick_at 40 A.out (by omega)).mono ?_
      rintro e w3 ⟨q, rfl, p_q, r_q, _, a_q, k_q⟩
      replace r_q := r_q (by decide)
      have A3 := Lib.hid a_q; have K3 := Lib.hid (Kp.out.trans k_q); have O3 := Lib.hid (O.out.keep k_q hbw); have U3 := Lib.hid (U.out.keep k_q hbw)
      clear a_q k_q A Kp O U
      by_cases e0 : q = 0
      · subst e0
        have I3 := Lib.hid ((Below.refl w3.heap.size w3).alloc (Nat.le_refl _) (.cells #[.int .i64 (-1), .int .i64 7, .int .i64 6] 3))
        have z3 := K3.out.size
        have A4 := Lib.hid (A3.out.alloc (.cells #[.int .i64 (-1), .int .i64 7, .int .i64 6] 3)); have K4 := Lib.hid (K3.out.grow (I3.out.mono z3)); have O4 := Lib.hid (O3.out.grow I3.out); have U4 := Lib.hid (U3.out.grow I3.out)
        have c0 : (w3.alloc (.cells #[.int .i64 (-1), .int .i64 7, .int .i64 6] 3)).cell? ⟨w3.heap.size, 0, none⟩ = some (.int .i64 (-1)) := by rw [World.cell?_alloc_new]; rfl
        have c1 : (w3.alloc (.cells #[.int .i64 (-1), .int .i64 7, .int .i64 6] 3)).cell? ⟨w3.heap.size, 1, none⟩ = some (.int .i64 7) := by rw [World.cell?_alloc_new]; rfl
        have c2 : (w3.alloc (.cells #[.int .i64 (-1), .int .i64 7, .int .i64 6] 3)).cell? ⟨w3.heap.size, 2, none⟩ = some (.int .i64 6) := by rw [World.cell?_alloc_new]; rfl
        have C0 := Lib.hid c0; have C1 := Lib.hid c1; have C2 := Lib.hid c2
        have lt3 : w3.heap.size < (w3.alloc (.cells #[.int .i64 (-1), .int .i64 7, .int .i64 6] 3)).heap.size := by simp
        have hb3 : b ≠ w3.heap.size := by omega
        clear c0 c1 c2 A3 K3 O3 U3
        go_wp2_with fail
        refine (pick_at 3 A4.out (by omega)).mono ?_
        rintro e w5 ⟨q2, rfl, p_2, r_2, _, a_2, k_2⟩
        replace r_2 := r_2 (by decide)
        have A5 := Lib.hid a_2; have K5 := Lib.hid (K4.out.trans k_2); have O5 := Lib.hid (O4.out.keep k_2 hbw); have U5 := Lib.hid (U4.out.keep k_2 hbw)
        have c0 : w5.cell? ⟨w3.heap.size, 0, none⟩ = some (.int .i64 (-1)) := (World.cell?_of_block (k_2.block _ lt3 (Ne.symm hb3))).trans C0.out
        have c1 : w5.cell? ⟨w3.heap.size, 1, none⟩ = some (.int .i64 7) := (World.cell?_of_block (k_2.block _ lt3 (Ne.symm hb3))).trans C1.out
        have c2 : w5.cell? ⟨w3.heap.size, 2, none⟩ = some (.int .i64 6) := (World.cell?_of_block (k_2.block _ lt3 (Ne.symm hb3))).trans C2.out
        obtain ⟨g, cp, e9, v1, v2, v3, v4, hp⟩ := O5.out.own.at ll
        unfold maxLen at v2
        subst e9
        have P := hp 0 ll
        have f0 := P.froz; have d0 := P.cell
        have put : ∀ x : Int, -1 ≤ x → x ≤ 7 → IBlk (w5.setCell ⟨g, 0, none⟩ (.int .i64 x)) w.heap.size (.slice (some ⟨g, 0, none⟩) L.length cp) (L.set 0 x) ∧ IBlk (w5.setCell ⟨g, 0, none⟩ (.int .i64 x)) w.heap.size u5 M ∧ Lay7 (L.set 0 x) ∧ At (w5.setCell ⟨g, 0, none⟩ (.int .i64 x)) b (m + 10) ∧ Keep b w (w5.setCell ⟨g, 0, none⟩ (.int .i64 x)) := fun x hx1 hx2 => by
          refine ⟨⟨P.set x, g, rfl⟩, ⟨U5.out.own.same fun k hk => Below.heap_setCell _ ⟨g, 0, none⟩ _ k (fun e2 => X.out g rfl (by have h9 : k = g := e2; rw [← h9]; exact hk)), U5.out.blk⟩, fun y hy => ?_, ?_, ?_⟩
          · rcases List.mem_or_eq_of_mem_set hy with k | rfl
            · exact BL.out y k
            · exact ⟨hx1, hx2⟩
          · exact (A5.out.below (((Below.refl w.heap.size w5).setCell (p := ⟨g, 0, none⟩) v3 _).mono hbw)).mono (by omega)
          · exact K5.out.grow ((Below.refl w.heap.size w5).setCell (p := ⟨g, 0, none⟩) v3 _)
        have PUT := Lib.hid put
        have ls : ∀ x, (L.set 0 x).length = L.length := fun x => List.length_set
        have LS := Lib.hid ls
        clear put P hp a_2 k_2 A4 K4 O4 U4 C0 C1 C2 ls
        have i0 : (0 : Int) < (L.length : Int) := by omega
        rcases (show q2 = 0 ∨ q2 = 1 ∨ q2 = 2 by omega) with rfl | rfl | rfl
        · go_wp2_with fail
          go_ret2
          exact ⟨_, _, _, M, rfl, (PUT.out (-1) (by omega) (by omega)).1, (PUT.out (-1) (by omega) (by omega)).2.1, X.out, by rw [LS.out]; exact ll, by rw [LS.out]; exact l12, lm, by omega, (PUT.out (-1) (by omega) (by omega)).2.2.1, BM.out, (PUT.out (-1) (by omega) (by omega)).2.2.2.1, (PUT.out (-1) (by omega) (by omega)).2.2.2.2⟩
        · go_wp2_with fail
          go_ret2
          exact ⟨_, _, _, M, rfl, (PUT.out 7 (by omega) (by omega)).1, (PUT.out 7 (by omega) (by omega)).2.1, X.out, by rw [LS.out]; exact ll, by rw [LS.out]; exact l12, lm, by omega, (PUT.out 7 (by omega) (by omega)).2.2.1, BM.out, (PUT.out 7 (by omega) (by omega)).2.2.2.1, (PUT.out 7 (by omega) (by omega)).2.2.2.2⟩
        · go_wp2_with fail
          go_ret2
          exact ⟨_, _, _, M, rfl, (PUT.out 6 (by omega) (by omega)).1, (PUT.out 6 (by omega) (by omega)).2.1, X.out, by rw [LS.out]; exact ll, by rw [LS.out]; exact l12, lm, by omega, (PUT.out 6 (by omega) (by omega)).2.2.1, BM.out, (PUT.out 6 (by omega) (by omega)).2.2.2.1, (PUT.out 6 (by omega) (by omega)).2.2.2.2⟩
      have e0' : (q == 0) = false := by simpa using e0
      by_cases e1 : q = 1
      · subst e1
        have z9 := K3.out.size
        have n1 := new_one w3 (.int .i64 1) 3
        have N1 := Lib.hid n1
        have BW := Lib.hid ((Below.refl w3.heap.size w3).alloc (Nat.le_refl _) (.cells #[.int .i64 1] 3))
        clear n1
        go_wp2_with (at_builtin; refine iappend_blk inTo rfl _ _ rfl (B := w.heap.size) _ M rfl (U3.out.grow BW.out) ⟨w3.heap.size, 0, none⟩ 1 rfl N1.out (by omega) (by simp; omega) ?_; intro v9 w9 o9 g9 h9; have U9 := Lib.hid o9; have UB := Lib.hid (O3.out.grow BW.out); have X9 := Lib.hid ((X.out.symm.new (w := w3.alloc (.cells #[.int .i64 1] 3)) (fun k hk => (UB.out.own.lt k hk).2) h9).symm); have O9 := Lib.hid (UB.out.stays g9 X.out); have B9 := Lib.hid (BW.out.mono z9 |>.trans ((U3.out.grow BW.out).own.below g9 (by simp; omega))); clear o9 g9 h9)
        have A9 := Lib.hid (A3.out.below (B9.out.mono hbw)); have K9 := Lib.hid (K3.out.grow B9.out)
        have BM2 := Lib.hid (BM.out.snoc (x := 1) (by omega) (by omega))
        go_wp2_with fail
        go_ret2
        exact ⟨_, _, L, _, rfl, O9.out, U9.out, X9.out, ll, l12, by simp, by simp; omega, BL.out, BM2.out, A9.out.mono (by omega), K9.out⟩
      · have e1' : (q == 1) = false := by simpa using e1
        go_wp2_with fail
        go_ret2
        exact ⟨_, _, L, M, rfl, O3.out, U3.out, X.out, ll, l12, lm, by omega, BL.out, BM.out, A3.out.mono (by omega), K3.out⟩
end Go.Proofs.YtcemgdekcfdfhaaDoor
