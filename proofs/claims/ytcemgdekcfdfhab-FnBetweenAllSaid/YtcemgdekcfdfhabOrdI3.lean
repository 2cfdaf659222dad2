/- The program's OrderBetween. -/
import Derived.Test.YtcemgdekcfdfhabOrdI2
import Derived.Test.YtcemgdekcfdfhabOrdFind
namespace Go.Proofs.Ytcemgdekcfdfhab
open Go.RowKit

set_option maxRecDepth 100000 in
set_option maxHeartbeats 3200000 in
theorem betI_any {w : World} {g : Nat} (h : Tab w g) (A B X Y : Nat) (ha : A < 7) (hb : B < 7) (hx : X < A) (hy : Y < B) :
    Calls Try.prog 29 #[.pointer (some ⟨g, 0, none⟩), .agg #[.int .i64 A, .int .i64 B], .int .i64 X, .int .i64 Y] w fun e w' => e = .returned (.int .i64 (bet A B X Y : Nat)) ∧ Below w.heap.size w w' := by
  obtain ⟨n1, n2, nb⟩ := new_pt w A B
  have NB := Lib.hid nb; have N1 := Lib.hid n1; have N2 := Lib.hid n2
  have T := Lib.hid (h.grow nb)
  have SE := Lib.hid (betS_bet A B X Y)
  have bl := bet_less (a := A) (b := B) (x := X) (y := Y) (by omega) (by omega) (by omega) (by omega)
  have m9 := ch_most A (by omega) B (by omega)
  have s1 : IntKind.i64.wrap ((Y : Int) + 1) = (Y : Int) + 1 := IntWalk.i64_in _ (by omega)
  obtain ⟨wb, hwb⟩ : ∃ z, w.alloc (.cells #[.int .i64 (A : Int), .int .i64 (B : Int)] 51) = z := ⟨_, rfl⟩
  rw [hwb] at NB N1 N2 T
  clear n1 n2 nb h
  go_enter Try.func29, Try.ntmps29
  go_wp2_with fail
  clear hwb
  go_loopg [9, 13] (Y + 1) (fun k x y wr => ∃ j : Nat, y = .int .i64 j ∧ j + k = Y + 1 ∧ x = .int .i64 (betS A B X j : Nat) ∧ Below w.heap.size w wr ∧ Below wb.heap.size wb wr)
  case atStart => exact ⟨0, rfl, by omega, rfl, NB.out, Below.refl _ _⟩
  case round =>
    obtain ⟨j, rfl, hk, rfl, hb, hb2⟩ := hrel
    have K := Lib.hid hk; have BB := Lib.hid hb; have BC := Lib.hid hb2
    have hjl : j ≤ Y + 1 := by omega
    clear hk hb hb2
    by_cases hlt : j < Y + 1
    · have y1 := (BC.out.cell (cell_below N1.out)).trans N1.out
      have y2 := (BC.out.cell (cell_below N2.out)).trans N2.out
      obtain ⟨P, hP⟩ : ∃ P, A - 1 - X = P := ⟨_, rfl⟩
      obtain ⟨Q, hQ⟩ : ∃ Q, B - j = Q := ⟨_, rfl⟩
      have z1 := (T.out.grow BC.out).cell X j (by omega) (by omega)
      have z2 := (T.out.grow BC.out).cell P Q (by omega) (by omega)
      have st : betS A B X (j + 1) = betS A B X j + ch X j * ch P Q := by rw [← hP, ← hQ]; rfl
      have s2 := betS_le A B X (n := j + 1) (m := Y + 1) (by omega)
      rw [SE.out] at s2
      obtain ⟨u1, hu1⟩ : ∃ c, ch X j = c := ⟨_, rfl⟩
      obtain ⟨u2, hu2⟩ : ∃ c, ch P Q = c := ⟨_, rfl⟩
      obtain ⟨sj, hsj⟩ : ∃ c, betS A B X j = c := ⟨_, rfl⟩
      obtain ⟨sk, hsk⟩ : ∃ c, betS A B X (j + 1) = c := ⟨_, rfl⟩
      rw [hsk, hsj, hu1, hu2] at st
      rw [hsk] at s2
      rw [hsj]
      rw [hu1] at z1
      rw [hu2] at z2
      have SK := Lib.hid hsk
      obtain ⟨pr, hpr⟩ : ∃ c, u1 * u2 = c := ⟨_, rfl⟩
      rw [hpr] at st
      have t1 : IntKind.i64.wrap ((A : Int) - 1) = (A : Int) - 1 := IntWalk.i64_in _ (by omega)
      have t2 : IntKind.i64.wrap ((A : Int) - 1 - (X : Int)) = (P : Int) := by rw [show (A : Int) - 1 - (X : Int) = (P : Int) by omega]; exact IntWalk.i64_in _ (by omega)
      have t3 : IntKind.i64.wrap ((B : Int) - (j : Int)) = (Q : Int) := by rw [show (B : Int) - (j : Int) = (Q : Int) by omega]; exact IntWalk.i64_in _ (by omega)
      have t4 : IntKind.i64.wrap ((u1 : Int) * (u2 : Int)) = (pr : Int) := by rw [← Int.natCast_mul, hpr]; exact IntWalk.i64_in _ (by omega)
      have t5 : IntKind.i64.wrap ((sj : Int) + (pr : Int)) = (sk : Int) := by rw [st]; push_cast; exact IntWalk.i64_in _ (by omega)
      have x7 : (X : Int) < 7 := by omega
      have j7 : (j : Int) < 7 := by omega
      have P7 : (P : Int) < 7 := by omega
      have Q7 : (Q : Int) < 7 := by omega
      have jl : (j : Int) < (Y : Int) + 1 := by omega
      clear hu1 hu2 hsj hsk hpr st hP hQ
      go_wp2_with fail
      go_quiet (fail)
      go_wp2_with fail
      go_roundg (gk - 1)
      case measure => have := K.out; omega
      case rel => exact ⟨j + 1, by go_num, by have := K.out; omega, by rw [SK.out], below_drews BB.out _, below_drews BC.out _⟩
    · obtain rfl : j = Y + 1 := by omega
      have jl : decide (((Y + 1 : Nat) : Int) < (Y : Int) + 1) = false := by simp
      rw [SE.out]
      go_wp2_with fail
      go_ret
      exact ⟨rfl, BB.out⟩
theorem betI_is {w : World} {g : Nat} (h : Tab w g) {x y : Int} {A B X Y n : Nat} (ex : x = (A : Int)) (ey : y = (B : Int)) (ha : A < 7) (hb : B < 7) (hx : X < A) (hy : Y < B) (hn : bet A B X Y = n) :
    Calls Try.prog 29 #[.pointer (some ⟨g, 0, none⟩), .agg #[.int .i64 x, .int .i64 y], .int .i64 X, .int .i64 Y] w fun e w' => e = .returned (.int .i64 n) ∧ Below w.heap.size w w' := by
  subst ex ey hn; exact betI_any h A B X Y ha hb hx hy
set_option maxRecDepth 100000 in
set_option maxHeartbeats 3200000 in
theorem betweenI_any {w : World} {v u : Value} {a b : List Int} {i k : Int} (h : IRow w v a) (h' : IRow w u b) (hi : -9223372036854775808 ≤ i ∧ i ≤ 9223372036854775807) (hk : -9223372036854775808 ≤ k ∧ k ≤ 9223372036854775807) :
    Calls Try.prog 11 #[v, u, .int .i64 i, .int .i64 k] w fun e w' => Val w (.int .i64 (betweenOf a b i k)) e w' := by
  obtain ⟨pa, ca, rfl, h1, h2⟩ := h.len
  obtain ⟨pb, cb, rfl, k1, k2⟩ := h'.len
  have H := Lib.hid h; have H' := Lib.hid h'
  unfold maxLen at h2 k2
  clear h h'
  cases hp : isPar a b
  · have HP := Lib.hid hp
    have R : Hid (betweenOf a b i k = -1) := Lib.hid (by unfold betweenOf; rw [hp]; rfl)
    clear hp
    go_enter Try.func11, Try.ntmps11
    go_wp2_with fail
    refine (partsI_no H.out H'.out HP.out).mono ?_
    rintro e w1 ⟨rfl, b1⟩
    go_wp2_with fail
    go_ret
    exact ⟨by rw [R.out]; rfl, b1⟩
  have HP := Lib.hid hp
  have W := Lib.hid (isPar_iff.1 hp)
  have OK := Lib.hid (okL_zip W.out)
  have CN : Hid (cnt (pts (a.zip b)) = cnt (par a b)) := Lib.hid (by rw [pts_zip])
  clear hp
  have most := W.out.most
  obtain ⟨o1, e1⟩ : ∃ o, findI a i = o := ⟨_, rfl⟩
  obtain ⟨o2, e2⟩ : ∃ o, findI b k = o := ⟨_, rfl⟩
  have E1 := Lib.hid e1; have E2 := Lib.hid e2
  clear e1 e2
  go_enter Try.func11, Try.ntmps11
  go_wp2_with fail
  refine (partsI_yes H.out H'.out HP.out).mono ?_
  rintro e w1 ⟨xv, rfl, r1, b1⟩
  have B1 := Lib.hid b1; have R1 := Lib.hid r1
  clear b1 r1
  go_wp2_with fail
  refine (place_is (H.out.grow B1.out) W.out.a6 hi E1.out).mono ?_
  rintro e w2 ⟨rfl, b2⟩
  have B2 := Lib.hid (B1.out.trans (b2.mono B1.out.size))
  have R2 := Lib.hid (R1.out.grow b2)
  clear b2 R1 B1
  cases o1 with
  | none =>
    simp only [plcV]
    have R : Hid (betweenOf a b i k = -1) := Lib.hid (between_a k W.out E1.out)
    go_wp2_with fail
    refine (place_is (H'.out.grow B2.out) W.out.b6 hk E2.out).mono ?_
    rintro e w3 ⟨rfl, b3⟩
    have B3 := Lib.hid (B2.out.trans (b3.mono B2.out.size))
    clear b3
    rcases o2 with _ | ⟨q, y⟩
    all_goals
      simp only [plcV]
      go_wp2_with fail
      go_ret
      exact ⟨by rw [R.out]; rfl, B3.out⟩
  | some px =>
    obtain ⟨p, x⟩ := px
    simp only [plcV]
    go_wp2_with fail
    refine (place_is (H'.out.grow B2.out) W.out.b6 hk E2.out).mono ?_
    rintro e w3 ⟨rfl, b3⟩
    have B3 := Lib.hid (B2.out.trans (b3.mono B2.out.size))
    have R3 := Lib.hid (R2.out.grow b3)
    clear b3 R2 B2
    cases o2 with
    | none =>
      simp only [plcV]
      have R : Hid (betweenOf a b i k = -1) := Lib.hid (between_b i W.out E2.out)
      go_wp2_with fail
      go_ret
      exact ⟨by rw [R.out]; rfl, B3.out⟩
    | some qy =>
      obtain ⟨q, y⟩ := qy
      simp only [plcV]
      have AT := Lib.hid (between_at W.out E1.out E2.out)
      have cm := cnt_four W.out.small (by rw [par_length a b W.out.len]; exact W.out.most)
      go_wp2_with fail
      refine (countOrders_any _).mono ?_
      rintro e w4 ⟨g, rfl, _, t4, b4⟩
      have B4 := Lib.hid (B3.out.trans (b4.mono B3.out.size))
      have R4 := Lib.hid (R3.out.grow b4)
      have T4 := Lib.hid t4
      clear b4 t4 R3 B3
      obtain ⟨all, hall⟩ : ∃ c, cnt (par a b) = c := ⟨_, rfl⟩
      rw [hall] at CN cm
      go_wp2_with fail
      refine (ofAll_is T4.out R4.out OK.out CN.out).mono ?_
      rintro e w5 ⟨rfl, b5⟩
      have B5 := Lib.hid (B4.out.trans (b5.mono B4.out.size))
      have R5 := Lib.hid (R4.out.grow b5)
      have T5 := Lib.hid (T4.out.grow b5)
      clear b5 R4 B4 T4
      obtain ⟨bo, hbo⟩ : ∃ c, betOf (par a b) i.toNat k.toNat = c := ⟨_, rfl⟩
      have AT2 := AT.out
      rw [hall, hbo] at AT2
      obtain ⟨r0, r1, r2, r3⟩ := AT2
      have R := Lib.hid r0
      clear hall hbo AT E1 E2 r0
      by_cases pq : p = q
      · obtain ⟨hpa, hpb, c, c1, f1, f2, xl, yl, x0, y0⟩ := r3 pq
        clear r1 r2 r3
        subst pq
        have ZL : (a.zip b).length = a.length := by have := W.out.len; simp; omega
        obtain ⟨gv, ov, cv, e1, _, _⟩ := R5.out.known (by omega)
        rw [ZL] at e1
        subst e1
        obtain ⟨d1, d2⟩ := R5.out.cells p (by omega)
        rw [zip_get a b p (by omega) hpa hpb] at d1 d2
        have a6 := W.out.a6 p hpa; have b6 := W.out.b6 p hpb
        obtain ⟨A, hA⟩ : ∃ A : Nat, a[p] = A := ⟨a[p].toNat, by omega⟩
        obtain ⟨B, hB⟩ : ∃ B : Nat, b[p] = B := ⟨b[p].toNat, by omega⟩
        obtain ⟨X, rfl⟩ := Int.eq_ofNat_of_zero_le x0
        obtain ⟨Y, rfl⟩ := Int.eq_ofNat_of_zero_le y0
        rw [hA] at d1 a6 f1 f2 xl
        rw [hB] at d2 b6 f1 f2 yl
        simp only [Int.toNat_natCast] at f1 f2
        have m9 := ch_most A (by omega) B (by omega)
        have bl := bet_less (a := A) (b := B) (x := X) (y := Y) (by omega) (by omega) (by omega) (by omega)
        have cp := ch_pos A B
        obtain ⟨cab, hcab⟩ : ∃ c, ch A B = c := ⟨_, rfl⟩
        obtain ⟨bxy, hbxy⟩ : ∃ c, bet A B X Y = c := ⟨_, rfl⟩
        rw [hcab] at f1 m9 bl cp
        rw [hbxy] at f2 bl
        have CAB : Hid (ch ((A : Int)).toNat ((B : Int)).toNat = cab) := Lib.hid (by simpa using hcab)
        have BXY := Lib.hid hbxy
        have lb : bo ≤ all := by rw [f1, f2]; exact Nat.mul_le_mul_right c (by omega)
        have dv : ((all : Int)).tdiv (cab : Int) = (c : Int) := by rw [f1]; push_cast; exact Int.mul_tdiv_cancel_left _ (by omega)
        have lc : c ≤ all := by rw [f1]; exact Nat.le_mul_of_pos_left c cp
        have wc : IntKind.i64.wrap (c : Int) = c := IntWalk.i64_in _ (by omega)
        have wm : IntKind.i64.wrap ((c : Int) * (bxy : Int)) = (bo : Int) := by
          rw [← Int.natCast_mul, Nat.mul_comm, ← f2]; exact IntWalk.i64_in _ (by omega)
        have i0 : (0 : Int) ≤ (p : Int) := by omega
        have i1 : (p : Int) < (a.length : Int) := by omega
        have c0 : ¬ cab = 0 := by omega
        have n1 : decide ((p : Int) < (p : Int)) = false := by simp
        have RX : Hid ((A < 7 ∧ B < 7) ∧ X < A ∧ Y < B) := Lib.hid (by omega)
        clear hA hB f1 f2 hcab hbxy x0 y0 xl yl
        go_wp2_with fail
        obtain ⟨n1', n2', nb⟩ := new_pt w5 A B
        have c1' := n1'; have c2' := n2'
        have B6 := Lib.hid (B5.out.trans (nb.mono B5.out.size))
        have T6 := Lib.hid (T5.out.grow nb)
        obtain ⟨w6, hw6⟩ : ∃ z, w5.alloc (.cells #[.int .i64 (A : Int), .int .i64 (B : Int)] 51) = z := ⟨_, rfl⟩
        rw [hw6] at c1' c2' B6 T6 ⊢
        clear hw6 n1' n2' nb d1 d2 n1
        have mkS : ∀ w' : World, Below w6.heap.size w6 w' → (Below w6.heap.size w6 w' ∧ w'.cell? ⟨w5.heap.size, 0, none⟩ = some (.int .i64 (A : Int)) ∧ w'.cell? ⟨w5.heap.size, 1, none⟩ = some (.int .i64 (B : Int))) := fun w' b => ⟨b, (b.cell (cell_below c1')).trans c1', (b.cell (cell_below c2')).trans c2'⟩
        refine wp_region_held_drew (S := (fun w' => (Below w6.heap.size w6 w' ∧ w'.cell? ⟨w5.heap.size, 0, none⟩ = some (.int .i64 (A : Int)) ∧ w'.cell? ⟨w5.heap.size, 1, none⟩ = some (.int .i64 (B : Int))))) (by kernel_rfl) (by exact mkS _ (Below.refl _ _).drew) (fun hHeld => ?_)
        refine take_h 0 65 rfl rfl (by kernel_rfl) (by kernel_rfl) (by kernel_rfl) (fun _ _ _ h => h) (by kernel_rfl) (by intro w hSw; (try dsimp only at hSw); go_simp; try with_reducible rfl) (by assumption) ?_
        refine take_h 1 66 rfl rfl (by kernel_rfl) (by kernel_rfl) (by kernel_rfl) (fun _ _ _ h => h) (by kernel_rfl) (by intro w hSw; (try dsimp only at hSw); go_simp; try with_reducible rfl) (by assumption) ?_
        refine take_h 2 67 rfl rfl (by kernel_rfl) (by kernel_rfl) (by kernel_rfl) (fun _ _ _ h => h) (by kernel_rfl) (by intro w hSw; (try dsimp only at hSw); go_simp; try with_reducible rfl) (by assumption) ?_
        refine take_h 5 70 rfl rfl (by kernel_rfl) (by kernel_rfl) (by kernel_rfl) (fun _ _ _ h => h) (by kernel_rfl) (by intro w hSw; (try dsimp only at hSw); go_simp; try with_reducible rfl) (by assumption) ?_
        refine take_h 6 71 rfl rfl (by kernel_rfl) (by kernel_rfl) (by kernel_rfl) (fun _ _ _ h => h) (by kernel_rfl) (by intro w hSw; (try dsimp only at hSw); go_simp; try with_reducible rfl) (by assumption) ?_
        refine take_h 7 72 rfl rfl (by kernel_rfl) (by kernel_rfl) (by kernel_rfl) (fun _ _ _ h => h) (by kernel_rfl) (by intro w hSw; (try dsimp only at hSw); go_simp; try with_reducible rfl) (by assumption) ?_
        refine take_h 8 73 rfl rfl (by kernel_rfl) (by kernel_rfl) (by kernel_rfl) (fun _ _ _ h => h) (by kernel_rfl) (by intro w hSw; (try dsimp only at hSw); go_simp; try with_reducible rfl) (by assumption) ?_
        refine wpAnyH_ready (rs := [3]) (by kernel_rfl) (by simp) (AllReadyH.cons rfl (fun K hK => ?_) AllReadyH.nil)
        go_simp
        go_wp2_with ((go_at_call 28; refine (of_is (T6.out.grow hHeld.1) a6 b6 CAB.out).mono ?_; rintro e w8 ⟨rfl, b8⟩; have b8' := Below.trans hHeld.1 (b8.mono hHeld.1.size)))
        refine hK.out _ _ (by (try dsimp only); exact mkS _ b8') (fun hHeld => ?_)
        clear hK K
        refine take_h 4 69 rfl rfl (by kernel_rfl) (by kernel_rfl) (by kernel_rfl) (fun _ _ _ h => h) (by kernel_rfl) (by intro w hSw; (try dsimp only at hSw); go_simp; try with_reducible rfl) (by assumption) ?_
        refine wpAnyH_ready (rs := [9]) (by kernel_rfl) (by simp) (AllReadyH.cons rfl (fun K hK => ?_) AllReadyH.nil)
        go_simp
        go_wp2_with ((go_at_call 29; refine (betI_is (T6.out.grow hHeld.1) rfl rfl RX.out.1.1 RX.out.1.2 RX.out.2.1 RX.out.2.2 BXY.out).mono ?_; rintro e w9 ⟨rfl, b9⟩; have b9' := Below.trans hHeld.1 (b9.mono hHeld.1.size)))
        refine hK.out _ _ (by (try dsimp only); exact mkS _ b9') (fun hHeld => ?_)
        clear hK K
        refine take_h 10 75 rfl rfl (by kernel_rfl) (by kernel_rfl) (by kernel_rfl) (fun _ _ _ h => h) (by kernel_rfl) (by intro w hSw; (try dsimp only at hSw); go_simp; try with_reducible rfl) (by assumption) ?_
        refine take_h 11 8 rfl rfl (by kernel_rfl) (by kernel_rfl) (by kernel_rfl) (fun _ _ _ h => h) (by kernel_rfl) (by intro w hSw; (try dsimp only at hSw); go_simp; try with_reducible rfl) (by assumption) ?_
        refine wpAnyH_done (by kernel_rfl) ?_ _
        simp only [Exit.then]
        simp only [Act.put, List.setIfInBounds_toArray, List.set_cons_succ, List.set_cons_zero]
        go_wp2_with fail
        go_ret
        exact ⟨by rw [R.out]; rfl, B6.out.trans (hHeld.1.mono B6.out.size)⟩
      · have n0 : ((p : Int) == (q : Int)) = false := by simp; omega
        by_cases lt : p < q
        · have RR : Hid (betweenOf a b i k = all) := Lib.hid (by rw [R.out, r1 lt])
          have n1 : decide ((p : Int) < (q : Int)) = true := by simp; omega
          clear r1 r2 r3
          go_wp2_with fail
          go_ret
          exact ⟨by rw [RR.out]; rfl, B5.out⟩
        · have RR : Hid (betweenOf a b i k = 0) := Lib.hid (by rw [R.out, r2 (by omega)]; rfl)
          have n1 : decide ((p : Int) < (q : Int)) = false := by simp; omega
          have n2 : decide ((q : Int) < (p : Int)) = true := by simp; omega
          clear r1 r2 r3
          go_wp2_with fail
          go_ret
          exact ⟨by rw [RR.out]; rfl, B5.out⟩
end Go.Proofs.Ytcemgdekcfdfhab
