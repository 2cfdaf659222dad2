/- The contracts of the program's functions on windows: what is valid, which ages fit, tight windows, the least and the greatest ages, how wide. -/
import Derived.Test.YtanfalkpmmkklaaDoorWinT
import Derived.Test.YtanfalkpmmkklaaDoorWinSpec3
namespace Go.Proofs.YtanfalkpmmkklaaDoor
open Go.RowKit

theorem isWin_cat {l s : List Pc} (h : l.length ≤ 12) (hs : s.length + 1 = l.length) : isWin l s = (l ++ s).all okW := by
  unfold isWin
  rw [decide_eq_true (show 1 ≤ l.length by omega), decide_eq_true h, decide_eq_true hs, List.all_append]
  rfl
theorem isWin_no {l s : List Pc} (h : 12 < l.length ∨ s.length + 1 ≠ l.length) : isWin l s = false := by
  cases c : isWin l s
  · rfl
  · have w := isWin_iff.1 c
    have := w.most; have := w.len
    omega
set_option maxRecDepth 100000 in
set_option maxHeartbeats 3200000 in
theorem implWin_any {w : World} {v u : Value} {l s : List Pc} (h : Row w v l) (k : Row w u s) :
    Calls Tryd.prog 27 #[v, u] w fun e w' => Val w (.bool (isWin l s)) e w' := by
  obtain ⟨a, c, rfl, h1, h2⟩ := h.len
  obtain ⟨a', c', rfl, k1, k2⟩ := k.len
  have H := Lib.hid h; have H' := Lib.hid k
  unfold maxLen at h2 k2
  have wr1 : IntKind.i64.wrap ((l.length : Int) - 1) = (l.length : Int) - 1 := IntWalk.i64_in _ (by omega)
  clear h k
  by_cases hb : (l.length : Int) > 12
  · have R := Lib.hid (isWin_no (l := l) (s := s) (.inl (by omega)))
    go_enter Tryd.func27, Tryd.ntmps27
    go_wp2_with fail
    go_ret
    exact ⟨by rw [R.out]; rfl, Below.refl _ _⟩
  by_cases hl : (s.length : Int) = (l.length : Int) - 1
  case neg =>
    have hl2 : ((s.length : Int) != (l.length : Int) - 1) = true := by simpa using hl
    have R := Lib.hid (isWin_no (l := l) (s := s) (.inr (by omega)))
    clear hl
    go_enter Tryd.func27, Tryd.ntmps27
    go_wp2_with fail
    go_ret
    exact ⟨by rw [R.out]; rfl, Below.refl _ _⟩
  have hl2 : ((s.length : Int) != (l.length : Int) - 1) = false := by simpa using hl
  have R := Lib.hid (isWin_cat (l := l) (s := s) (by omega) (by omega))
  have hsn : s.length ≤ 12 := by omega
  have hp : 0 < l.length + s.length := by omega
  have hq : l.length + s.length ≤ 1000 := by omega
  clear hl
  obtain ⟨m, hm⟩ : ∃ m, l ++ s = m := ⟨_, rfl⟩
  have HM := Lib.hid hm
  have ml : m.length ≤ 24 := by rw [← hm, List.length_append]; omega
  clear hm
  go_enter Tryd.func27, Tryd.ntmps27
  go_wp2_with fail
  have z0 := new_two w (.slice a l.length c) (.slice a' s.length c') 23
  rw [Addr.add_lit, Addr.add_lit] at z0
  refine (concatW_any (b := w.heap.size) z0.1 z0.2 (H.out.grow ((Below.refl _ _).alloc (Nat.le_refl _) _)) (H'.out.grow ((Below.refl _ _).alloc (Nat.le_refl _) _)) hp hq).mono ?_
  rintro e w1 ⟨v, rfl, o1, b1⟩
  rw [HM.out] at o1 R
  have hb1 : Below w.heap.size w w1 := ((Below.refl _ _).alloc (Nat.le_refl _) _ : Below w.heap.size w _).trans (b1.mono (by simp))
  obtain ⟨am, cm, rfl, m1, m2, m3⟩ := o1.row.parts
  have LM := Lib.hid m3; have B1 := Lib.hid hb1
  unfold maxLen at m2
  clear o1 b1 hb1 m3 z0
  go_wp2_with fail
  go_loopg [23] m.length (fun k x wr => ∃ j : Nat, x = .int .i64 j ∧ j + k = m.length ∧ (m.take j).all okW = true ∧ Below w1.heap.size w1 wr)
  case atStart => exact ⟨0, rfl, by omega, by simp, Below.refl _ _⟩
  case round =>
    obtain ⟨j, rfl, hk, hs, hb⟩ := hrel
    have K := Lib.hid hk; have S := Lib.hid hs; have B := Lib.hid hb
    have hjl : j ≤ m.length := by omega
    clear hk hs hb
    by_cases hlt : j < m.length
    · obtain ⟨g, o, rfl, d1, d2⟩ := lies_cell LM.out j hlt
      have e1 := (B.out.cell (cell_below d1)).trans d1
      have e2 := (B.out.cell (cell_below d2)).trans d2
      have i0 : (0 : Int) ≤ (j : Int) := by omega
      have i1 : (j : Int) < (m.length : Int) := by omega
      clear d1 d2
      cases hx : okW m[j]
      · have D := Lib.hid hx
        have R2 := Lib.hid (not_all hlt hx)
        clear hx
        go_wp2_with fail
        refine (windowValid_is D.out _).mono ?_
        rintro e w2 ⟨rfl, b2⟩
        have B2 := Lib.hid (Below.trans (by go_grown) (b2.mono (by go_size)) : Below wr.heap.size wr w2)
        have zz := B1.out.size; have zb := B.out.size
        clear b2
        go_wp2_with fail
        go_ret
        exact ⟨by rw [R.out, R2.out]; rfl, B1.out.trans ((B.out.trans (B2.out.mono zb)).mono zz)⟩
      · have D := Lib.hid hx
        have S2 := Lib.hid (take_all hlt S.out hx)
        clear hx
        go_wp2_with fail
        refine (windowValid_is D.out _).mono ?_
        rintro e w2 ⟨rfl, b2⟩
        have B2 := Lib.hid (Below.trans (by go_grown) (b2.mono (by go_size)) : Below wr.heap.size wr w2)
        have zb := B.out.size
        clear b2
        go_wp2_with fail
        go_roundg (gk - 1)
        case measure => have := K.out; omega
        case rel => exact ⟨j + 1, by go_num, by have := K.out; omega, S2.out, B.out.trans (B2.out.mono zb)⟩
    · have hj : j = m.length := by omega
      have T : Hid (m.all okW = true) := Lib.hid (by have := S.out; rwa [hj, List.take_length] at this)
      have zz := B1.out.size
      clear hj
      go_wp2_with fail
      go_ret
      exact ⟨by rw [R.out, T.out]; rfl, B1.out.trans (B.out.mono zz)⟩

theorem implWin_is {w : World} {v u : Value} {l s : List Pc} {b : Bool} (h : Row w v l) (k : Row w u s) (hb : isWin l s = b) : Calls Tryd.prog 27 #[v, u] w fun e w' => Val w (.bool b) e w' := by
  have := implWin_any h k; rwa [hb] at this

set_option maxRecDepth 100000 in
set_option maxHeartbeats 3200000 in
theorem implFitW_any {w : World} {v u x : Value} {l s : List Pc} {a : List Int} (h : Row w v l) (k : Row w u s) (hx : IRow w x a) :
    Calls Tryd.prog 12 #[v, u, x] w fun e w' => Val w (.bool (fitB l s a)) e w' := by
  obtain ⟨pl, cl, rfl, h1, h2⟩ := h.len
  obtain ⟨ps, cs, rfl, k1, k2⟩ := k.len
  obtain ⟨pa, ca, rfl, a1, a2⟩ := hx.len
  have H := Lib.hid h; have H' := Lib.hid k; have HA := Lib.hid hx
  unfold maxLen at h2 k2 a2
  clear h k hx
  cases hw : isWin l s
  · have HW := Lib.hid hw
    have R := Lib.hid (fit_invalid (a := a) (.inl hw))
    clear hw
    go_enter Tryd.func12, Tryd.ntmps12
    go_wp2_with fail
    refine (implWin_is H.out H'.out HW.out).mono ?_
    rintro e w1 ⟨rfl, b1⟩
    go_wp2_with fail
    go_ret
    exact ⟨by rw [R.out]; rfl, b1⟩
  have HW := Lib.hid hw
  have W := Lib.hid (isWin_iff.1 hw)
  have sl := W.out.len
  by_cases hl : (a.length : Int) = (l.length : Int)
  case neg =>
    have R := Lib.hid (fit_invalid (l := l) (s := s) (a := a) (.inr (by omega)))
    have hl2 : ((a.length : Int) != (l.length : Int)) = true := by simpa using hl
    clear hw hl
    go_enter Tryd.func12, Tryd.ntmps12
    go_wp2_with fail
    refine (implWin_is H.out H'.out HW.out).mono ?_
    rintro e w1 ⟨rfl, b1⟩
    go_wp2_with fail
    go_ret
    exact ⟨by rw [R.out]; rfl, b1⟩
  have hl2 : ((a.length : Int) != (l.length : Int)) = false := by simpa using hl
  have HL : Hid (a.length = l.length) := Lib.hid (by omega)
  clear hw hl
  go_enter Tryd.func12, Tryd.ntmps12
  go_wp2_with fail
  refine (implWin_is H.out H'.out HW.out).mono ?_
  rintro e w1 ⟨rfl, b1⟩
  have B1 := Lib.hid b1
  clear b1
  go_wp2_with fail
  go_loopg [22] a.length (fun k x wr => ∃ j : Nat, x = .int .i64 j ∧ j + k = a.length ∧ (∀ i, i < j → chkW l s a i = true) ∧ Below w.heap.size w wr)
  case atStart => exact ⟨0, rfl, by omega, fun i hi => by omega, B1.out⟩
  case round =>
    obtain ⟨j, rfl, hk, hs, hb⟩ := hrel
    have K := Lib.hid hk; have S := Lib.hid hs; have B := Lib.hid hb
    have hjl : j ≤ a.length := by omega
    clear hk hs hb
    by_cases hlt : j < a.length
    · have hjL : j < l.length := by have := HL.out; omega
      obtain ⟨ga, oa, c1, e1, _, _⟩ := HA.out.known (by omega)
      simp only [Value.slice.injEq, true_and] at e1
      obtain ⟨rfl, rfl⟩ := e1
      obtain ⟨gl, ol, c2, e2, _, _⟩ := H.out.known (by omega)
      simp only [Value.slice.injEq, true_and] at e2
      obtain ⟨rfl, rfl⟩ := e2
      have d1 := HA.out.cells j hlt
      obtain ⟨d2, d3⟩ := H.out.cells j hjL
      have y1 := (B.out.cell (cell_below d1)).trans d1
      have y2 := (B.out.cell (cell_below d2)).trans d2
      have y3 := (B.out.cell (cell_below d3)).trans d3
      have js0 : (0 : Int) ≤ (j : Int) := by omega
      have js1 : (j : Int) < (a.length : Int) := by omega
      have js2 : (j : Int) < (l.length : Int) := by omega
      have CK : Hid (chkW l s a j = (inW (gW l j) (gI a j) && (j == 0 || inW (gW s (j - 1)) (gI a j - gI a (j - 1))))) := Lib.hid rfl
      have gi := gI_get hlt
      have gw := gW_get hjL
      obtain ⟨x, hx⟩ : ∃ x, a[j] = x := ⟨_, rfl⟩
      obtain ⟨p, hp⟩ : ∃ p, l[j] = p := ⟨_, rfl⟩
      rw [hx] at y1 gi
      rw [hp] at y2 y3 gw
      rw [gi, gw] at CK
      have okp := W.out.okl j hjL
      rw [gw] at okp
      clear d1 d2 d3 hx hp gi gw
      obtain ⟨p1, p2⟩ := p
      cases hin : inW (p1, p2) x
      · have HI := Lib.hid hin
        have R : Hid (fitB l s a = false) := Lib.hid (chk_not hjL (by rw [CK.out, hin]; rfl))
        clear hin
        go_wp2_with fail
        refine (windowHas_is HI.out _).mono ?_
        rintro e w2 ⟨rfl, b2⟩
        have B2 := Lib.hid (B.out.trans (b2.mono B.out.size))
        clear b2
        go_wp2_with fail
        go_ret
        exact ⟨by rw [R.out]; rfl, B2.out⟩
      have HI := Lib.hid hin
      have xb : p1 ≤ x ∧ x ≤ p2 := by simpa [inW] using hin
      have CK2 : Hid (chkW l s a j = (j == 0 || inW (gW s (j - 1)) (x - gI a (j - 1)))) := Lib.hid (by rw [CK.out, hin]; rfl)
      clear hin CK
      cases j with
      | zero =>
        have S1 : Hid (∀ i, i < 0 + 1 → chkW l s a i = true) := Lib.hid (fun i hi => by
          obtain rfl : i = 0 := by omega
          rw [CK2.out]; rfl)
        simp only [Nat.zero_mul, Nat.add_zero] at y1 y2 y3
        go_wp2_with fail
        refine (windowHas_is HI.out _).mono ?_
        rintro e w2 ⟨rfl, b2⟩
        have B2 := Lib.hid (B.out.trans (b2.mono B.out.size))
        clear b2
        go_wp2_with fail
        go_quiet (fail)
        go_wp2_with fail
        go_roundg (gk - 1)
        case measure => have := K.out; omega
        case rel => exact ⟨1, by go_num, by have := K.out; omega, S1.out, below_drews B2.out _⟩
      | succ j =>
        have hjs : j < s.length := by omega
        obtain ⟨gs, os, c3, e3, _, _⟩ := H'.out.known (by omega)
        simp only [Value.slice.injEq, true_and] at e3
        obtain ⟨rfl, rfl⟩ := e3
        have d4 := HA.out.cells j (by omega)
        obtain ⟨d5, d6⟩ := H'.out.cells j hjs
        have ck0 := S.out j (by omega)
        simp only [chkW, Bool.and_eq_true] at ck0
        have ok0 := W.out.okl j (by omega)
        have in0 := ck0.1
        simp only [inW, Bool.and_eq_true, decide_eq_true_eq] at in0
        have gi := gI_get (show j < a.length by omega)
        have gw := gW_get hjs
        obtain ⟨y, hy⟩ : ∃ y, a[j]'(by omega) = y := ⟨_, rfl⟩
        obtain ⟨q, hq⟩ : ∃ q, s[j] = q := ⟨_, rfl⟩
        rw [hy] at d4 gi
        rw [hq] at d5 d6 gw
        simp only [Nat.add_sub_cancel] at CK2
        rw [gi, gw] at CK2
        rw [gi] at in0
        obtain ⟨q1, q2⟩ := q
        have wx : IntKind.i64.wrap (x - y) = x - y := IntWalk.i64_in _ (by omega)
        have s1 : IntKind.i64.wrap ((j : Int) + 1 - 1) = (j : Int) := by rw [show (j : Int) + 1 - 1 = j by omega]; exact IntWalk.i64_in _ (by omega)
        have s2 : IntKind.i64.wrap (j : Int) = (j : Int) := IntWalk.i64_in _ (by omega)
        have s3 : (0 : Int) ≤ (j : Int) := Int.natCast_nonneg _
        have s4 : (j : Int) < (a.length : Int) := by omega
        have s4' : (j : Int) < (s.length : Int) := by omega
        have s5 : (0 : Int) ≤ (j : Int) + 1 := by omega
        have s6 : (j : Int) + 1 < (l.length : Int) := by omega
        have s6' : (j : Int) + 1 < (a.length : Int) := by omega
        have s7 : ((j : Int) + 1).toNat = j + 1 := by omega
        have s8 : (0 : Int) < (j : Int) + 1 := by omega
        have D4 := Lib.hid d4; have D5 := Lib.hid d5; have D6 := Lib.hid d6
        clear d4 d5 d6 hy hq gi gw ck0 ok0 in0 okp xb
        obtain ⟨bo, hst⟩ : ∃ b, inW (q1, q2) (x - y) = b := ⟨_, rfl⟩
        have HS := Lib.hid hst
        have CK3 : Hid (chkW l s a (j + 1) = bo) := Lib.hid (by rw [CK2.out, hst]; simp)
        clear hst CK2
        go_wp2_with fail
        refine (windowHas_is HI.out _).mono ?_
        rintro e w2 ⟨rfl, b2⟩
        have B2 := Lib.hid (B.out.trans (b2.mono B.out.size))
        have y4 := (B2.out.cell (cell_below D4.out)).trans D4.out
        have y5 := (B2.out.cell (cell_below D5.out)).trans D5.out
        have y6 := (B2.out.cell (cell_below D6.out)).trans D6.out
        clear b2 y1 y2 y3
        have mkS : ∀ w' : World, Below w2.heap.size w2 w' → (fun w' => (Below w2.heap.size w2 w' ∧ w'.cell? ⟨ga, oa + j, none⟩ = some (.int .i64 y) ∧ w'.cell? ⟨gs, os + j * 2, none⟩ = some (.int .i64 q1) ∧ w'.cell? ⟨gs, os + j * 2 + 1, none⟩ = some (.int .i64 q2))) w' := fun w' b => ⟨b, (b.cell (cell_below y4)).trans y4, (b.cell (cell_below y5)).trans y5, (b.cell (cell_below y6)).trans y6⟩
        go_wp2_with fail
        refine wp_region_held_drew (S := (fun w' => (Below w2.heap.size w2 w' ∧ w'.cell? ⟨ga, oa + j, none⟩ = some (.int .i64 y) ∧ w'.cell? ⟨gs, os + j * 2, none⟩ = some (.int .i64 q1) ∧ w'.cell? ⟨gs, os + j * 2 + 1, none⟩ = some (.int .i64 q2)))) (by kernel_rfl) (by exact mkS _ (Below.refl _ _).drew) (fun hHeld => ?_)
        refine take_h 0 34 rfl rfl (by kernel_rfl) (by kernel_rfl) (by kernel_rfl) (fun _ _ _ h => h) (by kernel_rfl) (by intro w hSw; (try dsimp only at hSw); go_simp; try with_reducible rfl) (by assumption) ?_
        refine take_h 1 35 rfl rfl (by kernel_rfl) (by kernel_rfl) (by kernel_rfl) (fun _ _ _ h => h) (by kernel_rfl) (by intro w hSw; (try dsimp only at hSw); go_simp; try with_reducible rfl) (by assumption) ?_
        refine take_h 2 36 rfl rfl (by kernel_rfl) (by kernel_rfl) (by kernel_rfl) (fun _ _ _ h => h) (by kernel_rfl) (by intro w hSw; (try dsimp only at hSw); go_simp; try with_reducible rfl) (by assumption) ?_
        refine take_h 3 37 rfl rfl (by kernel_rfl) (by kernel_rfl) (by kernel_rfl) (fun _ _ _ h => h) (by kernel_rfl) (by intro w hSw; (try dsimp only at hSw); go_simp; try with_reducible rfl) (by assumption) ?_
        refine take_h 4 38 rfl rfl (by kernel_rfl) (by kernel_rfl) (by kernel_rfl) (fun _ _ _ h => h) (by kernel_rfl) (by intro w hSw; (try dsimp only at hSw); go_simp; try with_reducible rfl) (by assumption) ?_
        refine take_h 5 39 rfl rfl (by kernel_rfl) (by kernel_rfl) (by kernel_rfl) (fun _ _ _ h => h) (by kernel_rfl) (by intro w hSw; (try dsimp only at hSw); go_simp; try with_reducible rfl) (by assumption) ?_
        refine take_h 6 40 rfl rfl (by kernel_rfl) (by kernel_rfl) (by kernel_rfl) (fun _ _ _ h => h) (by kernel_rfl) (by intro w hSw; (try dsimp only at hSw); go_simp; try with_reducible rfl) (by assumption) ?_
        refine take_h 7 41 rfl rfl (by kernel_rfl) (by kernel_rfl) (by kernel_rfl) (fun _ _ _ h => h) (by kernel_rfl) (by intro w hSw; (try dsimp only at hSw); go_simp; try with_reducible rfl) (by assumption) ?_
        refine take_h 8 42 rfl rfl (by kernel_rfl) (by kernel_rfl) (by kernel_rfl) (fun _ _ _ h => h) (by kernel_rfl) (by intro w hSw; (try dsimp only at hSw); go_simp; try with_reducible rfl) (by assumption) ?_
        refine take_h 9 43 rfl rfl (by kernel_rfl) (by kernel_rfl) (by kernel_rfl) (fun _ _ _ h => h) (by kernel_rfl) (by intro w hSw; (try dsimp only at hSw); go_simp; try with_reducible rfl) (by assumption) ?_
        refine take_h 10 44 rfl rfl (by kernel_rfl) (by kernel_rfl) (by kernel_rfl) (fun _ _ _ h => h) (by kernel_rfl) (by intro w hSw; (try dsimp only at hSw); go_simp; try with_reducible rfl) (by assumption) ?_
        refine take_h 11 45 rfl rfl (by kernel_rfl) (by kernel_rfl) (by kernel_rfl) (fun _ _ _ h => h) (by kernel_rfl) (by intro w hSw; (try dsimp only at hSw); go_simp; try with_reducible rfl) (by assumption) ?_
        refine take_h 12 46 rfl rfl (by kernel_rfl) (by kernel_rfl) (by kernel_rfl) (fun _ _ _ h => h) (by kernel_rfl) (by intro w hSw; (try dsimp only at hSw); go_simp; try with_reducible rfl) (by assumption) ?_
        refine take_h 13 47 rfl rfl (by kernel_rfl) (by kernel_rfl) (by kernel_rfl) (fun _ _ _ h => h) (by kernel_rfl) (by intro w hSw; (try dsimp only at hSw); go_simp; try with_reducible rfl) (by assumption) ?_
        refine take_h 14 48 rfl rfl (by kernel_rfl) (by kernel_rfl) (by kernel_rfl) (fun _ _ _ h => h) (by kernel_rfl) (by intro w hSw; (try dsimp only at hSw); go_simp; try with_reducible rfl) (by assumption) ?_
        refine wpAnyH_ready (rs := [15]) (by kernel_rfl) (by simp) (AllReadyH.cons rfl (fun K hK => ?_) AllReadyH.nil)
        go_simp
        go_wp2_with ((go_at_call 28; refine (windowHas_is (p := (q1, q2)) HS.out _).mono ?_; rintro e w9 ⟨rfl, b9⟩; have b9' := Below.trans hHeld.1 (b9.mono hHeld.1.size)))
        refine hK.out _ _ (by (try dsimp only); exact mkS _ b9') (fun hHeld => ?_)
        clear hK K
        refine take_h 16 50 rfl rfl (by kernel_rfl) (by kernel_rfl) (by kernel_rfl) (fun _ _ _ h => h) (by kernel_rfl) (by intro w hSw; (try dsimp only at hSw); go_simp; try with_reducible rfl) (by assumption) ?_
        refine take_h 17 51 rfl rfl (by kernel_rfl) (by kernel_rfl) (by kernel_rfl) (fun _ _ _ h => h) (by kernel_rfl) (by intro w hSw; (try dsimp only at hSw); go_simp; try with_reducible rfl) (by assumption) ?_
        refine wpAnyH_done (by kernel_rfl) ?_ _
        simp only [Exit.then]
        simp only [Act.put, List.setIfInBounds_toArray, List.set_cons_succ, List.set_cons_zero]
        have B9 := Lib.hid (B2.out.trans (b9'.mono B2.out.size))
        clear b9 b9' hHeld mkS y4 y5 y6
        cases bo
        · have R : Hid (fitB l s a = false) := Lib.hid (chk_not hjL CK3.out)
          go_wp2_with fail
          go_ret
          exact ⟨by rw [R.out]; rfl, B9.out⟩
        · have S1 : Hid (∀ i, i < j + 1 + 1 → chkW l s a i = true) := Lib.hid (fun i hi => by
            rcases Nat.lt_or_ge i (j + 1) with c | c
            · exact S.out i c
            · obtain rfl : i = j + 1 := by omega
              exact CK3.out)
          go_wp2_with fail
          go_roundg (gk - 1)
          case measure => have := K.out; omega
          case rel => exact ⟨j + 2, by go_num, by have := K.out; omega, S1.out, B9.out⟩
    · have R : Hid (fitB l s a = true) := Lib.hid (chk_all HW.out HL.out fun i hi => S.out i (by have := HL.out; omega))
      have jl : ¬ (j : Int) < (a.length : Int) := by omega
      go_wp2_with fail
      go_ret
      exact ⟨by rw [R.out]; rfl, B.out⟩

set_option maxRecDepth 100000 in
set_option maxHeartbeats 3200000 in
theorem implTightW_any {w : World} (SN : Sent w) {v u : Value} {l s : List Pc} (h : Row w v l) (k : Row w u s) :
    Calls Tryd.prog 14 #[v, u] w fun e w' => LstB WT w (tightOf l s) e w' := by
  obtain ⟨a, c, rfl, h1, h2⟩ := h.len
  obtain ⟨a', c', rfl, k1, k2⟩ := k.len
  have H := Lib.hid h; have H' := Lib.hid k
  clear h k
  cases hw : isWin l s
  · have HW := Lib.hid hw
    have R := Lib.hid (tight_invalid hw)
    clear hw
    go_enter Tryd.func14, Tryd.ntmps14
    go_wp2_with fail
    refine (implWin_is H.out H'.out HW.out).mono ?_
    rintro e w1 ⟨rfl, b1⟩
    have O1 := wl_new w1 b1
    go_wp2_with fail
    go_ret2
    rw [R.out]
    exact ⟨_, rfl, O1.out.1, O1.out.2⟩
  have HW := Lib.hid hw
  clear hw
  obtain ⟨ea, hea⟩ := SN.one
  have EA := Lib.hid hea
  clear hea
  cases hg : goodW (tiL l s)
  · have HG := Lib.hid hg
    have R := Lib.hid (tight_bad hg)
    clear hg
    go_enter Tryd.func14, Tryd.ntmps14
    go_wp2_with fail
    refine (implWin_is H.out H'.out HW.out).mono ?_
    rintro e w1 ⟨rfl, b1⟩
    have B1 := Lib.hid b1
    have E1 := Lib.hid ((b1.cell (cell_below EA.out)).trans EA.out)
    clear b1
    go_wp2_with fail
    refine (tightW_no (H.out.grow B1.out) (H'.out.grow B1.out) HW.out HG.out E1.out).mono ?_
    rintro e w2 ⟨rfl, b2⟩
    have B2 := Lib.hid (B1.out.trans (b2.mono B1.out.size))
    have e2 := (b2.cell (cell_below E1.out)).trans E1.out
    clear b2
    go_wp2_with fail
    refine (is_same ea _).mono ?_
    rintro e w3 ⟨rfl, rfl⟩
    have O1 := wl_new w3 B2.out
    go_wp2_with fail
    go_ret2
    rw [R.out]
    exact ⟨_, rfl, O1.out.1, O1.out.2⟩
  · have HG := Lib.hid hg
    have R := Lib.hid (tight_good HW.out hg)
    clear hg
    go_enter Tryd.func14, Tryd.ntmps14
    go_wp2_with fail
    refine (implWin_is H.out H'.out HW.out).mono ?_
    rintro e w1 ⟨rfl, b1⟩
    have B1 := Lib.hid b1
    have E1 := Lib.hid ((b1.cell (cell_below EA.out)).trans EA.out)
    clear b1
    go_wp2_with fail
    refine (tightW_yes (H.out.grow B1.out) (H'.out.grow B1.out) HW.out HG.out E1.out).mono ?_
    rintro e w2 ⟨vt, rfl, o2, b2⟩
    have B2 := Lib.hid (B1.out.trans (b2.mono B1.out.size))
    have e2 := (b2.cell (cell_below E1.out)).trans E1.out
    have O2 := Lib.hid (o2.mono B1.out.size)
    clear b2 o2
    go_wp2_with fail
    refine (is_nil ea _).mono ?_
    rintro e w3 ⟨rfl, rfl⟩
    go_wp2_with fail
    go_ret2
    rw [R.out]
    exact ⟨_, rfl, O2.out, B2.out⟩

theorem chooseYoung_any (p : Wn) (w : World) :
    Calls Tryd.prog 34 #[.agg #[.int .i64 p.1, .int .i64 p.2]] w fun e w' => e = .returned (.int .i64 p.1) ∧ Below w.heap.size w w' := by
  obtain ⟨x, y⟩ := p
  go_enter Tryd.func34, Tryd.ntmps34
  go_wp2_with fail
  go_returns
  exact ⟨rfl, by go_grown⟩
set_option maxRecDepth 100000 in
set_option maxHeartbeats 3200000 in
theorem tightAgesYoung_any {w : World} (SN : Sent w) {v u : Value} {l s : List Pc} (h : Row w v l) (k : Row w u s) :
    Calls Tryd.prog 33 #[v, u, .func (.func 34) #[] #[]] w fun e w' => ILB w (youngOf l s) e w' := by
  have H := Lib.hid h; have H' := Lib.hid k; have S0 := Lib.hid SN
  clear h k SN
  obtain ⟨t, ht⟩ : ∃ t, (tightOf l s).getD [] = t := ⟨_, rfl⟩
  obtain ⟨b, hb⟩ : ∃ b, (tightOf l s).isSome = b := ⟨_, rfl⟩
  have t12 : t.length ≤ 12 := by rw [← ht]; exact tight_len
  have HT := Lib.hid ht; have HB := Lib.hid hb
  have R : Hid ((youngOf l s).getD [] = t.map Prod.fst ∧ (youngOf l s).isSome = b) := Lib.hid (by
    rw [← ht, ← hb]; unfold youngOf; cases tightOf l s <;> exact ⟨rfl, rfl⟩)
  clear ht hb
  go_enter Tryd.func33, Tryd.ntmps33
  go_wp2_with fail
  refine (implTightW_any (S0.out.grow (by go_grown)) (H.out.grow (by go_grown)) (H'.out.grow (by go_grown))).mono ?_
  rintro e w1 ⟨vt, rfl, o1, b1⟩
  rw [HT.out] at o1
  rw [HB.out]
  obtain ⟨at1, ct, rfl, t1, t2, t3⟩ := o1.row.parts
  have LT := Lib.hid t3
  unfold maxLen at t2
  have hz0 := b1.size
  have B0 := Lib.hid b1
  have A0 := Lib.hid ((Below.refl w1.heap.size w1).alloc (Nat.le_refl _) (.cells #[] 3))
  clear o1 b1 t3
  go_wp2_with fail
  go_loopg [10, 22] t.length (fun k y x wr => ∃ j : Nat, x = .int .i64 j ∧ j + k = t.length ∧ IOwn wr w1.heap.size y ((t.take j).map Prod.fst) ∧ Below w1.heap.size w1 wr)
  case atStart => exact ⟨0, rfl, by omega, iown_new (Nat.le_refl _), A0.out⟩
  case round =>
    obtain ⟨j, rfl, hk, ho, ha⟩ := hrel
    have K := Lib.hid hk; have O := Lib.hid ho; have A := Lib.hid ha
    have hjl : j ≤ t.length := by omega
    clear hk ho ha A0
    by_cases hlt : j < t.length
    · obtain ⟨g, o, rfl, d1, d2⟩ := lies_cell LT.out j hlt
      have e1 := (A.out.cell (cell_below d1)).trans d1
      have e2 := (A.out.cell (cell_below d2)).trans d2
      have i0 : (0 : Int) ≤ (j : Int) := by omega
      have i1 : (j : Int) < (t.length : Int) := by omega
      have ST : Hid ((t.take j).map Prod.fst ++ [t[j].1] = (t.take (j + 1)).map Prod.fst) := Lib.hid (by rw [List.take_succ_eq_append_getElem hlt, List.map_append]; rfl)
      obtain ⟨x, hx⟩ : ∃ x, t[j] = x := ⟨_, rfl⟩
      rw [hx] at e1 e2 ST
      obtain ⟨x1, x2⟩ := x
      have lm : ((t.take j).map Prod.fst).length ≤ 12 := by simp; omega
      have hza := A.out.size
      clear d1 d2 hx
      go_wp2_with fail
      refine (chooseYoung_any (x1, x2) _).mono ?_
      rintro e w5 ⟨rfl, b5⟩
      have B5 : Hid (Below wr.heap.size wr w5) := Lib.hid (Below.trans (by go_grown) (b5.mono (by go_size)))
      have O5 := Lib.hid (O.out.grow B5.out)
      have A5 := Lib.hid (A.out.trans (B5.out.mono hza))
      have hz5 := A5.out.size
      have n1 := new_one w5 (.int .i64 x1) 3
      have N1 := Lib.hid n1
      have BW := Lib.hid ((Below.refl w5.heap.size w5).alloc (Nat.le_refl _) (.cells #[.int .i64 x1] 3))
      clear b5 n1
      go_wp2_with (at_builtin; refine iappend_one inT rfl _ _ rfl (B := w1.heap.size) _ _ rfl (O5.out.grow BW.out) ⟨w5.heap.size, 0, none⟩ x1 rfl N1.out (by omega) (by simp; omega) ?_; intro v8 w8 hown8 hg8)
      rw [ST.out] at hown8
      have O8 := Lib.hid hown8
      have A8 := Lib.hid (A5.out.trans ((BW.out.mono hz5).trans ((O5.out.grow BW.out).below hg8 (by simp; omega))))
      clear hown8 hg8
      go_wp2_with fail
      go_roundg (gk - 1)
      case measure => have := K.out; omega
      case rel => exact ⟨j + 1, by go_num, by have := K.out; omega, O8.out, A8.out⟩
    · have hj : j = t.length := by omega
      go_wp2_with fail
      go_ret2
      refine ⟨_, by rw [R.out.2]; rfl, ?_, B0.out.trans (A.out.mono hz0)⟩
      rw [R.out.1]
      have := O.out
      rw [hj, List.take_length] at this
      exact this.mono hz0
set_option maxHeartbeats 1600000 in
theorem implYoung_any {w : World} (SN : Sent w) {v u : Value} {l s : List Pc} (h : Row w v l) (k : Row w u s) :
    Calls Tryd.prog 15 #[v, u] w fun e w' => ILB w (youngOf l s) e w' := by
  have H := Lib.hid h; have H' := Lib.hid k; have S0 := Lib.hid SN
  clear h k SN
  go_enter Tryd.func15, Tryd.ntmps15
  go_wp2_with fail
  refine (tightAgesYoung_any S0.out H.out H'.out).mono ?_
  rintro e w1 ⟨vt, rfl, o1, b1⟩
  have O1 := Lib.hid o1; have B1 := Lib.hid b1
  clear o1 b1
  go_wp2_with fail
  go_ret2
  exact ⟨_, rfl, O1.out, B1.out⟩

theorem chooseOld_any (p : Wn) (w : World) :
    Calls Tryd.prog 35 #[.agg #[.int .i64 p.1, .int .i64 p.2]] w fun e w' => e = .returned (.int .i64 p.2) ∧ Below w.heap.size w w' := by
  obtain ⟨x, y⟩ := p
  go_enter Tryd.func35, Tryd.ntmps35
  go_wp2_with fail
  go_returns
  exact ⟨rfl, by go_grown⟩
set_option maxRecDepth 100000 in
set_option maxHeartbeats 3200000 in
theorem tightAgesOld_any {w : World} (SN : Sent w) {v u : Value} {l s : List Pc} (h : Row w v l) (k : Row w u s) :
    Calls Tryd.prog 33 #[v, u, .func (.func 35) #[] #[]] w fun e w' => ILB w (oldOf l s) e w' := by
  have H := Lib.hid h; have H' := Lib.hid k; have S0 := Lib.hid SN
  clear h k SN
  obtain ⟨t, ht⟩ : ∃ t, (tightOf l s).getD [] = t := ⟨_, rfl⟩
  obtain ⟨b, hb⟩ : ∃ b, (tightOf l s).isSome = b := ⟨_, rfl⟩
  have t12 : t.length ≤ 12 := by rw [← ht]; exact tight_len
  have HT := Lib.hid ht; have HB := Lib.hid hb
  have R : Hid ((oldOf l s).getD [] = t.map Prod.snd ∧ (oldOf l s).isSome = b) := Lib.hid (by
    rw [← ht, ← hb]; unfold oldOf; cases tightOf l s <;> exact ⟨rfl, rfl⟩)
  clear ht hb
  go_enter Tryd.func33, Tryd.ntmps33
  go_wp2_with fail
  refine (implTightW_any (S0.out.grow (by go_grown)) (H.out.grow (by go_grown)) (H'.out.grow (by go_grown))).mono ?_
  rintro e w1 ⟨vt, rfl, o1, b1⟩
  rw [HT.out] at o1
  rw [HB.out]
  obtain ⟨at1, ct, rfl, t1, t2, t3⟩ := o1.row.parts
  have LT := Lib.hid t3
  unfold maxLen at t2
  have hz0 := b1.size
  have B0 := Lib.hid b1
  have A0 := Lib.hid ((Below.refl w1.heap.size w1).alloc (Nat.le_refl _) (.cells #[] 3))
  clear o1 b1 t3
  go_wp2_with fail
  go_loopg [10, 22] t.length (fun k y x wr => ∃ j : Nat, x = .int .i64 j ∧ j + k = t.length ∧ IOwn wr w1.heap.size y ((t.take j).map Prod.snd) ∧ Below w1.heap.size w1 wr)
  case atStart => exact ⟨0, rfl, by omega, iown_new (Nat.le_refl _), A0.out⟩
  case round =>
    obtain ⟨j, rfl, hk, ho, ha⟩ := hrel
    have K := Lib.hid hk; have O := Lib.hid ho; have A := Lib.hid ha
    have hjl : j ≤ t.length := by omega
    clear hk ho ha A0
    by_cases hlt : j < t.length
    · obtain ⟨g, o, rfl, d1, d2⟩ := lies_cell LT.out j hlt
      have e1 := (A.out.cell (cell_below d1)).trans d1
      have e2 := (A.out.cell (cell_below d2)).trans d2
      have i0 : (0 : Int) ≤ (j : Int) := by omega
      have i1 : (j : Int) < (t.length : Int) := by omega
      have ST : Hid ((t.take j).map Prod.snd ++ [t[j].2] = (t.take (j + 1)).map Prod.snd) := Lib.hid (by rw [List.take_succ_eq_append_getElem hlt, List.map_append]; rfl)
      obtain ⟨x, hx⟩ : ∃ x, t[j] = x := ⟨_, rfl⟩
      rw [hx] at e1 e2 ST
      obtain ⟨x1, x2⟩ := x
      have lm : ((t.take j).map Prod.snd).length ≤ 12 := by simp; omega
      have hza := A.out.size
      clear d1 d2 hx
      go_wp2_with fail
      refine (chooseOld_any (x1, x2) _).mono ?_
      rintro e w5 ⟨rfl, b5⟩
      have B5 : Hid (Below wr.heap.size wr w5) := Lib.hid (Below.trans (by go_grown) (b5.mono (by go_size)))
      have O5 := Lib.hid (O.out.grow B5.out)
      have A5 := Lib.hid (A.out.trans (B5.out.mono hza))
      have hz5 := A5.out.size
      have n1 := new_one w5 (.int .i64 x2) 3
      have N1 := Lib.hid n1
      have BW := Lib.hid ((Below.refl w5.heap.size w5).alloc (Nat.le_refl _) (.cells #[.int .i64 x2] 3))
      clear b5 n1
      go_wp2_with (at_builtin; refine iappend_one inT rfl _ _ rfl (B := w1.heap.size) _ _ rfl (O5.out.grow BW.out) ⟨w5.heap.size, 0, none⟩ x2 rfl N1.out (by omega) (by simp; omega) ?_; intro v8 w8 hown8 hg8)
      rw [ST.out] at hown8
      have O8 := Lib.hid hown8
      have A8 := Lib.hid (A5.out.trans ((BW.out.mono hz5).trans ((O5.out.grow BW.out).below hg8 (by simp; omega))))
      clear hown8 hg8
      go_wp2_with fail
      go_roundg (gk - 1)
      case measure => have := K.out; omega
      case rel => exact ⟨j + 1, by go_num, by have := K.out; omega, O8.out, A8.out⟩
    · have hj : j = t.length := by omega
      go_wp2_with fail
      go_ret2
      refine ⟨_, by rw [R.out.2]; rfl, ?_, B0.out.trans (A.out.mono hz0)⟩
      rw [R.out.1]
      have := O.out
      rw [hj, List.take_length] at this
      exact this.mono hz0
set_option maxHeartbeats 1600000 in
theorem implOldW_any {w : World} (SN : Sent w) {v u : Value} {l s : List Pc} (h : Row w v l) (k : Row w u s) :
    Calls Tryd.prog 16 #[v, u] w fun e w' => ILB w (oldOf l s) e w' := by
  have H := Lib.hid h; have H' := Lib.hid k; have S0 := Lib.hid SN
  clear h k SN
  go_enter Tryd.func16, Tryd.ntmps16
  go_wp2_with fail
  refine (tightAgesOld_any S0.out H.out H'.out).mono ?_
  rintro e w1 ⟨vt, rfl, o1, b1⟩
  have O1 := Lib.hid o1; have B1 := Lib.hid b1
  clear o1 b1
  go_wp2_with fail
  go_ret2
  exact ⟨_, rfl, O1.out, B1.out⟩

end Go.Proofs.YtanfalkpmmkklaaDoor
