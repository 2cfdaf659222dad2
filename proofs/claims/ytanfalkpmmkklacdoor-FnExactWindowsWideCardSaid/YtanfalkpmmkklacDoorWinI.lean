/- The contracts of the program's functions on windows: what is valid, which ages fit, tight windows, the least and the greatest ages, how wide. -/
import Derived.Test.YtanfalkpmmkklacDoorWinT
import Derived.Test.YtanfalkpmmkklacDoorWinSpec3
namespace Go.Proofs.YtanfalkpmmkklacDoor
open Go.RowKit

theorem isWin_cat {l s : List Pc} (h : l.length ≤ 12) (hs : s.length + 1 = l.length) : isWin l s = (l ++ s).all okW := by
  unfold isWin
  rw [decide_eq_true (show 1 ≤ l.length by omega), decide_eq_true h, decide_eq_true hs, List.all_append]
  rfl
theorem isWin_no {l s : List Pc} (h : 12 < l.length ∨ s.length + 1 ≠ l.length) : isWin l s = false := by
  cases c : isWin l s
  · rfl
  · have w := isWin_iff.1 c
    have := w.most; have := w.len
    omega
set_option maxRecDepth 100000 in
set_option maxHeartbeats 3200000 in
theorem implWin_any {w : World} {v u : Value} {l s : List Pc} (h : Row w v l) (k : Row w u s) :
    Calls Tryd.prog 26 #[v, u] w fun e w' => Val w (.bool (isWin l s)) e w' := by
  obtain ⟨a, c, rfl, h1, h2⟩ := h.len
  obtain ⟨a', c', rfl, k1, k2⟩ := k.len
  have H := Lib.hid h; have H' := Lib.hid k
  unfold maxLen at h2 k2
  have wr1 : IntKind.i64.wrap ((l.length : Int) - 1) = (l.length : Int) - 1 := IntWalk.i64_in _ (by omega)
  clear h k
  by_cases hb : (l.length : Int) > 12
  · have R := Lib.hid (isWin_no (l := l) (s := s) (.inl (by omega)))
    go_enter Tryd.func26, Tryd.ntmps26
    go_wp2_with fail
    go_ret
    exact ⟨by rw [R.out]; rfl, Below.refl _ _⟩
  by_cases hl : (s.length : Int) = (l.length : Int) - 1
  case neg =>
    have hl2 : ((s.length : Int) != (l.length : Int) - 1) = true := by simpa using hl
    have R := Lib.hid (isWin_no (l := l) (s := s) (.inr (by omega)))
    clear hl
    go_enter Tryd.func26, Tryd.ntmps26
    go_wp2_with fail
    go_ret
    exact ⟨by rw [R.out]; rfl, Below.refl _ _⟩
  have hl2 : ((s.length : Int) != (l.length : Int) - 1) = false := by simpa using hl
  have R := Lib.hid (isWin_cat (l := l) (s := s) (by omega) (by omega))
  have hsn : s.length ≤ 12 := by omega
  have hp : 0 < l.length + s.length := by omega
  have hq : l.length + s.length ≤ 1000 := by omega
  clear hl
  obtain ⟨m, hm⟩ : ∃ m, l ++ s = m := ⟨_, rfl⟩
  have HM := Lib.hid hm
  have ml : m.length ≤ 24 := by rw [← hm, List.length_append]; omega
  clear hm
  go_enter Tryd.func26, Tryd.ntmps26
  go_wp2_with fail
  have z0 := new_two w (.slice a l.length c) (.slice a' s.length c') 24
  rw [Addr.add_lit, Addr.add_lit] at z0
  refine (concatW_any (b := w.heap.size) z0.1 z0.2 (H.out.grow ((Below.refl _ _).alloc (Nat.le_refl _) _)) (H'.out.grow ((Below.refl _ _).alloc (Nat.le_refl _) _)) hp hq).mono ?_
  rintro e w1 ⟨v, rfl, o1, b1⟩
  rw [HM.out] at o1 R
  have hb1 : Below w.heap.size w w1 := ((Below.refl _ _).alloc (Nat.le_refl _) _ : Below w.heap.size w _).trans (b1.mono (by simp))
  obtain ⟨am, cm, rfl, m1, m2, m3⟩ := o1.row.parts
  have LM := Lib.hid m3; have B1 := Lib.hid hb1
  unfold maxLen at m2
  clear o1 b1 hb1 m3 z0
  go_wp2_with fail
  go_loopg [23] m.length (fun k x wr => ∃ j : Nat, x = .int .i64 j ∧ j + k = m.length ∧ (m.take j).all okW = true ∧ Below w1.heap.size w1 wr)
  case atStart => exact ⟨0, rfl, by omega, by simp, Below.refl _ _⟩
  case round =>
    obtain ⟨j, rfl, hk, hs, hb⟩ := hrel
    have K := Lib.hid hk; have S := Lib.hid hs; have B := Lib.hid hb
    have hjl : j ≤ m.length := by omega
    clear hk hs hb
    by_cases hlt : j < m.length
    · obtain ⟨g, o, rfl, d1, d2⟩ := lies_cell LM.out j hlt
      have e1 := (B.out.cell (cell_below d1)).trans d1
      have e2 := (B.out.cell (cell_below d2)).trans d2
      have i0 : (0 : Int) ≤ (j : Int) := by omega
      have i1 : (j : Int) < (m.length : Int) := by omega
      clear d1 d2
      cases hx : okW m[j]
      · have D := Lib.hid hx
        have R2 := Lib.hid (not_all hlt hx)
        clear hx
        go_wp2_with fail
        refine (windowValid_is D.out _).mono ?_
        rintro e w2 ⟨rfl, b2⟩
        have B2 := Lib.hid (Below.trans (by go_grown) (b2.mono (by go_size)) : Below wr.heap.size wr w2)
        have zz := B1.out.size; have zb := B.out.size
        clear b2
        go_wp2_with fail
        go_ret
        exact ⟨by rw [R.out, R2.out]; rfl, B1.out.trans ((B.out.trans (B2.out.mono zb)).mono zz)⟩
      · have D := Lib.hid hx
        have S2 := Lib.hid (take_all hlt S.out hx)
        clear hx
        go_wp2_with fail
        refine (windowValid_is D.out _).mono ?_
        rintro e w2 ⟨rfl, b2⟩
        have B2 := Lib.hid (Below.trans (by go_grown) (b2.mono (by go_size)) : Below wr.heap.size wr w2)
        have zb := B.out.size
        clear b2
        go_wp2_with fail
        go_roundg (gk - 1)
        case measure => have := K.out; omega
        case rel => exact ⟨j + 1, by go_num, by have := K.out; omega, S2.out, B.out.trans (B2.out.mono zb)⟩
    · have hj : j = m.length := by omega
      have T : Hid (m.all okW = true) := Lib.hid (by have := S.out; rwa [hj, List.take_length] at this)
      have zz := B1.out.size
      clear hj
      go_wp2_with fail
      go_ret
      exact ⟨by rw [R.out, T.out]; rfl, B1.out.trans (B.out.mono zz)⟩

theorem implWin_is {w : World} {v u : Value} {l s : List Pc} {b : Bool} (h : Row w v l) (k : Row w u s) (hb : isWin l s = b) : Calls Tryd.prog 26 #[v, u] w fun e w' => Val w (.bool b) e w' := by
  have := implWin_any h k; rwa [hb] at this


set_option maxRecDepth 100000 in
set_option maxHeartbeats 3200000 in
theorem implTightW_any {w : World} (SN : Sent w) {v u : Value} {l s : List Pc} (h : Row w v l) (k : Row w u s) :
    Calls Tryd.prog 10 #[v, u] w fun e w' => LstB WT w (tightOf l s) e w' := by
  obtain ⟨a, c, rfl, h1, h2⟩ := h.len
  obtain ⟨a', c', rfl, k1, k2⟩ := k.len
  have H := Lib.hid h; have H' := Lib.hid k
  clear h k
  cases hw : isWin l s
  · have HW := Lib.hid hw
    have R := Lib.hid (tight_invalid hw)
    clear hw
    go_enter Tryd.func10, Tryd.ntmps10
    go_wp2_with fail
    refine (implWin_is H.out H'.out HW.out).mono ?_
    rintro e w1 ⟨rfl, b1⟩
    have O1 := wl_new w1 b1
    go_wp2_with fail
    go_ret2
    rw [R.out]
    exact ⟨_, rfl, O1.out.1, O1.out.2⟩
  have HW := Lib.hid hw
  clear hw
  obtain ⟨ea, hea⟩ := SN.one
  have EA := Lib.hid hea
  clear hea
  cases hg : goodW (tiL l s)
  · have HG := Lib.hid hg
    have R := Lib.hid (tight_bad hg)
    clear hg
    go_enter Tryd.func10, Tryd.ntmps10
    go_wp2_with fail
    refine (implWin_is H.out H'.out HW.out).mono ?_
    rintro e w1 ⟨rfl, b1⟩
    have B1 := Lib.hid b1
    have E1 := Lib.hid ((b1.cell (cell_below EA.out)).trans EA.out)
    clear b1
    go_wp2_with fail
    refine (tightW_no (H.out.grow B1.out) (H'.out.grow B1.out) HW.out HG.out E1.out).mono ?_
    rintro e w2 ⟨rfl, b2⟩
    have B2 := Lib.hid (B1.out.trans (b2.mono B1.out.size))
    have e2 := (b2.cell (cell_below E1.out)).trans E1.out
    clear b2
    go_wp2_with fail
    refine (is_same ea _).mono ?_
    rintro e w3 ⟨rfl, rfl⟩
    have O1 := wl_new w3 B2.out
    go_wp2_with fail
    go_ret2
    rw [R.out]
    exact ⟨_, rfl, O1.out.1, O1.out.2⟩
  · have HG := Lib.hid hg
    have R := Lib.hid (tight_good HW.out hg)
    clear hg
    go_enter Tryd.func10, Tryd.ntmps10
    go_wp2_with fail
    refine (implWin_is H.out H'.out HW.out).mono ?_
    rintro e w1 ⟨rfl, b1⟩
    have B1 := Lib.hid b1
    have E1 := Lib.hid ((b1.cell (cell_below EA.out)).trans EA.out)
    clear b1
    go_wp2_with fail
    refine (tightW_yes (H.out.grow B1.out) (H'.out.grow B1.out) HW.out HG.out E1.out).mono ?_
    rintro e w2 ⟨vt, rfl, o2, b2⟩
    have B2 := Lib.hid (B1.out.trans (b2.mono B1.out.size))
    have e2 := (b2.cell (cell_below E1.out)).trans E1.out
    have O2 := Lib.hid (o2.mono B1.out.size)
    clear b2 o2
    go_wp2_with fail
    refine (is_nil ea _).mono ?_
    rintro e w3 ⟨rfl, rfl⟩
    go_wp2_with fail
    go_ret2
    rw [R.out]
    exact ⟨_, rfl, O2.out, B2.out⟩

theorem chooseYoung_any (p : Wn) (w : World) :
    Calls Tryd.prog 31 #[.agg #[.int .i64 p.1, .int .i64 p.2]] w fun e w' => e = .returned (.int .i64 p.1) ∧ Below w.heap.size w w' := by
  obtain ⟨x, y⟩ := p
  go_enter Tryd.func31, Tryd.ntmps31
  go_wp2_with fail
  go_returns
  exact ⟨rfl, by go_grown⟩
set_option maxRecDepth 100000 in
set_option maxHeartbeats 3200000 in
theorem tightAgesYoung_any {w : World} (SN : Sent w) {v u : Value} {l s : List Pc} (h : Row w v l) (k : Row w u s) :
    Calls Tryd.prog 30 #[v, u, .func (.func 31) #[] #[]] w fun e w' => ILB w (youngOf l s) e w' := by
  have H := Lib.hid h; have H' := Lib.hid k; have S0 := Lib.hid SN
  clear h k SN
  obtain ⟨t, ht⟩ : ∃ t, (tightOf l s).getD [] = t := ⟨_, rfl⟩
  obtain ⟨b, hb⟩ : ∃ b, (tightOf l s).isSome = b := ⟨_, rfl⟩
  have t12 : t.length ≤ 12 := by rw [← ht]; exact tight_len
  have HT := Lib.hid ht; have HB := Lib.hid hb
  have R : Hid ((youngOf l s).getD [] = t.map Prod.fst ∧ (youngOf l s).isSome = b) := Lib.hid (by
    rw [← ht, ← hb]; unfold youngOf; cases tightOf l s <;> exact ⟨rfl, rfl⟩)
  clear ht hb
  go_enter Tryd.func30, Tryd.ntmps30
  go_wp2_with fail
  refine (implTightW_any (S0.out.grow (by go_grown)) (H.out.grow (by go_grown)) (H'.out.grow (by go_grown))).mono ?_
  rintro e w1 ⟨vt, rfl, o1, b1⟩
  rw [HT.out] at o1
  rw [HB.out]
  obtain ⟨at1, ct, rfl, t1, t2, t3⟩ := o1.row.parts
  have LT := Lib.hid t3
  unfold maxLen at t2
  have hz0 := b1.size
  have B0 := Lib.hid b1
  have A0 := Lib.hid ((Below.refl w1.heap.size w1).alloc (Nat.le_refl _) (.cells #[] 3))
  clear o1 b1 t3
  go_wp2_with fail
  go_loopg [10, 22] t.length (fun k y x wr => ∃ j : Nat, x = .int .i64 j ∧ j + k = t.length ∧ IOwn wr w1.heap.size y ((t.take j).map Prod.fst) ∧ Below w1.heap.size w1 wr)
  case atStart => exact ⟨0, rfl, by omega, iown_new (Nat.le_refl _), A0.out⟩
  case round =>
    obtain ⟨j, rfl, hk, ho, ha⟩ := hrel
    have K := Lib.hid hk; have O := Lib.hid ho; have A := Lib.hid ha
    have hjl : j ≤ t.length := by omega
    clear hk ho ha A0
    by_cases hlt : j < t.length
    · obtain ⟨g, o, rfl, d1, d2⟩ := lies_cell LT.out j hlt
      have e1 := (A.out.cell (cell_below d1)).trans d1
      have e2 := (A.out.cell (cell_below d2)).trans d2
      have i0 : (0 : Int) ≤ (j : Int) := by omega
      have i1 : (j : Int) < (t.length : Int) := by omega
      have ST : Hid ((t.take j).map Prod.fst ++ [t[j].1] = (t.take (j + 1)).map Prod.fst) := Lib.hid (by rw [List.take_succ_eq_append_getElem hlt, List.map_append]; rfl)
      obtain ⟨x, hx⟩ : ∃ x, t[j] = x := ⟨_, rfl⟩
      rw [hx] at e1 e2 ST
      obtain ⟨x1, x2⟩ := x
      have lm : ((t.take j).map Prod.fst).length ≤ 12 := by simp; omega
      have hza := A.out.size
      clear d1 d2 hx
      go_wp2_with fail
      refine (chooseYoung_any (x1, x2) _).mono ?_
      rintro e w5 ⟨rfl, b5⟩
      have B5 : Hid (Below wr.heap.size wr w5) := Lib.hid (Below.trans (by go_grown) (b5.mono (by go_size)))
      have O5 := Lib.hid (O.out.grow B5.out)
      have A5 := Lib.hid (A.out.trans (B5.out.mono hza))
      have hz5 := A5.out.size
      have n1 := new_one w5 (.int .i64 x1) 3
      have N1 := Lib.hid n1
      have BW := Lib.hid ((Below.refl w5.heap.size w5).alloc (Nat.le_refl _) (.cells #[.int .i64 x1] 3))
      clear b5 n1
      go_wp2_with (at_builtin; refine iappend_one inT rfl _ _ rfl (B := w1.heap.size) _ _ rfl (O5.out.grow BW.out) ⟨w5.heap.size, 0, none⟩ x1 rfl N1.out (by omega) (by simp; omega) ?_; intro v8 w8 hown8 hg8)
      rw [ST.out] at hown8
      have O8 := Lib.hid hown8
      have A8 := Lib.hid (A5.out.trans ((BW.out.mono hz5).trans ((O5.out.grow BW.out).below hg8 (by simp; omega))))
      clear hown8 hg8
      go_wp2_with fail
      go_roundg (gk - 1)
      case measure => have := K.out; omega
      case rel => exact ⟨j + 1, by go_num, by have := K.out; omega, O8.out, A8.out⟩
    · have hj : j = t.length := by omega
      go_wp2_with fail
      go_ret2
      refine ⟨_, by rw [R.out.2]; rfl, ?_, B0.out.trans (A.out.mono hz0)⟩
      rw [R.out.1]
      have := O.out
      rw [hj, List.take_length] at this
      exact this.mono hz0
set_option maxHeartbeats 1600000 in
theorem implYoung_any {w : World} (SN : Sent w) {v u : Value} {l s : List Pc} (h : Row w v l) (k : Row w u s) :
    Calls Tryd.prog 15 #[v, u] w fun e w' => ILB w (youngOf l s) e w' := by
  have H := Lib.hid h; have H' := Lib.hid k; have S0 := Lib.hid SN
  clear h k SN
  go_enter Tryd.func15, Tryd.ntmps15
  go_wp2_with fail
  refine (tightAgesYoung_any S0.out H.out H'.out).mono ?_
  rintro e w1 ⟨vt, rfl, o1, b1⟩
  have O1 := Lib.hid o1; have B1 := Lib.hid b1
  clear o1 b1
  go_wp2_with fail
  go_ret2
  exact ⟨_, rfl, O1.out, B1.out⟩

theorem chooseOld_any (p : Wn) (w : World) :
    Calls Tryd.prog 32 #[.agg #[.int .i64 p.1, .int .i64 p.2]] w fun e w' => e = .returned (.int .i64 p.2) ∧ Below w.heap.size w w' := by
  obtain ⟨x, y⟩ := p
  go_enter Tryd.func32, Tryd.ntmps32
  go_wp2_with fail
  go_returns
  exact ⟨rfl, by go_grown⟩
set_option maxRecDepth 100000 in
set_option maxHeartbeats 3200000 in
theorem tightAgesOld_any {w : World} (SN : Sent w) {v u : Value} {l s : List Pc} (h : Row w v l) (k : Row w u s) :
    Calls Tryd.prog 30 #[v, u, .func (.func 32) #[] #[]] w fun e w' => ILB w (oldOf l s) e w' := by
  have H := Lib.hid h; have H' := Lib.hid k; have S0 := Lib.hid SN
  clear h k SN
  obtain ⟨t, ht⟩ : ∃ t, (tightOf l s).getD [] = t := ⟨_, rfl⟩
  obtain ⟨b, hb⟩ : ∃ b, (tightOf l s).isSome = b := ⟨_, rfl⟩
  have t12 : t.length ≤ 12 := by rw [← ht]; exact tight_len
  have HT := Lib.hid ht; have HB := Lib.hid hb
  have R : Hid ((oldOf l s).getD [] = t.map Prod.snd ∧ (oldOf l s).isSome = b) := Lib.hid (by
    rw [← ht, ← hb]; unfold oldOf; cases tightOf l s <;> exact ⟨rfl, rfl⟩)
  clear ht hb
  go_enter Tryd.func30, Tryd.ntmps30
  go_wp2_with fail
  refine (implTightW_any (S0.out.grow (by go_grown)) (H.out.grow (by go_grown)) (H'.out.grow (by go_grown))).mono ?_
  rintro e w1 ⟨vt, rfl, o1, b1⟩
  rw [HT.out] at o1
  rw [HB.out]
  obtain ⟨at1, ct, rfl, t1, t2, t3⟩ := o1.row.parts
  have LT := Lib.hid t3
  unfold maxLen at t2
  have hz0 := b1.size
  have B0 := Lib.hid b1
  have A0 := Lib.hid ((Below.refl w1.heap.size w1).alloc (Nat.le_refl _) (.cells #[] 3))
  clear o1 b1 t3
  go_wp2_with fail
  go_loopg [10, 22] t.length (fun k y x wr => ∃ j : Nat, x = .int .i64 j ∧ j + k = t.length ∧ IOwn wr w1.heap.size y ((t.take j).map Prod.snd) ∧ Below w1.heap.size w1 wr)
  case atStart => exact ⟨0, rfl, by omega, iown_new (Nat.le_refl _), A0.out⟩
  case round =>
    obtain ⟨j, rfl, hk, ho, ha⟩ := hrel
    have K := Lib.hid hk; have O := Lib.hid ho; have A := Lib.hid ha
    have hjl : j ≤ t.length := by omega
    clear hk ho ha A0
    by_cases hlt : j < t.length
    · obtain ⟨g, o, rfl, d1, d2⟩ := lies_cell LT.out j hlt
      have e1 := (A.out.cell (cell_below d1)).trans d1
      have e2 := (A.out.cell (cell_below d2)).trans d2
      have i0 : (0 : Int) ≤ (j : Int) := by omega
      have i1 : (j : Int) < (t.length : Int) := by omega
      have ST : Hid ((t.take j).map Prod.snd ++ [t[j].2] = (t.take (j + 1)).map Prod.snd) := Lib.hid (by rw [List.take_succ_eq_append_getElem hlt, List.map_append]; rfl)
      obtain ⟨x, hx⟩ : ∃ x, t[j] = x := ⟨_, rfl⟩
      rw [hx] at e1 e2 ST
      obtain ⟨x1, x2⟩ := x
      have lm : ((t.take j).map Prod.snd).length ≤ 12 := by simp; omega
      have hza := A.out.size
      clear d1 d2 hx
      go_wp2_with fail
      refine (chooseOld_any (x1, x2) _).mono ?_
      rintro e w5 ⟨rfl, b5⟩
      have B5 : Hid (Below wr.heap.size wr w5) := Lib.hid (Below.trans (by go_grown) (b5.mono (by go_size)))
      have O5 := Lib.hid (O.out.grow B5.out)
      have A5 := Lib.hid (A.out.trans (B5.out.mono hza))
      have hz5 := A5.out.size
      have n1 := new_one w5 (.int .i64 x2) 3
      have N1 := Lib.hid n1
      have BW := Lib.hid ((Below.refl w5.heap.size w5).alloc (Nat.le_refl _) (.cells #[.int .i64 x2] 3))
      clear b5 n1
      go_wp2_with (at_builtin; refine iappend_one inT rfl _ _ rfl (B := w1.heap.size) _ _ rfl (O5.out.grow BW.out) ⟨w5.heap.size, 0, none⟩ x2 rfl N1.out (by omega) (by simp; omega) ?_; intro v8 w8 hown8 hg8)
      rw [ST.out] at hown8
      have O8 := Lib.hid hown8
      have A8 := Lib.hid (A5.out.trans ((BW.out.mono hz5).trans ((O5.out.grow BW.out).below hg8 (by simp; omega))))
      clear hown8 hg8
      go_wp2_with fail
      go_roundg (gk - 1)
      case measure => have := K.out; omega
      case rel => exact ⟨j + 1, by go_num, by have := K.out; omega, O8.out, A8.out⟩
    · have hj : j = t.length := by omega
      go_wp2_with fail
      go_ret2
      refine ⟨_, by rw [R.out.2]; rfl, ?_, B0.out.trans (A.out.mono hz0)⟩
      rw [R.out.1]
      have := O.out
      rw [hj, List.take_length] at this
      exact this.mono hz0
set_option maxHeartbeats 1600000 in
theorem implOldW_any {w : World} (SN : Sent w) {v u : Value} {l s : List Pc} (h : Row w v l) (k : Row w u s) :
    Calls Tryd.prog 20 #[v, u] w fun e w' => ILB w (oldOf l s) e w' := by
  have H := Lib.hid h; have H' := Lib.hid k; have S0 := Lib.hid SN
  clear h k SN
  go_enter Tryd.func20, Tryd.ntmps20
  go_wp2_with fail
  refine (tightAgesOld_any S0.out H.out H'.out).mono ?_
  rintro e w1 ⟨vt, rfl, o1, b1⟩
  have O1 := Lib.hid o1; have B1 := Lib.hid b1
  clear o1 b1
  go_wp2_with fail
  go_ret2
  exact ⟨_, rfl, O1.out, B1.out⟩

set_option maxRecDepth 100000 in
set_option maxHeartbeats 3200000 in
theorem implWide_any {w : World} (SN : Sent w) {v u : Value} {l s : List Pc} (h : Row w v l) (k : Row w u s) :
    Calls Tryd.prog 22 #[v, u] w fun e w' => Val w (.int .i64 (wideOf l s)) e w' := by
  have H := Lib.hid h; have H' := Lib.hid k; have S0 := Lib.hid SN
  clear h k SN
  cases hc : tightOf l s with
  | none =>
    have HC := Lib.hid hc
    have R : Hid (wideOf l s = -1) := Lib.hid (by unfold wideOf; rw [hc])
    clear hc
    go_enter Tryd.func22, Tryd.ntmps22
    go_wp2_with fail
    refine (implTightW_any S0.out H.out H'.out).mono ?_
    rintro e w1 ⟨vt, rfl, o1, b1⟩
    have B0 := Lib.hid b1
    rw [HC.out]
    clear o1 b1
    go_wp2_with fail
    go_ret
    exact ⟨by rw [R.out]; rfl, B0.out⟩
  | some t =>
    have HC := Lib.hid hc
    have R : Hid (wideOf l s = widths t) := Lib.hid (by unfold wideOf; rw [hc])
    have tg := tightOf_some hc
    have t12 : t.length ≤ 12 := by have := tg.len; have := tg.win.most; omega
    have WB := Lib.hid (widths_bd (t := t) fun i hi => tg.range (by rw [← tg.len]; exact hi))
    have RG : Hid (∀ i (h : i < t.length), 0 ≤ t[i].1 ∧ t[i].1 ≤ t[i].2 ∧ t[i].2 ≤ 100000) := Lib.hid (fun i hi => by have := tg.range (i := i) (by rw [← tg.len]; exact hi); rwa [gW_get hi] at this)
    clear hc tg
    go_enter Tryd.func22, Tryd.ntmps22
    go_wp2_with fail
    refine (implTightW_any S0.out H.out H'.out).mono ?_
    rintro e w1 ⟨vt, rfl, o1, b1⟩
    rw [HC.out] at o1 ⊢
    simp only [Option.getD_some] at o1
    obtain ⟨at1, ct, rfl, t1, t2, t3⟩ := o1.row.parts
    have LT := Lib.hid t3
    unfold maxLen at t2
    have B0 := Lib.hid b1
    have hz0 := b1.size
    clear o1 b1 t3
    go_wp2_with fail
    go_loopg [7, 20] t.length (fun k y x wr => ∃ (j : Nat) (n : Int), y = .int .i64 n ∧ x = .int .i64 j ∧ j + k = t.length ∧ widths (t.take j) = n ∧ Below w1.heap.size w1 wr)
    case atStart => exact ⟨0, 0, rfl, rfl, by omega, rfl, Below.refl _ _⟩
    case round =>
      obtain ⟨j, n, rfl, rfl, hk, hn, ha⟩ := hrel
      have K := Lib.hid hk; have N := Lib.hid hn; have A := Lib.hid ha
      have hjl : j ≤ t.length := by omega
      have nb := WB.out j hjl
      rw [hn] at nb
      clear hk hn ha
      by_cases hlt : j < t.length
      · obtain ⟨g, o, rfl, d1, d2⟩ := lies_cell LT.out j hlt
        have e1 := (A.out.cell (cell_below d1)).trans d1
        have e2 := (A.out.cell (cell_below d2)).trans d2
        have i0 : (0 : Int) ≤ (j : Int) := by omega
        have i1 : (j : Int) < (t.length : Int) := by omega
        have ST := widths_take hlt
        have rg := RG.out j hlt
        obtain ⟨x, hx⟩ : ∃ x, t[j] = x := ⟨_, rfl⟩
        rw [hx] at e1 e2 ST rg
        rw [N.out] at ST
        obtain ⟨x1, x2⟩ := x
        simp only at rg
        have ST : Hid (widths (t.take (j + 1)) = n + (x2 - x1)) := Lib.hid (by rw [ST]; simp only; omega)
        have s1 : IntKind.i64.wrap (x2 - x1) = x2 - x1 := IntWalk.i64_in _ (by omega)
        have s2 : IntKind.i64.wrap (n + (x2 - x1)) = n + (x2 - x1) := IntWalk.i64_in _ (by omega)
        clear d1 d2 hx
        go_wp2_with fail
        go_roundg (gk - 1)
        case measure => have := K.out; omega
        case rel => exact ⟨j + 1, n + (x2 - x1), by first | rfl | go_num, by go_num, by have := K.out; omega, ST.out, A.out.alloc A.out.size _⟩
      · have hj : j = t.length := by omega
        have E : Hid (widths t = n) := Lib.hid (by have := N.out; rwa [hj, List.take_length] at this)
        go_wp2_with fail
        go_ret
        exact ⟨by rw [R.out, E.out]; rfl, B0.out.trans (A.out.mono hz0)⟩
end Go.Proofs.YtanfalkpmmkklacDoor
