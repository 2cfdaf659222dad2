/- The contracts of the model's functions on windows, third part: ages that fit, the least and the greatest ones, what is left. -/
import Derived.Test.YtanfalkpmmkklaaDoorWinSpec2
import Derived.Test.YtanfalkpmmkklaaDoorGrw
namespace Go.Proofs.YtanfalkpmmkklaaDoor
open Go.RowKit

/-- A list of numbers of the call's own, and whether there is one. -/
def ILB (w : World) (o : Option (List Int)) (e : Ending) (w' : World) : Prop :=
  ∃ v, e = .returned (.tuple #[v, .bool o.isSome]) ∧ IOwn w' w.heap.size v (o.getD []) ∧ Below w.heap.size w w'
theorem inT : IntT 24 := Tryd.underlying24
theorem inW_in (w : Wn) (x : Int) : inW w x = isIn x w.1 w.2 := by
  rw [Bool.eq_iff_iff]; simp only [inW, isIn, Bool.and_eq_true, decide_eq_true_eq]
def chkW (l s : List Wn) (a : List Int) (i : Nat) : Bool := inW (gW l i) (gI a i) && (i == 0 || inW (gW s (i - 1)) (gI a i - gI a (i - 1)))
theorem fitB_chk (l s : List Wn) (a : List Int) : fitB l s a = (isWin l s && decide (a.length = l.length) && (List.range l.length).all (chkW l s a)) := rfl
theorem chk_all {l s : List Wn} {a : List Int} (hw : isWin l s = true) (hl : a.length = l.length) (h : ∀ i, i < l.length → chkW l s a i = true) : fitB l s a = true := by
  rw [fitB_chk, hw, decide_eq_true hl]
  simp only [Bool.true_and, List.all_eq_true, List.mem_range]
  exact h
theorem chk_not {l s : List Wn} {a : List Int} {i : Nat} (hi : i < l.length) (h : chkW l s a i = false) : fitB l s a = false := by
  rw [fitB_chk]
  have : (List.range l.length).all (chkW l s a) = false := by
    cases c : (List.range l.length).all (chkW l s a)
    · rfl
    · rw [List.all_eq_true] at c
      have := c i (List.mem_range.2 hi); rw [h] at this; cases this
  rw [this, Bool.and_false]
theorem fit_invalid {l s : List Wn} {a : List Int} (h : isWin l s = false ∨ a.length ≠ l.length) : fitB l s a = false := by
  rw [fitB_chk]; rcases h with h | h
  · rw [h]; rfl
  · rw [decide_eq_false h]; simp
set_option maxRecDepth 100000 in
set_option maxHeartbeats 3200000 in
theorem specFitW_any {w : World} {v u x : Value} {l s : List Pc} {a : List Int} (h : Row w v l) (k : Row w u s) (hx : IRow w x a) :
    Calls Tryd.prog 13 #[v, u, x] w fun e w' => Val w (.bool (fitB l s a)) e w' := by
  obtain ⟨pl, cl, rfl, h1, h2⟩ := h.len
  obtain ⟨ps, cs, rfl, k1, k2⟩ := k.len
  obtain ⟨pa, ca, rfl, a1, a2⟩ := hx.len
  have H := Lib.hid h; have H' := Lib.hid k; have HA := Lib.hid hx
  unfold maxLen at h2 k2 a2
  clear h k hx
  cases hw : isWin l s
  · have HW := Lib.hid hw
    have R := Lib.hid (fit_invalid (a := a) (.inl hw))
    clear hw
    go_enter Tryd.func13, Tryd.ntmps13
    go_wp2_with fail
    refine (winS_is H.out H'.out HW.out).mono ?_
    rintro e w1 ⟨rfl, b1⟩
    go_wp2_with fail
    go_ret
    exact ⟨by rw [R.out]; rfl, b1⟩
  have HW := Lib.hid hw
  have W := Lib.hid (isWin_iff.1 hw)
  have sl := W.out.len
  by_cases hl : (a.length : Int) = (l.length : Int)
  case neg =>
    have R := Lib.hid (fit_invalid (l := l) (s := s) (a := a) (.inr (by omega)))
    have hl2 : ((a.length : Int) != (l.length : Int)) = true := by simpa using hl
    clear hw hl
    go_enter Tryd.func13, Tryd.ntmps13
    go_wp2_with fail
    refine (winS_is H.out H'.out HW.out).mono ?_
    rintro e w1 ⟨rfl, b1⟩
    go_wp2_with fail
    go_ret
    exact ⟨by rw [R.out]; rfl, b1⟩
  have hl2 : ((a.length : Int) != (l.length : Int)) = false := by simpa using hl
  have HL : Hid (a.length = l.length) := Lib.hid (by omega)
  clear hw hl
  go_enter Tryd.func13, Tryd.ntmps13
  go_wp2_with fail
  refine (winS_is H.out H'.out HW.out).mono ?_
  rintro e w1 ⟨rfl, b1⟩
  have B1 := Lib.hid b1
  clear b1
  go_wp2_with fail
  go_loopg [7] a.length (fun k x wr => ∃ j : Nat, x = .int .i64 j ∧ j + k = a.length ∧ (∀ i, i < j → chkW l s a i = true) ∧ Below w.heap.size w wr)
  case atStart => exact ⟨0, rfl, by omega, fun i hi => by omega, B1.out⟩
  case round =>
    obtain ⟨j, rfl, hk, hs, hb⟩ := hrel
    have K := Lib.hid hk; have S := Lib.hid hs; have B := Lib.hid hb
    have hjl : j ≤ a.length := by omega
    clear hk hs hb
    by_cases hlt : j < a.length
    · have hjL : j < l.length := by have := HL.out; omega
      obtain ⟨ga, oa, c1, e1, _, _⟩ := HA.out.known (by omega)
      simp only [Value.slice.injEq, true_and] at e1
      obtain ⟨rfl, rfl⟩ := e1
      obtain ⟨gl, ol, c2, e2, _, _⟩ := H.out.known (by omega)
      simp only [Value.slice.injEq, true_and] at e2
      obtain ⟨rfl, rfl⟩ := e2
      have d1 := HA.out.cells j hlt
      obtain ⟨d2, d3⟩ := H.out.cells j hjL
      have y1 := (B.out.cell (cell_below d1)).trans d1
      have y2 := (B.out.cell (cell_below d2)).trans d2
      have y3 := (B.out.cell (cell_below d3)).trans d3
      have js0 : (0 : Int) ≤ (j : Int) := by omega
      have js1 : (j : Int) < (a.length : Int) := by omega
      have js2 : (j : Int) < (l.length : Int) := by omega
      have CK : Hid (chkW l s a j = (inW (gW l j) (gI a j) && (j == 0 || inW (gW s (j - 1)) (gI a j - gI a (j - 1))))) := Lib.hid rfl
      have gi := gI_get hlt
      have gw := gW_get hjL
      obtain ⟨x, hx⟩ : ∃ x, a[j] = x := ⟨_, rfl⟩
      obtain ⟨p, hp⟩ : ∃ p, l[j] = p := ⟨_, rfl⟩
      rw [hx] at y1 gi
      rw [hp] at y2 y3 gw
      rw [gi, gw] at CK
      have okp := W.out.okl j hjL
      rw [gw] at okp
      have GI := Lib.hid gi
      obtain ⟨p1, p2⟩ := p
      rw [inW_in] at CK
      simp only at okp
      have D1 : Hid (w.cell? ⟨ga, oa + j, none⟩ = some (.int .i64 x)) := Lib.hid (by rw [← hx]; exact d1)
      clear d1 d2 d3 hx hp gi gw
      cases hin : isIn x p1 p2
      · have HI := Lib.hid hin
        have R : Hid (fitB l s a = false) := Lib.hid (chk_not hjL (by rw [CK.out]; simp only; rw [hin]; rfl))
        clear hin
        go_wp2_with fail
        go_quiet ((go_at_call 30; refine Calls.quiet_of_same ((in_is HI.out _).mono fun _ _ h => ⟨h.1, h.2.symm⟩)))
        go_wp2_with fail
        go_ret
        exact ⟨by rw [R.out]; rfl, below_drews B.out _⟩
      have HI := Lib.hid hin
      have xb : p1 ≤ x ∧ x ≤ p2 := by simpa [isIn] using hin
      have CK2 : Hid (chkW l s a j = (j == 0 || inW (gW s (j - 1)) (x - gI a (j - 1)))) := Lib.hid (by rw [CK.out]; simp only; rw [hin]; rfl)
      clear hin CK
      cases j with
      | zero =>
        have S1 : Hid (∀ i, i < 0 + 1 → chkW l s a i = true) := Lib.hid (fun i hi => by
          obtain rfl : i = 0 := by omega
          rw [CK2.out]; rfl)
        simp only [Nat.zero_mul, Nat.add_zero] at y1 y2 y3
        go_wp2_with fail
        go_quiet ((go_at_call 30; refine Calls.quiet_of_same ((in_is HI.out _).mono fun _ _ h => ⟨h.1, h.2.symm⟩)))
        go_wp2_with fail
        go_quiet (fail)
        go_wp2_with fail
        go_roundg (gk - 1)
        case measure => have := K.out; omega
        case rel => exact ⟨1, by go_num, by have := K.out; omega, S1.out, below_drews B.out _⟩
      | succ j =>
        have hjs : j < s.length := by omega
        obtain ⟨gs, os, c3, e3, _, _⟩ := H'.out.known (by omega)
        simp only [Value.slice.injEq, true_and] at e3
        obtain ⟨rfl, rfl⟩ := e3
        have d4 := HA.out.cells j (by omega)
        obtain ⟨d5, d6⟩ := H'.out.cells j hjs
        have ck0 := S.out j (by omega)
        simp only [chkW, Bool.and_eq_true] at ck0
        have ok0 := W.out.okl j (by omega)
        have in0 := ck0.1
        simp only [inW, Bool.and_eq_true, decide_eq_true_eq] at in0
        have gi := gI_get (show j < a.length by omega)
        have gw := gW_get hjs
        obtain ⟨y, hy⟩ : ∃ y, a[j]'(by omega) = y := ⟨_, rfl⟩
        obtain ⟨q, hq⟩ : ∃ q, s[j] = q := ⟨_, rfl⟩
        rw [hy] at d4 gi
        rw [hq] at d5 d6 gw
        simp only [Nat.add_sub_cancel] at CK2
        rw [gi, gw, inW_in] at CK2
        rw [gi] at in0
        obtain ⟨q1, q2⟩ := q
        have wx : IntKind.i64.wrap (x - y) = x - y := IntWalk.i64_in _ (by omega)
        have s1 : IntKind.i64.wrap ((j : Int) + 1 - 1) = (j : Int) := by rw [show (j : Int) + 1 - 1 = j by omega]; exact IntWalk.i64_in _ (by omega)
        have s2 : IntKind.i64.wrap (j : Int) = (j : Int) := IntWalk.i64_in _ (by omega)
        have s3 : (0 : Int) ≤ (j : Int) := Int.natCast_nonneg _
        have s4 : (j : Int) < (a.length : Int) := by omega
        have s4' : (j : Int) < (s.length : Int) := by omega
        have s5 : (0 : Int) ≤ (j : Int) + 1 := by omega
        have s6 : (j : Int) + 1 < (l.length : Int) := by omega
        have s6' : (j : Int) + 1 < (a.length : Int) := by omega
        have s7 : ((j : Int) + 1).toNat = j + 1 := by omega
        have s8 : (0 : Int) < (j : Int) + 1 := by omega
        have D4 := Lib.hid d4; have D5 := Lib.hid d5; have D6 := Lib.hid d6
        clear d4 d5 d6 hy hq gi gw ck0 ok0 in0 okp xb
        cases hst : isIn (x - y) q1 q2
        · have HS := Lib.hid hst
          have R : Hid (fitB l s a = false) := Lib.hid (chk_not hjL (by rw [CK2.out]; simp only; rw [hst]; rfl))
          clear hst
          go_wp2_with fail
          go_quiet ((go_at_call 30; refine Calls.quiet_of_same ((in_is HI.out _).mono fun _ _ h => ⟨h.1, h.2.symm⟩)))
          replace B := Lib.hid (below_drews B.out nq)
          obtain ⟨w7, hw7⟩ : ∃ x, wr.drewN nq = x := ⟨_, rfl⟩
          simp only [hw7] at B ⊢
          clear hw7 y1 y2 y3
          have y1 := (B.out.cell (cell_below D1.out)).trans D1.out
          have y4 := (B.out.cell (cell_below D4.out)).trans D4.out
          have y5 := (B.out.cell (cell_below D5.out)).trans D5.out
          have y6 := (B.out.cell (cell_below D6.out)).trans D6.out
          go_wp2_with fail
          go_quiet ((go_at_call 30; refine Calls.quiet_of_same ((in_is HS.out _).mono fun _ _ h => ⟨h.1, h.2.symm⟩)))
          go_wp2_with fail
          go_ret
          exact ⟨by rw [R.out]; rfl, below_drews B.out _⟩
        · have HS := Lib.hid hst
          have S1 : Hid (∀ i, i < j + 1 + 1 → chkW l s a i = true) := Lib.hid (fun i hi => by
            rcases Nat.lt_or_ge i (j + 1) with c | c
            · exact S.out i c
            · obtain rfl : i = j + 1 := by omega
              rw [CK2.out]; simp only; rw [hst]; simp)
          clear hst
          go_wp2_with fail
          go_quiet ((go_at_call 30; refine Calls.quiet_of_same ((in_is HI.out _).mono fun _ _ h => ⟨h.1, h.2.symm⟩)))
          replace B := Lib.hid (below_drews B.out nq)
          obtain ⟨w7, hw7⟩ : ∃ x, wr.drewN nq = x := ⟨_, rfl⟩
          simp only [hw7] at B ⊢
          clear hw7 y1 y2 y3
          have y1 := (B.out.cell (cell_below D1.out)).trans D1.out
          have y4 := (B.out.cell (cell_below D4.out)).trans D4.out
          have y5 := (B.out.cell (cell_below D5.out)).trans D5.out
          have y6 := (B.out.cell (cell_below D6.out)).trans D6.out
          go_wp2_with fail
          go_quiet ((go_at_call 30; refine Calls.quiet_of_same ((in_is HS.out _).mono fun _ _ h => ⟨h.1, h.2.symm⟩)))
          go_wp2_with fail
          go_roundg (gk - 1)
          case measure => have := K.out; omega
          case rel => exact ⟨j + 2, by go_num, by have := K.out; omega, S1.out, below_drews B.out _⟩
    · have R : Hid (fitB l s a = true) := Lib.hid (chk_all HW.out HL.out fun i hi => S.out i (by have := HL.out; omega))
      have jl : ¬ (j : Int) < (a.length : Int) := by omega
      go_wp2_with fail
      go_ret
      exact ⟨by rw [R.out]; rfl, B.out⟩
theorem tight_len {l s : List Wn} : ((tightOf l s).getD []).length ≤ 12 := by
  cases c : tightOf l s with
  | none => simp
  | some t => have := (tightOf_some c).len; have := (tightOf_some c).win.most; simp; omega
set_option maxRecDepth 100000 in
set_option maxHeartbeats 1600000 in
theorem specYoung_any {w : World} {v u : Value} {l s : List Pc} (h : Row w v l) (k : Row w u s) :
    Calls Tryd.prog 22 #[v, u] w fun e w' => ILB w (youngOf l s) e w' := by
  have H := Lib.hid h; have H' := Lib.hid k
  clear h k
  obtain ⟨t, ht⟩ : ∃ t, (tightOf l s).getD [] = t := ⟨_, rfl⟩
  obtain ⟨b, hb⟩ : ∃ b, (tightOf l s).isSome = b := ⟨_, rfl⟩
  have t12 : t.length ≤ 12 := by rw [← ht]; exact tight_len
  have HT := Lib.hid ht; have HB := Lib.hid hb
  have R : Hid ((youngOf l s).getD [] = t.map Prod.fst ∧ (youngOf l s).isSome = b) := Lib.hid (by
    rw [← ht, ← hb]; unfold youngOf; cases tightOf l s <;> exact ⟨rfl, rfl⟩)
  clear ht hb
  go_enter Tryd.func22, Tryd.ntmps22
  go_wp2_with fail
  refine (specTight_any H.out H'.out).mono ?_
  rintro e w1 ⟨vt, rfl, o1, b1⟩
  rw [HT.out] at o1
  rw [HB.out]
  obtain ⟨at1, ct, rfl, t1, t2, t3⟩ := o1.row.parts
  have LT := Lib.hid t3
  unfold maxLen at t2
  have hz0 := b1.size
  have O0 := Lib.hid (iown_new (w := w1) hz0)
  have B0 := Lib.hid b1
  have A0 := Lib.hid ((Below.refl w1.heap.size w1).alloc (Nat.le_refl _) (.cells #[] 3))
  clear o1 b1 t3
  go_wp2_with fail
  -- the list that grows lies from w on, what is read lies below w1
  have G0 : Hid (Grw (w1.alloc (.cells #[] 3)) w1.heap.size (.slice (some ⟨w1.heap.size, 0, none⟩) 0 0) []) := Lib.hid (.inr (iown_new (Nat.le_refl _)))
  go_loopg [8, 9] t.length (fun k y x wr => ∃ j : Nat, x = .int .i64 j ∧ j + k = t.length ∧ IOwn wr w1.heap.size y ((t.take j).map Prod.fst) ∧ Below w1.heap.size w1 wr)
  case atStart => exact ⟨0, rfl, by omega, iown_new (Nat.le_refl _), A0.out⟩
  case round =>
    obtain ⟨j, rfl, hk, ho, ha⟩ := hrel
    have K := Lib.hid hk; have O := Lib.hid ho; have A := Lib.hid ha
    have hjl : j ≤ t.length := by omega
    clear hk ho ha O0 A0 G0
    by_cases hlt : j < t.length
    · obtain ⟨g, o, rfl, d1, d2⟩ := lies_cell LT.out j hlt
      have e1 := (A.out.cell (cell_below d1)).trans d1
      have e2 := (A.out.cell (cell_below d2)).trans d2
      have i0 : (0 : Int) ≤ (j : Int) := by omega
      have i1 : (j : Int) < (t.length : Int) := by omega
      have ST : Hid ((t.take j).map Prod.fst ++ [t[j].1] = (t.take (j + 1)).map Prod.fst) := Lib.hid (by rw [List.take_succ_eq_append_getElem hlt, List.map_append]; rfl)
      obtain ⟨x, hx⟩ : ∃ x, t[j] = x := ⟨_, rfl⟩
      rw [hx] at e1 e2 ST
      obtain ⟨x1, x2⟩ := x
      have n1 := new_one wr (.int .i64 x1) 3
      have N1 := Lib.hid n1
      have BW := Lib.hid ((Below.refl wr.heap.size wr).alloc (Nat.le_refl _) (.cells #[.int .i64 x1] 3))
      have hza := A.out.size
      have lm : ((t.take j).map Prod.fst).length ≤ 12 := by simp; omega
      clear d1 d2 hx n1
      go_wp2_with (at_builtin; refine iappend_one inT rfl _ _ rfl (B := w1.heap.size) _ _ rfl (O.out.grow BW.out) ⟨wr.heap.size, 0, none⟩ x1 rfl N1.out (by omega) (by simp; omega) ?_; intro v8 w8 hown8 hg8)
      rw [ST.out] at hown8
      have O8 := Lib.hid hown8
      have A8 := Lib.hid (A.out.trans ((BW.out.mono hza).trans ((O.out.grow BW.out).below hg8 (by simp; omega))))
      clear hown8 hg8
      go_wp2_with fail
      go_roundg (gk - 1)
      case measure => have := K.out; omega
      case rel => exact ⟨j + 1, by go_num, by have := K.out; omega, O8.out, A8.out⟩
    · have hj : j = t.length := by omega
      go_wp2_with fail
      go_ret2
      refine ⟨_, by rw [R.out.2]; rfl, ?_, B0.out.trans (A.out.mono hz0)⟩
      rw [R.out.1]
      have := O.out
      rw [hj, List.take_length] at this
      exact this.mono hz0
set_option maxRecDepth 100000 in
set_option maxHeartbeats 1600000 in
theorem specOldW_any {w : World} {v u : Value} {l s : List Pc} (h : Row w v l) (k : Row w u s) :
    Calls Tryd.prog 25 #[v, u] w fun e w' => ILB w (oldOf l s) e w' := by
  have H := Lib.hid h; have H' := Lib.hid k
  clear h k
  obtain ⟨t, ht⟩ : ∃ t, (tightOf l s).getD [] = t := ⟨_, rfl⟩
  obtain ⟨b, hb⟩ : ∃ b, (tightOf l s).isSome = b := ⟨_, rfl⟩
  have t12 : t.length ≤ 12 := by rw [← ht]; exact tight_len
  have HT := Lib.hid ht; have HB := Lib.hid hb
  have R : Hid ((oldOf l s).getD [] = t.map Prod.snd ∧ (oldOf l s).isSome = b) := Lib.hid (by
    rw [← ht, ← hb]; unfold oldOf; cases tightOf l s <;> exact ⟨rfl, rfl⟩)
  clear ht hb
  go_enter Tryd.func25, Tryd.ntmps25
  go_wp2_with fail
  refine (specTight_any H.out H'.out).mono ?_
  rintro e w1 ⟨vt, rfl, o1, b1⟩
  rw [HT.out] at o1
  rw [HB.out]
  obtain ⟨at1, ct, rfl, t1, t2, t3⟩ := o1.row.parts
  have LT := Lib.hid t3
  unfold maxLen at t2
  have hz0 := b1.size
  have O0 := Lib.hid (iown_new (w := w1) hz0)
  have B0 := Lib.hid b1
  have A0 := Lib.hid ((Below.refl w1.heap.size w1).alloc (Nat.le_refl _) (.cells #[] 3))
  clear o1 b1 t3
  go_wp2_with fail
  -- the list that grows lies from w on, what is read lies below w1
  have G0 : Hid (Grw (w1.alloc (.cells #[] 3)) w1.heap.size (.slice (some ⟨w1.heap.size, 0, none⟩) 0 0) []) := Lib.hid (.inr (iown_new (Nat.le_refl _)))
  go_loopg [8, 9] t.length (fun k y x wr => ∃ j : Nat, x = .int .i64 j ∧ j + k = t.length ∧ IOwn wr w1.heap.size y ((t.take j).map Prod.snd) ∧ Below w1.heap.size w1 wr)
  case atStart => exact ⟨0, rfl, by omega, iown_new (Nat.le_refl _), A0.out⟩
  case round =>
    obtain ⟨j, rfl, hk, ho, ha⟩ := hrel
    have K := Lib.hid hk; have O := Lib.hid ho; have A := Lib.hid ha
    have hjl : j ≤ t.length := by omega
    clear hk ho ha O0 A0 G0
    by_cases hlt : j < t.length
    · obtain ⟨g, o, rfl, d1, d2⟩ := lies_cell LT.out j hlt
      have e1 := (A.out.cell (cell_below d1)).trans d1
      have e2 := (A.out.cell (cell_below d2)).trans d2
      have i0 : (0 : Int) ≤ (j : Int) := by omega
      have i1 : (j : Int) < (t.length : Int) := by omega
      have ST : Hid ((t.take j).map Prod.snd ++ [t[j].2] = (t.take (j + 1)).map Prod.snd) := Lib.hid (by rw [List.take_succ_eq_append_getElem hlt, List.map_append]; rfl)
      obtain ⟨x, hx⟩ : ∃ x, t[j] = x := ⟨_, rfl⟩
      rw [hx] at e1 e2 ST
      obtain ⟨x1, x2⟩ := x
      have n1 := new_one wr (.int .i64 x2) 3
      have N1 := Lib.hid n1
      have BW := Lib.hid ((Below.refl wr.heap.size wr).alloc (Nat.le_refl _) (.cells #[.int .i64 x2] 3))
      have hza := A.out.size
      have lm : ((t.take j).map Prod.snd).length ≤ 12 := by simp; omega
      clear d1 d2 hx n1
      go_wp2_with (at_builtin; refine iappend_one inT rfl _ _ rfl (B := w1.heap.size) _ _ rfl (O.out.grow BW.out) ⟨wr.heap.size, 0, none⟩ x2 rfl N1.out (by omega) (by simp; omega) ?_; intro v8 w8 hown8 hg8)
      rw [ST.out] at hown8
      have O8 := Lib.hid hown8
      have A8 := Lib.hid (A.out.trans ((BW.out.mono hza).trans ((O.out.grow BW.out).below hg8 (by simp; omega))))
      clear hown8 hg8
      go_wp2_with fail
      go_roundg (gk - 1)
      case measure => have := K.out; omega
      case rel => exact ⟨j + 1, by go_num, by have := K.out; omega, O8.out, A8.out⟩
    · have hj : j = t.length := by omega
      go_wp2_with fail
      go_ret2
      refine ⟨_, by rw [R.out.2]; rfl, ?_, B0.out.trans (A.out.mono hz0)⟩
      rw [R.out.1]
      have := O.out
      rw [hj, List.take_length] at this
      exact this.mono hz0
end Go.Proofs.YtanfalkpmmkklaaDoor
