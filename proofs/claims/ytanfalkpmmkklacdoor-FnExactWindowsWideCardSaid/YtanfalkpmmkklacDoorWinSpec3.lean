/- The contracts of the model's functions on windows, third part: ages that fit, the least and the greatest ones, what is left. -/
import Derived.Test.YtanfalkpmmkklacDoorWinSpec2
import Derived.Test.YtanfalkpmmkklacDoorGrw
namespace Go.Proofs.YtanfalkpmmkklacDoor
open Go.RowKit

/-- A list of numbers of the call's own, and whether there is one. -/
def ILB (w : World) (o : Option (List Int)) (e : Ending) (w' : World) : Prop :=
  ∃ v, e = .returned (.tuple #[v, .bool o.isSome]) ∧ IOwn w' w.heap.size v (o.getD []) ∧ Below w.heap.size w w'
theorem inT : IntT 31 := Tryd.underlying31
theorem inW_in (w : Wn) (x : Int) : inW w x = isIn x w.1 w.2 := by
  rw [Bool.eq_iff_iff]; simp only [inW, isIn, Bool.and_eq_true, decide_eq_true_eq]
def chkW (l s : List Wn) (a : List Int) (i : Nat) : Bool := inW (gW l i) (gI a i) && (i == 0 || inW (gW s (i - 1)) (gI a i - gI a (i - 1)))
theorem fitB_chk (l s : List Wn) (a : List Int) : fitB l s a = (isWin l s && decide (a.length = l.length) && (List.range l.length).all (chkW l s a)) := rfl
theorem chk_all {l s : List Wn} {a : List Int} (hw : isWin l s = true) (hl : a.length = l.length) (h : ∀ i, i < l.length → chkW l s a i = true) : fitB l s a = true := by
  rw [fitB_chk, hw, decide_eq_true hl]
  simp only [Bool.true_and, List.all_eq_true, List.mem_range]
  exact h
theorem chk_not {l s : List Wn} {a : List Int} {i : Nat} (hi : i < l.length) (h : chkW l s a i = false) : fitB l s a = false := by
  rw [fitB_chk]
  have : (List.range l.length).all (chkW l s a) = false := by
    cases c : (List.range l.length).all (chkW l s a)
    · rfl
    · rw [List.all_eq_true] at c
      have := c i (List.mem_range.2 hi); rw [h] at this; cases this
  rw [this, Bool.and_false]
theorem fit_invalid {l s : List Wn} {a : List Int} (h : isWin l s = false ∨ a.length ≠ l.length) : fitB l s a = false := by
  rw [fitB_chk]; rcases h with h | h
  · rw [h]; rfl
  · rw [decide_eq_false h]; simp
theorem tight_len {l s : List Wn} : ((tightOf l s).getD []).length ≤ 12 := by
  cases c : tightOf l s with
  | none => simp
  | some t => have := (tightOf_some c).len; have := (tightOf_some c).win.most; simp; omega
set_option maxRecDepth 100000 in
set_option maxHeartbeats 1600000 in
theorem specYoung_any {w : World} {v u : Value} {l s : List Pc} (h : Row w v l) (k : Row w u s) :
    Calls Tryd.prog 14 #[v, u] w fun e w' => ILB w (youngOf l s) e w' := by
  have H := Lib.hid h; have H' := Lib.hid k
  clear h k
  obtain ⟨t, ht⟩ : ∃ t, (tightOf l s).getD [] = t := ⟨_, rfl⟩
  obtain ⟨b, hb⟩ : ∃ b, (tightOf l s).isSome = b := ⟨_, rfl⟩
  have t12 : t.length ≤ 12 := by rw [← ht]; exact tight_len
  have HT := Lib.hid ht; have HB := Lib.hid hb
  have R : Hid ((youngOf l s).getD [] = t.map Prod.fst ∧ (youngOf l s).isSome = b) := Lib.hid (by
    rw [← ht, ← hb]; unfold youngOf; cases tightOf l s <;> exact ⟨rfl, rfl⟩)
  clear ht hb
  go_enter Tryd.func14, Tryd.ntmps14
  go_wp2_with fail
  refine (specTight_any H.out H'.out).mono ?_
  rintro e w1 ⟨vt, rfl, o1, b1⟩
  rw [HT.out] at o1
  rw [HB.out]
  obtain ⟨at1, ct, rfl, t1, t2, t3⟩ := o1.row.parts
  have LT := Lib.hid t3
  unfold maxLen at t2
  have hz0 := b1.size
  have O0 := Lib.hid (iown_new (w := w1) hz0)
  have B0 := Lib.hid b1
  have A0 := Lib.hid ((Below.refl w1.heap.size w1).alloc (Nat.le_refl _) (.cells #[] 3))
  clear o1 b1 t3
  go_wp2_with fail
  -- the list that grows lies from w on, what is read lies below w1
  have G0 : Hid (Grw (w1.alloc (.cells #[] 3)) w1.heap.size (.slice (some ⟨w1.heap.size, 0, none⟩) 0 0) []) := Lib.hid (.inr (iown_new (Nat.le_refl _)))
  go_loopg [8, 9] t.length (fun k y x wr => ∃ j : Nat, x = .int .i64 j ∧ j + k = t.length ∧ IOwn wr w1.heap.size y ((t.take j).map Prod.fst) ∧ Below w1.heap.size w1 wr)
  case atStart => exact ⟨0, rfl, by omega, iown_new (Nat.le_refl _), A0.out⟩
  case round =>
    obtain ⟨j, rfl, hk, ho, ha⟩ := hrel
    have K := Lib.hid hk; have O := Lib.hid ho; have A := Lib.hid ha
    have hjl : j ≤ t.length := by omega
    clear hk ho ha O0 A0 G0
    by_cases hlt : j < t.length
    · obtain ⟨g, o, rfl, d1, d2⟩ := lies_cell LT.out j hlt
      have e1 := (A.out.cell (cell_below d1)).trans d1
      have e2 := (A.out.cell (cell_below d2)).trans d2
      have i0 : (0 : Int) ≤ (j : Int) := by omega
      have i1 : (j : Int) < (t.length : Int) := by omega
      have ST : Hid ((t.take j).map Prod.fst ++ [t[j].1] = (t.take (j + 1)).map Prod.fst) := Lib.hid (by rw [List.take_succ_eq_append_getElem hlt, List.map_append]; rfl)
      obtain ⟨x, hx⟩ : ∃ x, t[j] = x := ⟨_, rfl⟩
      rw [hx] at e1 e2 ST
      obtain ⟨x1, x2⟩ := x
      have n1 := new_one wr (.int .i64 x1) 3
      have N1 := Lib.hid n1
      have BW := Lib.hid ((Below.refl wr.heap.size wr).alloc (Nat.le_refl _) (.cells #[.int .i64 x1] 3))
      have hza := A.out.size
      have lm : ((t.take j).map Prod.fst).length ≤ 12 := by simp; omega
      clear d1 d2 hx n1
      go_wp2_with (at_builtin; refine iappend_one inT rfl _ _ rfl (B := w1.heap.size) _ _ rfl (O.out.grow BW.out) ⟨wr.heap.size, 0, none⟩ x1 rfl N1.out (by omega) (by simp; omega) ?_; intro v8 w8 hown8 hg8)
      rw [ST.out] at hown8
      have O8 := Lib.hid hown8
      have A8 := Lib.hid (A.out.trans ((BW.out.mono hza).trans ((O.out.grow BW.out).below hg8 (by simp; omega))))
      clear hown8 hg8
      go_wp2_with fail
      go_roundg (gk - 1)
      case measure => have := K.out; omega
      case rel => exact ⟨j + 1, by go_num, by have := K.out; omega, O8.out, A8.out⟩
    · have hj : j = t.length := by omega
      go_wp2_with fail
      go_ret2
      refine ⟨_, by rw [R.out.2]; rfl, ?_, B0.out.trans (A.out.mono hz0)⟩
      rw [R.out.1]
      have := O.out
      rw [hj, List.take_length] at this
      exact this.mono hz0
set_option maxRecDepth 100000 in
set_option maxHeartbeats 1600000 in
theorem specOldW_any {w : World} {v u : Value} {l s : List Pc} (h : Row w v l) (k : Row w u s) :
    Calls Tryd.prog 19 #[v, u] w fun e w' => ILB w (oldOf l s) e w' := by
  have H := Lib.hid h; have H' := Lib.hid k
  clear h k
  obtain ⟨t, ht⟩ : ∃ t, (tightOf l s).getD [] = t := ⟨_, rfl⟩
  obtain ⟨b, hb⟩ : ∃ b, (tightOf l s).isSome = b := ⟨_, rfl⟩
  have t12 : t.length ≤ 12 := by rw [← ht]; exact tight_len
  have HT := Lib.hid ht; have HB := Lib.hid hb
  have R : Hid ((oldOf l s).getD [] = t.map Prod.snd ∧ (oldOf l s).isSome = b) := Lib.hid (by
    rw [← ht, ← hb]; unfold oldOf; cases tightOf l s <;> exact ⟨rfl, rfl⟩)
  clear ht hb
  go_enter Tryd.func19, Tryd.ntmps19
  go_wp2_with fail
  refine (specTight_any H.out H'.out).mono ?_
  rintro e w1 ⟨vt, rfl, o1, b1⟩
  rw [HT.out] at o1
  rw [HB.out]
  obtain ⟨at1, ct, rfl, t1, t2, t3⟩ := o1.row.parts
  have LT := Lib.hid t3
  unfold maxLen at t2
  have hz0 := b1.size
  have O0 := Lib.hid (iown_new (w := w1) hz0)
  have B0 := Lib.hid b1
  have A0 := Lib.hid ((Below.refl w1.heap.size w1).alloc (Nat.le_refl _) (.cells #[] 3))
  clear o1 b1 t3
  go_wp2_with fail
  -- the list that grows lies from w on, what is read lies below w1
  have G0 : Hid (Grw (w1.alloc (.cells #[] 3)) w1.heap.size (.slice (some ⟨w1.heap.size, 0, none⟩) 0 0) []) := Lib.hid (.inr (iown_new (Nat.le_refl _)))
  go_loopg [8, 9] t.length (fun k y x wr => ∃ j : Nat, x = .int .i64 j ∧ j + k = t.length ∧ IOwn wr w1.heap.size y ((t.take j).map Prod.snd) ∧ Below w1.heap.size w1 wr)
  case atStart => exact ⟨0, rfl, by omega, iown_new (Nat.le_refl _), A0.out⟩
  case round =>
    obtain ⟨j, rfl, hk, ho, ha⟩ := hrel
    have K := Lib.hid hk; have O := Lib.hid ho; have A := Lib.hid ha
    have hjl : j ≤ t.length := by omega
    clear hk ho ha O0 A0 G0
    by_cases hlt : j < t.length
    · obtain ⟨g, o, rfl, d1, d2⟩ := lies_cell LT.out j hlt
      have e1 := (A.out.cell (cell_below d1)).trans d1
      have e2 := (A.out.cell (cell_below d2)).trans d2
      have i0 : (0 : Int) ≤ (j : Int) := by omega
      have i1 : (j : Int) < (t.length : Int) := by omega
      have ST : Hid ((t.take j).map Prod.snd ++ [t[j].2] = (t.take (j + 1)).map Prod.snd) := Lib.hid (by rw [List.take_succ_eq_append_getElem hlt, List.map_append]; rfl)
      obtain ⟨x, hx⟩ : ∃ x, t[j] = x := ⟨_, rfl⟩
      rw [hx] at e1 e2 ST
      obtain ⟨x1, x2⟩ := x
      have n1 := new_one wr (.int .i64 x2) 3
      have N1 := Lib.hid n1
      have BW := Lib.hid ((Below.refl wr.heap.size wr).alloc (Nat.le_refl _) (.cells #[.int .i64 x2] 3))
      have hza := A.out.size
      have lm : ((t.take j).map Prod.snd).length ≤ 12 := by simp; omega
      clear d1 d2 hx n1
      go_wp2_with (at_builtin; refine iappend_one inT rfl _ _ rfl (B := w1.heap.size) _ _ rfl (O.out.grow BW.out) ⟨wr.heap.size, 0, none⟩ x2 rfl N1.out (by omega) (by simp; omega) ?_; intro v8 w8 hown8 hg8)
      rw [ST.out] at hown8
      have O8 := Lib.hid hown8
      have A8 := Lib.hid (A.out.trans ((BW.out.mono hza).trans ((O.out.grow BW.out).below hg8 (by simp; omega))))
      clear hown8 hg8
      go_wp2_with fail
      go_roundg (gk - 1)
      case measure => have := K.out; omega
      case rel => exact ⟨j + 1, by go_num, by have := K.out; omega, O8.out, A8.out⟩
    · have hj : j = t.length := by omega
      go_wp2_with fail
      go_ret2
      refine ⟨_, by rw [R.out.2]; rfl, ?_, B0.out.trans (A.out.mono hz0)⟩
      rw [R.out.1]
      have := O.out
      rw [hj, List.take_length] at this
      exact this.mono hz0
theorem widths_take {t : List Wn} {j : Nat} (hj : j < t.length) : widths (t.take (j + 1)) = widths (t.take j) + t[j].2 - t[j].1 := by
  unfold widths
  rw [List.take_succ_eq_append_getElem hj, List.map_append, List.sum_append]
  simp only [List.map_cons, List.map_nil, List.sum_cons, List.sum_nil]; omega
theorem widths_bd {t : List Wn} (h : ∀ i, i < t.length → 0 ≤ (gW t i).1 ∧ (gW t i).1 ≤ (gW t i).2 ∧ (gW t i).2 ≤ 100000) : ∀ j, j ≤ t.length → 0 ≤ widths (t.take j) ∧ widths (t.take j) ≤ 100000 * (j : Int)
  | 0, _ => by simp [widths]
  | j + 1, hj => by
    have ih := widths_bd h j (by omega)
    have a := h j (by omega)
    rw [gW_get (show j < t.length by omega)] at a
    rw [widths_take (show j < t.length by omega)]; omega
set_option maxRecDepth 100000 in
set_option maxHeartbeats 1600000 in
theorem specWide_any {w : World} {v u : Value} {l s : List Pc} (h : Row w v l) (k : Row w u s) :
    Calls Tryd.prog 21 #[v, u] w fun e w' => Val w (.int .i64 (wideOf l s)) e w' := by
  have H := Lib.hid h; have H' := Lib.hid k
  clear h k
  cases hc : tightOf l s with
  | none =>
    have HC := Lib.hid hc
    have R : Hid (wideOf l s = -1) := Lib.hid (by unfold wideOf; rw [hc])
    clear hc
    go_enter Tryd.func21, Tryd.ntmps21
    go_wp2_with fail
    refine (specTight_any H.out H'.out).mono ?_
    rintro e w1 ⟨vt, rfl, o1, b1⟩
    have B0 := Lib.hid b1
    rw [HC.out]
    clear o1 b1
    go_wp2_with fail
    go_ret
    exact ⟨by rw [R.out]; rfl, B0.out⟩
  | some t =>
    have HC := Lib.hid hc
    have R : Hid (wideOf l s = widths t) := Lib.hid (by unfold wideOf; rw [hc])
    have tg := tightOf_some hc
    have t12 : t.length ≤ 12 := by have := tg.len; have := tg.win.most; omega
    have WB := Lib.hid (widths_bd (t := t) fun i hi => tg.range (by rw [← tg.len]; exact hi))
    have RG : Hid (∀ i (h : i < t.length), 0 ≤ t[i].1 ∧ t[i].1 ≤ t[i].2 ∧ t[i].2 ≤ 100000) := Lib.hid (fun i hi => by have := tg.range (i := i) (by rw [← tg.len]; exact hi); rwa [gW_get hi] at this)
    clear hc tg
    go_enter Tryd.func21, Tryd.ntmps21
    go_wp2_with fail
    refine (specTight_any H.out H'.out).mono ?_
    rintro e w1 ⟨vt, rfl, o1, b1⟩
    rw [HC.out] at o1 ⊢
    simp only [Option.getD_some] at o1
    obtain ⟨at1, ct, rfl, t1, t2, t3⟩ := o1.row.parts
    have LT := Lib.hid t3
    unfold maxLen at t2
    have B0 := Lib.hid b1
    have hz0 := b1.size
    clear o1 b1 t3
    go_wp2_with fail
    go_loopg [7, 8] t.length (fun k y x wr => ∃ (j : Nat) (n : Int), y = .int .i64 n ∧ x = .int .i64 j ∧ j + k = t.length ∧ widths (t.take j) = n ∧ Below w1.heap.size w1 wr)
    case atStart => exact ⟨0, 0, rfl, rfl, by omega, rfl, Below.refl _ _⟩
    case round =>
      obtain ⟨j, n, rfl, rfl, hk, hn, ha⟩ := hrel
      have K := Lib.hid hk; have N := Lib.hid hn; have A := Lib.hid ha
      have hjl : j ≤ t.length := by omega
      have nb := WB.out j hjl
      rw [hn] at nb
      clear hk hn ha
      by_cases hlt : j < t.length
      · obtain ⟨g, o, rfl, d1, d2⟩ := lies_cell LT.out j hlt
        have e1 := (A.out.cell (cell_below d1)).trans d1
        have e2 := (A.out.cell (cell_below d2)).trans d2
        have i0 : (0 : Int) ≤ (j : Int) := by omega
        have i1 : (j : Int) < (t.length : Int) := by omega
        have ST := widths_take hlt
        have rg := RG.out j hlt
        obtain ⟨x, hx⟩ : ∃ x, t[j] = x := ⟨_, rfl⟩
        rw [hx] at e1 e2 ST rg
        rw [N.out] at ST
        obtain ⟨x1, x2⟩ := x
        simp only at rg
        have ST := Lib.hid ST
        have s1 : IntKind.i64.wrap (n + x2) = n + x2 := IntWalk.i64_in _ (by omega)
        have s2 : IntKind.i64.wrap (n + x2 - x1) = n + x2 - x1 := IntWalk.i64_in _ (by omega)
        clear d1 d2 hx
        go_wp2_with fail
        go_quiet (fail)
        go_wp2_with fail
        go_roundg (gk - 1)
        case measure => have := K.out; omega
        case rel => exact ⟨j + 1, n + x2 - x1, by first | rfl | go_num, by go_num, by have := K.out; omega, ST.out, below_drews A.out _⟩
      · have hj : j = t.length := by omega
        have E : Hid (widths t = n) := Lib.hid (by have := N.out; rwa [hj, List.take_length] at this)
        go_wp2_with fail
        go_ret
        exact ⟨by rw [R.out, E.out]; rfl, B0.out.trans (A.out.mono hz0)⟩
end Go.Proofs.YtanfalkpmmkklacDoor
