/- The contracts of the model's functions on windows, first part: which lists are windows and steps, a range narrowed. -/
import Derived.Test.YtanfalkpmmkklaaDoorPair
import Derived.Test.YtanfalkpmmkklaaDoorGcd
import Derived.Test.YtanfalkpmmkklaaDoorWinLaw
import Derived.Test.YtanfalkpmmkklaaDoorRegion
namespace Go.Proofs.YtanfalkpmmkklaaDoor
open Go.RowKit

abbrev WT : TypeId := 33
theorem winT : PairT 33 23 := ⟨by kernel_rfl, Tryd.underlying23⟩
theorem in_is {n a b : Int} {c : Bool} (h : isIn n a b = c) (w : World) :
    Calls Tryd.prog 30 #[.int .i64 n, .int .i64 a, .int .i64 b] w fun e w' => e = .returned (.bool c) ∧ w = w' := by
  subst h; exact l6In_any _ _ _ _
theorem okW_in (p : Wn) : okW p = (isIn p.1 0 100000 && isIn p.2 p.1 100000) := by
  rw [Bool.eq_iff_iff, okW_iff, Bool.and_eq_true]
  simp only [isIn, decide_eq_true_eq]
  omega
theorem take_all {l : List Wn} {j : Nat} (hj : j < l.length) (h : (l.take j).all okW = true) (k : okW l[j] = true) : (l.take (j + 1)).all okW = true := by
  rw [List.take_succ_eq_append_getElem hj, List.all_append, h]; simp [k]
theorem not_all {l : List Wn} {j : Nat} (hj : j < l.length) (k : okW l[j] = false) : l.all okW = false := by
  cases c : l.all okW
  · rfl
  · rw [List.all_eq_true] at c
    have := c _ (List.getElem_mem hj); rw [k] at this; cases this
set_option maxRecDepth 100000 in
set_option maxHeartbeats 1600000 in
theorem specRanges_any {w : World} {v : Value} {l : List Pc} (h : Row w v l) :
    Calls Tryd.prog 39 #[v] w fun e w' => Val w (.bool (l.all okW)) e w' := by
  obtain ⟨a, c, rfl, h1, h2, hlie⟩ := h.parts
  have H := Lib.hid hlie
  unfold maxLen at h2
  clear h hlie
  go_enter Tryd.func39, Tryd.ntmps39
  go_wp2_with fail
  go_loopg [3] l.length (fun k x wr => ∃ j : Nat, x = .int .i64 j ∧ j + k = l.length ∧ (l.take j).all okW = true ∧ Below w.heap.size w wr)
  case atStart => exact ⟨0, rfl, by omega, by simp, Below.refl _ _⟩
  case round =>
    obtain ⟨j, rfl, hk, hs, hb⟩ := hrel
    have K := Lib.hid hk; have S := Lib.hid hs; have B := Lib.hid hb
    have hjl : j ≤ l.length := by omega
    clear hk hs hb
    by_cases hlt : j < l.length
    · obtain ⟨g, o, rfl, d1, d2⟩ := lies_cell H.out j hlt
      have e1 := (B.out.cell (cell_below d1)).trans d1
      have e2 := (B.out.cell (cell_below d2)).trans d2
      have i0 : (0 : Int) ≤ (j : Int) := by omega
      have i1 : (j : Int) < (l.length : Int) := by omega
      obtain ⟨p, hp⟩ : ∃ p, l[j] = p := ⟨_, rfl⟩
      have HP := Lib.hid hp
      rw [hp] at e1 e2
      obtain ⟨x, y⟩ := p
      have OK : Hid (okW l[j] = (isIn x 0 100000 && isIn y x 100000)) := Lib.hid (by rw [hp]; exact okW_in (x, y))
      clear d1 d2 hp
      cases hx : isIn x 0 100000
      · have HX := Lib.hid hx
        have R := Lib.hid (not_all hlt (by rw [OK.out, hx]; rfl))
        clear hx
        go_wp2_with fail
        go_quiet ((go_at_call 30; refine Calls.quiet_of_same ((in_is HX.out _).mono fun _ _ h => ⟨h.1, h.2.symm⟩)))
        go_wp2_with fail
        go_ret
        exact ⟨by rw [R.out]; rfl, below_drews B.out _⟩
      · cases hy : isIn y x 100000
        · have HX := Lib.hid hx
          have HY := Lib.hid hy
          have R := Lib.hid (not_all hlt (by rw [OK.out, hx, hy]; rfl))
          clear hx hy
          go_wp2_with fail
          go_quiet (first | (go_at_call 30; with_reducible (refine Calls.quiet_of_same ((in_is HX.out _).mono fun _ _ h => ⟨h.1, h.2.symm⟩))) | (go_at_call 30; refine Calls.quiet_of_same ((in_is HY.out _).mono fun _ _ h => ⟨h.1, h.2.symm⟩)))
          go_wp2_with fail
          go_ret
          exact ⟨by rw [R.out]; rfl, below_drews B.out _⟩
        · have HX := Lib.hid hx
          have HY := Lib.hid hy
          have S2 := Lib.hid (take_all hlt S.out (by rw [OK.out, hx, hy]; rfl))
          clear hx hy
          go_wp2_with fail
          go_quiet (first | (go_at_call 30; with_reducible (refine Calls.quiet_of_same ((in_is HX.out _).mono fun _ _ h => ⟨h.1, h.2.symm⟩))) | (go_at_call 30; refine Calls.quiet_of_same ((in_is HY.out _).mono fun _ _ h => ⟨h.1, h.2.symm⟩)))
          go_wp2_with fail
          go_roundg (gk - 1)
          case measure => have := K.out; omega
          case rel => exact ⟨j + 1, by go_num, by have := K.out; omega, S2.out, below_drews B.out _⟩
    · have hj : j = l.length := by omega
      have T : Hid (l.all okW = true) := Lib.hid (by have := S.out; rwa [hj, List.take_length] at this)
      clear hj
      go_wp2_with fail
      go_ret
      exact ⟨by rw [T.out]; rfl, B.out⟩
theorem ranges_is {w : World} {v : Value} {l : List Pc} {b : Bool} (h : Row w v l) (hb : l.all okW = b) : Calls Tryd.prog 39 #[v] w fun e w' => Val w (.bool b) e w' := by
  have := specRanges_any h; rwa [hb] at this
theorem isWin_parts (l s : List Wn) : isWin l s = (isIn (l.length : Int) 1 12 && ((s.length : Int) == (l.length : Int) - 1) && l.all okW && s.all okW) := by
  have e1 : isIn (l.length : Int) 1 12 = (decide (1 ≤ l.length) && decide (l.length ≤ 12)) := by
    rw [Bool.eq_iff_iff]; simp only [isIn, Bool.and_eq_true, decide_eq_true_eq]; omega
  have e2 : ((s.length : Int) == (l.length : Int) - 1) = decide (s.length + 1 = l.length) := by
    rw [Bool.eq_iff_iff]; simp only [beq_iff_eq, decide_eq_true_eq]; omega
  rw [e1, e2]; rfl
set_option maxHeartbeats 1600000 in
theorem specWin_any {w : World} {v u : Value} {l s : List Pc} (h : Row w v l) (k : Row w u s) :
    Calls Tryd.prog 29 #[v, u] w fun e w' => Val w (.bool (isWin l s)) e w' := by
  obtain ⟨a, c, rfl, h1, h2⟩ := h.len
  obtain ⟨a', c', rfl, k1, k2⟩ := k.len
  have H := Lib.hid h; have H' := Lib.hid k
  unfold maxLen at h2 k2
  have PA := Lib.hid (isWin_parts l s)
  have wr1 : IntKind.i64.wrap ((l.length : Int) - 1) = (l.length : Int) - 1 := IntWalk.i64_in _ (by omega)
  clear h k
  cases hx : isIn (l.length : Int) 1 12
  · have HX := Lib.hid hx
    have R : Hid (isWin l s = false) := Lib.hid (by rw [PA.out, hx]; rfl)
    clear hx
    go_enter Tryd.func29, Tryd.ntmps29
    go_wp2_with fail
    refine (in_is HX.out _).mono ?_
    rintro e w1 ⟨rfl, rfl⟩
    go_wp2_with fail
    go_ret
    exact ⟨by rw [R.out]; rfl, Below.refl _ _⟩
  have HX := Lib.hid hx
  by_cases hl : (s.length : Int) = (l.length : Int) - 1
  case neg =>
    have hl2 : ((s.length : Int) == (l.length : Int) - 1) = false := by simpa using hl
    have R : Hid (isWin l s = false) := Lib.hid (by rw [PA.out, hl2]; simp)
    clear hx hl
    go_enter Tryd.func29, Tryd.ntmps29
    go_wp2_with fail
    refine (in_is HX.out _).mono ?_
    rintro e w1 ⟨rfl, rfl⟩
    go_wp2_with fail
    go_ret
    exact ⟨by rw [R.out]; rfl, Below.refl _ _⟩
  have hl2 : ((s.length : Int) == (l.length : Int) - 1) = true := by simpa using hl
  have HL2 := Lib.hid hl2
  cases hy : l.all okW
  · have HY := Lib.hid hy
    have R : Hid (isWin l s = false) := Lib.hid (by rw [PA.out, hy]; simp)
    clear hx hl hy
    go_enter Tryd.func29, Tryd.ntmps29
    go_wp2_with fail
    refine (in_is HX.out _).mono ?_
    rintro e w1 ⟨rfl, rfl⟩
    go_wp2_with fail
    refine (ranges_is H.out HY.out).mono ?_
    rintro e w2 ⟨rfl, b2⟩
    go_wp2_with fail
    go_ret
    exact ⟨by rw [R.out]; rfl, b2⟩
  have HY := Lib.hid hy
  obtain ⟨b, hz⟩ : ∃ b, s.all okW = b := ⟨_, rfl⟩
  have HZ := Lib.hid hz
  have R : Hid (isWin l s = b) := Lib.hid (by rw [PA.out, hx, hl2, hy, hz]; rfl)
  clear hx hl hy hz
  go_enter Tryd.func29, Tryd.ntmps29
  go_wp2_with fail
  refine (in_is HX.out _).mono ?_
  rintro e w1 ⟨rfl, rfl⟩
  go_wp2_with fail
  refine (ranges_is H.out HY.out).mono ?_
  rintro e w2 ⟨rfl, b2⟩
  go_wp2_with fail
  refine (ranges_is (H'.out.grow b2) HZ.out).mono ?_
  rintro e w3 ⟨rfl, b3⟩
  go_wp2_with fail
  go_ret
  exact ⟨by rw [R.out]; rfl, b2.trans (b3.mono b2.size)⟩
theorem winS_is {w : World} {v u : Value} {l s : List Pc} {b : Bool} (h : Row w v l) (k : Row w u s) (hb : isWin l s = b) : Calls Tryd.prog 29 #[v, u] w fun e w' => Val w (.bool b) e w' := by
  have := specWin_any h k; rwa [hb] at this
set_option maxHeartbeats 1600000 in
theorem specBoth_any (p : Wn) (lo hi : Int) (w : World) :
    Calls Tryd.prog 36 #[.agg #[.int .i64 p.1, .int .i64 p.2], .int .i64 lo, .int .i64 hi] w fun e w' => e = .returned (.agg #[.int .i64 (bothW p lo hi).1, .int .i64 (bothW p lo hi).2]) ∧ Below w.heap.size w w' := by
  obtain ⟨x, hx⟩ : ∃ x, (bothW p lo hi).1 = x := ⟨_, rfl⟩
  obtain ⟨y, hy⟩ : ∃ y, (bothW p lo hi).2 = y := ⟨_, rfl⟩
  obtain ⟨p1, p2⟩ := p
  have HX := Lib.hid hx; have HY := Lib.hid hy
  have e1 : (if p1 < lo then lo else p1) = x := by rw [← hx]; simp only [bothW]; split <;> omega
  have e2 : (if hi < p2 then hi else p2) = y := by rw [← hy]; simp only [bothW]; split <;> omega
  clear hx hy
  go_enter Tryd.func36, Tryd.ntmps36
  go_wp2_with fail
  go_returns
  exact ⟨by rw [HX.out, HY.out], by go_grown⟩
end Go.Proofs.YtanfalkpmmkklaaDoor
