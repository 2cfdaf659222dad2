/- The contracts of the program's functions on windows: what is valid, which ages fit (for seats without a sentinel). -/
import Derived.Test.YtanfalkpmmkklaaWinB
import Derived.Test.YtanfalkpmmkklaaWinSpec3
namespace Go.Proofs.Ytanfalkpmmkklaa
open Go.RowKit

theorem isWin_cat {l s : List Pc} (h : l.length ≤ 12) (hs : s.length + 1 = l.length) : isWin l s = (l ++ s).all okW := by
  unfold isWin
  rw [decide_eq_true (show 1 ≤ l.length by omega), decide_eq_true h, decide_eq_true hs, List.all_append]
  rfl
theorem isWin_no {l s : List Pc} (h : 12 < l.length ∨ s.length + 1 ≠ l.length) : isWin l s = false := by
  cases c : isWin l s
  · rfl
  · have w := isWin_iff.1 c
    have := w.most; have := w.len
    omega
set_option maxRecDepth 100000 in
set_option maxHeartbeats 3200000 in
theorem implWin_any {w : World} {v u : Value} {l s : List Pc} (h : Row w v l) (k : Row w u s) :
    Calls Try.prog 5 #[v, u] w fun e w' => Val w (.bool (isWin l s)) e w' := by
  obtain ⟨a, c, rfl, h1, h2⟩ := h.len
  obtain ⟨a', c', rfl, k1, k2⟩ := k.len
  have H := Lib.hid h; have H' := Lib.hid k
  unfold maxLen at h2 k2
  have wr1 : IntKind.i64.wrap ((l.length : Int) - 1) = (l.length : Int) - 1 := IntWalk.i64_in _ (by omega)
  clear h k
  by_cases hb : (l.length : Int) > 12
  · have R := Lib.hid (isWin_no (l := l) (s := s) (.inl (by omega)))
    go_enter Try.func5, Try.ntmps5
    go_wp2_with fail
    go_ret
    exact ⟨by rw [R.out]; rfl, Below.refl _ _⟩
  by_cases hl : (s.length : Int) = (l.length : Int) - 1
  case neg =>
    have hl2 : ((s.length : Int) != (l.length : Int) - 1) = true := by simpa using hl
    have R := Lib.hid (isWin_no (l := l) (s := s) (.inr (by omega)))
    clear hl
    go_enter Try.func5, Try.ntmps5
    go_wp2_with fail
    go_ret
    exact ⟨by rw [R.out]; rfl, Below.refl _ _⟩
  have hl2 : ((s.length : Int) != (l.length : Int) - 1) = false := by simpa using hl
  have R := Lib.hid (isWin_cat (l := l) (s := s) (by omega) (by omega))
  have hsn : s.length ≤ 12 := by omega
  have hp : 0 < l.length + s.length := by omega
  have hq : l.length + s.length ≤ 1000 := by omega
  clear hl
  obtain ⟨m, hm⟩ : ∃ m, l ++ s = m := ⟨_, rfl⟩
  have HM := Lib.hid hm
  have ml : m.length ≤ 24 := by rw [← hm, List.length_append]; omega
  clear hm
  go_enter Try.func5, Try.ntmps5
  go_wp2_with fail
  have z0 := new_two w (.slice a l.length c) (.slice a' s.length c') 23
  rw [Addr.add_lit, Addr.add_lit] at z0
  refine (concatW_any (b := w.heap.size) z0.1 z0.2 (H.out.grow ((Below.refl _ _).alloc (Nat.le_refl _) _)) (H'.out.grow ((Below.refl _ _).alloc (Nat.le_refl _) _)) hp hq).mono ?_
  rintro e w1 ⟨v, rfl, o1, b1⟩
  rw [HM.out] at o1 R
  have hb1 : Below w.heap.size w w1 := ((Below.refl _ _).alloc (Nat.le_refl _) _ : Below w.heap.size w _).trans (b1.mono (by simp))
  obtain ⟨am, cm, rfl, m1, m2, m3⟩ := o1.row.parts
  have LM := Lib.hid m3; have B1 := Lib.hid hb1
  unfold maxLen at m2
  clear o1 b1 hb1 m3 z0
  go_wp2_with fail
  go_loopg [23] m.length (fun k x wr => ∃ j : Nat, x = .int .i64 j ∧ j + k = m.length ∧ (m.take j).all okW = true ∧ Below w1.heap.size w1 wr)
  case atStart => exact ⟨0, rfl, by omega, by simp, Below.refl _ _⟩
  case round =>
    obtain ⟨j, rfl, hk, hs, hb⟩ := hrel
    have K := Lib.hid hk; have S := Lib.hid hs; have B := Lib.hid hb
    have hjl : j ≤ m.length := by omega
    clear hk hs hb
    by_cases hlt : j < m.length
    · obtain ⟨g, o, rfl, d1, d2⟩ := lies_cell LM.out j hlt
      have e1 := (B.out.cell (cell_below d1)).trans d1
      have e2 := (B.out.cell (cell_below d2)).trans d2
      have i0 : (0 : Int) ≤ (j : Int) := by omega
      have i1 : (j : Int) < (m.length : Int) := by omega
      clear d1 d2
      cases hx : okW m[j]
      · have D := Lib.hid hx
        have R2 := Lib.hid (not_all hlt hx)
        clear hx
        go_wp2_with fail
        refine (windowValid_is D.out _).mono ?_
        rintro e w2 ⟨rfl, b2⟩
        have B2 := Lib.hid (Below.trans (by go_grown) (b2.mono (by go_size)) : Below wr.heap.size wr w2)
        have zz := B1.out.size; have zb := B.out.size
        clear b2
        go_wp2_with fail
        go_ret
        exact ⟨by rw [R.out, R2.out]; rfl, B1.out.trans ((B.out.trans (B2.out.mono zb)).mono zz)⟩
      · have D := Lib.hid hx
        have S2 := Lib.hid (take_all hlt S.out hx)
        clear hx
        go_wp2_with fail
        refine (windowValid_is D.out _).mono ?_
        rintro e w2 ⟨rfl, b2⟩
        have B2 := Lib.hid (Below.trans (by go_grown) (b2.mono (by go_size)) : Below wr.heap.size wr w2)
        have zb := B.out.size
        clear b2
        go_wp2_with fail
        go_roundg (gk - 1)
        case measure => have := K.out; omega
        case rel => exact ⟨j + 1, by go_num, by have := K.out; omega, S2.out, B.out.trans (B2.out.mono zb)⟩
    · have hj : j = m.length := by omega
      have T : Hid (m.all okW = true) := Lib.hid (by have := S.out; rwa [hj, List.take_length] at this)
      have zz := B1.out.size
      clear hj
      go_wp2_with fail
      go_ret
      exact ⟨by rw [R.out, T.out]; rfl, B1.out.trans (B.out.mono zz)⟩

theorem implWin_is {w : World} {v u : Value} {l s : List Pc} {b : Bool} (h : Row w v l) (k : Row w u s) (hb : isWin l s = b) : Calls Try.prog 5 #[v, u] w fun e w' => Val w (.bool b) e w' := by
  have := implWin_any h k; rwa [hb] at this


end Go.Proofs.Ytanfalkpmmkklaa
