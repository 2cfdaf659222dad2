/- The contracts of the model's functions on ties: which lists are ties, all ties of two lists, whether two lists fit, joined ties. -/
import Derived.Test.YthhdpjkmjebjhabEvent
import Derived.Test.YthhdpjkmjebjhabTieSteps
import Derived.Test.YthhdpjkmjebjhabRegion
namespace Go.Proofs.Ythhdpjkmjebjhab
open Go.RowKit

abbrev TT := 39
theorem tieT : PairT 39 23 := ⟨by kernel_rfl, Try.underlying23⟩
theorem tie_in {p : Ti} (h1 : isIn p.1 0 30000 = true) (h2 : isIn p.2 0 30000 = true) : 0 ≤ p.1 ∧ p.1 ≤ 30000 ∧ 0 ≤ p.2 ∧ p.2 ≤ 30000 := by
  unfold isIn at h1 h2; have a := of_decide_eq_true h1; have b := of_decide_eq_true h2; omega
theorem tie_out {p : Ti} (h : isIn p.1 0 30000 = false ∨ isIn p.2 0 30000 = false) : ¬ (0 ≤ p.1 ∧ p.1 ≤ 30000 ∧ 0 ≤ p.2 ∧ p.2 ≤ 30000) := by
  rintro ⟨a, b, c, d⟩
  rw [isIn_yes a b, isIn_yes c d] at h; simp at h
set_option maxRecDepth 100000 in
set_option maxHeartbeats 1600000 in
theorem specOrd_any {w : World} {v : Value} {l : List Pc} (h : Row w v l) :
    Calls Try.prog 55 #[v] w fun e w' => Val w (.bool (ordT l)) e w' := by
  obtain ⟨a, c, rfl, h1, h2, hlie⟩ := h.parts
  have H := Lib.hid hlie
  unfold maxLen at h2
  clear h hlie
  go_enter Try.func55, Try.ntmps55
  go_wp2_with fail
  go_loopg [3] l.length (fun k x wr => ∃ j : Nat, x = .int .i64 j ∧ j + k = l.length ∧ SeenT l j ∧ Below w.heap.size w wr)
  case atStart => exact ⟨0, rfl, by omega, seenT_start l, Below.refl _ _⟩
  case round =>
    obtain ⟨j, rfl, hk, hs, hb⟩ := hrel
    have K := Lib.hid hk; have S := Lib.hid hs; have B := Lib.hid hb
    have hjl : j ≤ l.length := by omega
    clear hk hs hb
    by_cases hlt : j < l.length
    · obtain ⟨g, o, rfl, d1, d2⟩ := lies_cell H.out j hlt
      have e1 := (B.out.cell (cell_below d1)).trans d1
      have e2 := (B.out.cell (cell_below d2)).trans d2
      have i0 : (0 : Int) ≤ (j : Int) := by omega
      have i1 : (j : Int) < (l.length : Int) := by omega
      clear d1 d2
      cases hx : isIn l[j].1 0 30000
      · have HX := Lib.hid hx
        have R := Lib.hid (ord_out hlt (tie_out (.inl hx)))
        clear hx
        go_wp2_with fail
        go_quiet ((go_at_call 76; refine Calls.quiet_of_same ((l11Depth_is HX.out _).mono fun _ _ h => ⟨h.1, h.2.symm⟩)))
        go_wp2_with fail
        go_ret
        exact ⟨by rw [R.out]; rfl, by have := B.out; exact below_drews this _⟩
      · cases hy : isIn l[j].2 0 30000
        · have HX := Lib.hid hx
          have HY := Lib.hid hy
          have R := Lib.hid (ord_out hlt (tie_out (.inr hy)))
          clear hx hy
          go_wp2_with fail
          go_quiet (first | (go_at_call 76; refine Calls.quiet_of_same ((l11Depth_is HX.out _).mono fun _ _ h => ⟨h.1, h.2.symm⟩)) | (go_at_call 76; refine Calls.quiet_of_same ((l11Depth_is HY.out _).mono fun _ _ h => ⟨h.1, h.2.symm⟩)))
          go_wp2_with fail
          go_ret
          exact ⟨by rw [R.out]; rfl, by have := B.out; exact below_drews this _⟩
        · have HX := Lib.hid hx
          have HY := Lib.hid hy
          have IN := Lib.hid (tie_in hx hy)
          clear hx hy
          cases j with
          | zero =>
            simp only [Nat.zero_mul, Nat.add_zero] at e1 e2
            go_wp2_with fail
            go_quiet (first | (go_at_call 76; refine Calls.quiet_of_same ((l11Depth_is HX.out _).mono fun _ _ h => ⟨h.1, h.2.symm⟩)) | (go_at_call 76; refine Calls.quiet_of_same ((l11Depth_is HY.out _).mono fun _ _ h => ⟨h.1, h.2.symm⟩)))
            go_wp2_with fail
            go_roundg (gk - 1)
            case measure => have := K.out; omega
            case rel => exact ⟨1, by go_num, by have := K.out; omega, S.out.next hlt IN.out (fun j e => by omega), below_drews B.out _⟩
          | succ j =>
            obtain ⟨g', o', e', c3, c4⟩ := lies_cell H.out j (by omega)
            simp only [Option.some.injEq, Addr.mk.injEq, and_true] at e'
            obtain ⟨rfl, rfl⟩ := e'
            have d3 := (B.out.cell (cell_below c3)).trans c3
            have d4 := (B.out.cell (cell_below c4)).trans c4
            clear c3 c4
            have s1 : IntKind.i64.wrap ((j : Int) + 1 - 1) = (j : Int) := by rw [show (j : Int) + 1 - 1 = j by omega]; exact IntWalk.i64_in _ (by omega)
            have s2 : IntKind.i64.wrap (j : Int) = (j : Int) := IntWalk.i64_in _ (by omega)
            have s3 : (0 : Int) ≤ (j : Int) := Int.natCast_nonneg _
            have s4 : (j : Int) < (l.length : Int) := by omega
            have s5 : (0 : Int) ≤ (j : Int) + 1 := by omega
            have s6 : (j : Int) + 1 < (l.length : Int) := by omega
            have s7 : ((j : Int) + 1).toNat = j + 1 := by omega
            have s8 : (0 : Int) < (j : Int) + 1 := by omega
            by_cases q1 : l[j + 1].1 ≤ l[j].1
            · have R := Lib.hid (ord_flat hlt (.inl q1))
              go_wp2_with fail
              go_quiet (first | (go_at_call 76; refine Calls.quiet_of_same ((l11Depth_is HX.out _).mono fun _ _ h => ⟨h.1, h.2.symm⟩)) | (go_at_call 76; refine Calls.quiet_of_same ((l11Depth_is HY.out _).mono fun _ _ h => ⟨h.1, h.2.symm⟩)))
              go_wp2_with fail
              go_ret
              exact ⟨by rw [R.out]; rfl, below_drews B.out _⟩
            · by_cases q2 : l[j + 1].2 ≤ l[j].2
              · have R := Lib.hid (ord_flat hlt (.inr q2))
                go_wp2_with fail
                go_quiet (first | (go_at_call 76; refine Calls.quiet_of_same ((l11Depth_is HX.out _).mono fun _ _ h => ⟨h.1, h.2.symm⟩)) | (go_at_call 76; refine Calls.quiet_of_same ((l11Depth_is HY.out _).mono fun _ _ h => ⟨h.1, h.2.symm⟩)))
                go_wp2_with fail
                go_ret
                exact ⟨by rw [R.out]; rfl, below_drews B.out _⟩
              · have UP : Hid (∀ i (e : j + 1 = i + 1), lt2 (l[i]'(by omega)) l[j + 1]) := Lib.hid (fun i e => by
                  have e2 : i = j := by omega
                  subst e2
                  exact ⟨Int.not_le.1 q1, Int.not_le.1 q2⟩)
                go_wp2_with fail
                go_quiet (first | (go_at_call 76; refine Calls.quiet_of_same ((l11Depth_is HX.out _).mono fun _ _ h => ⟨h.1, h.2.symm⟩)) | (go_at_call 76; refine Calls.quiet_of_same ((l11Depth_is HY.out _).mono fun _ _ h => ⟨h.1, h.2.symm⟩)))
                go_wp2_with fail
                go_roundg (gk - 1)
                case measure => have := K.out; omega
                case rel => exact ⟨j + 2, by go_num, by have := K.out; omega, S.out.next hlt IN.out UP.out, below_drews B.out _⟩
    · have hj : j = l.length := by omega
      have T : Hid (ordT l = true) := Lib.hid (by have := S.out; rw [hj] at this; exact this.all)
      clear hj
      go_wp2_with fail
      go_ret
      exact ⟨by rw [T.out]; rfl, B.out⟩
theorem ordS_is {w : World} {v : Value} {l : List Pc} {b : Bool} (h : Row w v l) (hb : ordT l = b) : Calls Try.prog 55 #[v] w fun e w' => Val w (.bool b) e w' := by
  have := specOrd_any h
  rwa [hb] at this
theorem specTies_any {w : World} {v : Value} {l : List Pc} (h : Row w v l) :
    Calls Try.prog 35 #[v] w fun e w' => Val w (.bool (isTies l)) e w' := by
  obtain ⟨a, c, rfl, h1, h2⟩ := h.len
  have H := Lib.hid h
  unfold maxLen at h2
  clear h
  cases ho : ordT l
  · have HO := Lib.hid ho
    have R : Hid (isTies l = false) := Lib.hid (by rw [ties_ord, ho]; rfl)
    clear ho
    go_enter Try.func35, Try.ntmps35
    go_wp2_with fail
    refine (ordS_is H.out HO.out).mono ?_
    rintro e w1 ⟨rfl, b1⟩
    go_wp2_with fail
    go_ret
    exact ⟨by rw [R.out]; rfl, b1⟩
  · have HO := Lib.hid ho
    have R : Hid (isTies l = decide (l.length ≤ 12)) := Lib.hid (by rw [ties_ord, ho]; rfl)
    clear ho
    by_cases q : l.length ≤ 12
    · have q1 : (l.length : Int) ≤ 12 := by omega
      have R2 : Hid (isTies l = true) := Lib.hid (by rw [R.out]; exact decide_eq_true q)
      go_enter Try.func35, Try.ntmps35
      go_wp2_with fail
      refine (ordS_is H.out HO.out).mono ?_
      rintro e w1 ⟨rfl, b1⟩
      go_wp2_with fail
      go_ret
      exact ⟨by rw [R2.out]; simp, b1⟩
    · have q1 : ¬ (l.length : Int) ≤ 12 := by omega
      have R2 : Hid (isTies l = false) := Lib.hid (by rw [R.out]; exact decide_eq_false q)
      go_enter Try.func35, Try.ntmps35
      go_wp2_with fail
      refine (ordS_is H.out HO.out).mono ?_
      rintro e w1 ⟨rfl, b1⟩
      go_wp2_with fail
      go_ret
      exact ⟨by rw [R2.out]; simp; omega, b1⟩
theorem tiesS_is {w : World} {v : Value} {l : List Pc} {b : Bool} (h : Row w v l) (hb : isTies l = b) : Calls Try.prog 35 #[v] w fun e w' => Val w (.bool b) e w' := by
  have := specTies_any h
  rwa [hb] at this
end Go.Proofs.Ythhdpjkmjebjhab
