/- The contracts of the model's functions on curves: the test. -/
import Derived.Test.YthpfehjjaamkkacCurveTurn
import Derived.Test.YthpfehjjaamkkacFracSpec
namespace Go.Proofs.Ythpfehjjaamkkac
open Go.RowKit

theorem l11Depth_is {n : Int} {b : Bool} (h : isIn n 0 30000 = b) (w : World) :
    Calls Try.prog 58 #[.int .i64 n] w fun e w' => e = .returned (.bool b) ∧ w = w' := by
  subst h
  go_enter Try.func58, Try.ntmps58
  go_wp2_with fail
  refine (l6In_any _ _ _ _).mono ?_
  rintro e w1 ⟨rfl, rfl⟩
  go_wp2_with fail
  go_ret
  exact ⟨rfl, rfl⟩
/-- What the model's test has seen: the first i knots are in range and rise. -/
structure Risen (l : List Pc) (i : Nat) : Prop where
  dp : ∀ k (hk : k < l.length), k < i → Dp l[k]
  up : ∀ k (hk : k + 1 < l.length), k + 1 < i → l[k].1 < l[k + 1].1 ∧ l[k].2 < l[k + 1].2
theorem risen_start (l : List Pc) : Risen l 0 := ⟨fun k _ h => by omega, fun k _ h => by omega⟩
theorem Risen.next {l : List Pc} {i : Nat} (h : Risen l i) (hi : i < l.length) (hd : Dp l[i]) (hu : ∀ j (e : i = j + 1), (l[j]'(by omega)).1 < l[i].1 ∧ (l[j]'(by omega)).2 < l[i].2) : Risen l (i + 1) := by
  refine ⟨fun k hk hki => ?_, fun k hk hki => ?_⟩
  · by_cases e : k = i
    · subst e; exact hd
    · exact h.dp k hk (by omega)
  · by_cases e : i = k + 1
    · subst e; exact hu k rfl
    · exact h.up k hk (by omega)
theorem Risen.all {l : List Pc} (h : Risen l l.length) : isCurve l = isIn (l.length : Int) 2 12 := by
  by_cases c : 2 ≤ l.length ∧ l.length ≤ 12
  · rw [isIn_yes (by omega) (by omega)]
    exact isCurve_steps.2 ⟨c.1, c.2, fun i hi => h.dp i hi hi, fun i hi => h.up i hi hi⟩
  · rw [isIn_no (by omega)]
    cases hc : isCurve l
    · rfl
    · have := isCurve_steps.1 hc; omega
theorem isCurve_out {l : List Pc} {i : Nat} (hi : i < l.length) (h : isIn l[i].1 0 30000 = false ∨ isIn l[i].2 0 30000 = false) : isCurve l = false := by
  cases hc : isCurve l
  · rfl
  · obtain ⟨h1, h2, h3, h4⟩ := (isCurve_steps.1 hc).2.2.1 i hi
    rw [isIn_yes h1 h2, isIn_yes h3 h4] at h
    simp at h
theorem isCurve_flat {l : List Pc} {i : Nat} (hi : i + 1 < l.length) (h : l[i + 1].1 ≤ l[i].1 ∨ l[i + 1].2 ≤ l[i].2) : isCurve l = false := by
  cases hc : isCurve l
  · rfl
  · have := (isCurve_steps.1 hc).2.2.2 i hi; omega
theorem isIn_dp {p : Pc} (h1 : isIn p.1 0 30000 = true) (h2 : isIn p.2 0 30000 = true) : Dp p := by
  unfold isIn at h1 h2
  have a := of_decide_eq_true h1; have b := of_decide_eq_true h2
  exact ⟨a.1, a.2, b.1, b.2⟩

set_option maxRecDepth 100000 in
set_option maxHeartbeats 1600000 in
theorem specCurveValid_any {w : World} {v : Value} {l : List Pc} (h : Row w v l) :
    Calls Try.prog 27 #[v] w fun e w' => Val w (.bool (isCurve l)) e w' := by
  obtain ⟨a, c, rfl, h1, h2, hlie⟩ := h.parts
  have H := Lib.hid hlie
  unfold maxLen at h2
  clear h hlie
  go_enter Try.func27, Try.ntmps27
  go_wp2_with fail
  go_loopg [3] l.length (fun k x wr => ∃ j : Nat, x = .int .i64 j ∧ j + k = l.length ∧ Risen l j ∧ Below w.heap.size w wr)
  case atStart => exact ⟨0, rfl, by omega, risen_start l, Below.refl _ _⟩
  case round =>
    obtain ⟨j, rfl, hk, hs, hb⟩ := hrel
    have K := Lib.hid hk; have S := Lib.hid hs; have B := Lib.hid hb
    have hjl : j ≤ l.length := by omega
    clear hk hs hb
    by_cases hlt : j < l.length
    · obtain ⟨g, o, rfl, d1, d2⟩ := lies_cell H.out j hlt
      have e1 := (B.out.cell (cell_below d1)).trans d1
      have e2 := (B.out.cell (cell_below d2)).trans d2
      have i0 : (0 : Int) ≤ (j : Int) := by omega
      have i1 : (j : Int) < (l.length : Int) := by omega
      clear d1 d2
      cases hx : isIn l[j].1 0 30000
      · have HX := Lib.hid hx
        have R := Lib.hid (isCurve_out hlt (.inl hx))
        clear hx
        go_wp2_with fail
        go_quiet ((go_at_call 58; refine Calls.quiet_of_same ((l11Depth_is HX.out _).mono fun _ _ h => ⟨h.1, h.2.symm⟩)))
        go_wp2_with fail
        go_ret
        exact ⟨by rw [R.out]; rfl, by have := B.out; exact below_drews this _⟩
      · cases hy : isIn l[j].2 0 30000
        · have HX := Lib.hid hx
          have HY := Lib.hid hy
          have R := Lib.hid (isCurve_out hlt (.inr hy))
          clear hx hy
          go_wp2_with fail
          go_quiet (first | (go_at_call 58; refine Calls.quiet_of_same ((l11Depth_is HX.out _).mono fun _ _ h => ⟨h.1, h.2.symm⟩)) | (go_at_call 58; refine Calls.quiet_of_same ((l11Depth_is HY.out _).mono fun _ _ h => ⟨h.1, h.2.symm⟩)))
          go_wp2_with fail
          go_ret
          exact ⟨by rw [R.out]; rfl, by have := B.out; exact below_drews this _⟩
        · have HX := Lib.hid hx
          have HY := Lib.hid hy
          have DP := Lib.hid (isIn_dp hx hy)
          clear hx hy
          cases j with
          | zero =>
            simp only [Nat.zero_mul, Nat.add_zero] at e1 e2
            go_wp2_with fail
            go_quiet (first | (go_at_call 58; refine Calls.quiet_of_same ((l11Depth_is HX.out _).mono fun _ _ h => ⟨h.1, h.2.symm⟩)) | (go_at_call 58; refine Calls.quiet_of_same ((l11Depth_is HY.out _).mono fun _ _ h => ⟨h.1, h.2.symm⟩)))
            go_wp2_with fail
            go_roundg (gk - 1)
            case measure => have := K.out; omega
            case rel => exact ⟨1, by go_num, by have := K.out; omega, S.out.next hlt DP.out (fun j e => by omega), below_drews B.out _⟩
          | succ j =>
            obtain ⟨g', o', e', c3, c4⟩ := lies_cell H.out j (by omega)
            simp only [Option.some.injEq, Addr.mk.injEq, and_true] at e'
            obtain ⟨rfl, rfl⟩ := e'
            have d3 := (B.out.cell (cell_below c3)).trans c3
            have d4 := (B.out.cell (cell_below c4)).trans c4
            clear c3 c4
            have s1 : IntKind.i64.wrap ((j : Int) + 1 - 1) = (j : Int) := by rw [show (j : Int) + 1 - 1 = j by omega]; exact IntWalk.i64_in _ (by omega)
            have s2 : IntKind.i64.wrap (j : Int) = (j : Int) := IntWalk.i64_in _ (by omega)
            have s3 : (0 : Int) ≤ (j : Int) := Int.natCast_nonneg _
            have s4 : (j : Int) < (l.length : Int) := by omega
            have s5 : (0 : Int) ≤ (j : Int) + 1 := by omega
            have s6 : (j : Int) + 1 < (l.length : Int) := by omega
            have s7 : ((j : Int) + 1).toNat = j + 1 := by omega
            have s8 : (0 : Int) < (j : Int) + 1 := by omega
            by_cases q1 : l[j + 1].1 ≤ l[j].1
            · have R := Lib.hid (isCurve_flat hlt (.inl q1))
              go_wp2_with fail
              go_quiet (first | (go_at_call 58; refine Calls.quiet_of_same ((l11Depth_is HX.out _).mono fun _ _ h => ⟨h.1, h.2.symm⟩)) | (go_at_call 58; refine Calls.quiet_of_same ((l11Depth_is HY.out _).mono fun _ _ h => ⟨h.1, h.2.symm⟩)))
              go_wp2_with fail
              go_ret
              exact ⟨by rw [R.out]; rfl, below_drews B.out _⟩
            · by_cases q2 : l[j + 1].2 ≤ l[j].2
              · have R := Lib.hid (isCurve_flat hlt (.inr q2))
                go_wp2_with fail
                go_quiet (first | (go_at_call 58; refine Calls.quiet_of_same ((l11Depth_is HX.out _).mono fun _ _ h => ⟨h.1, h.2.symm⟩)) | (go_at_call 58; refine Calls.quiet_of_same ((l11Depth_is HY.out _).mono fun _ _ h => ⟨h.1, h.2.symm⟩)))
                go_wp2_with fail
                go_ret
                exact ⟨by rw [R.out]; rfl, below_drews B.out _⟩
              · have UP : Hid (∀ i (e : j + 1 = i + 1), (l[i]'(by omega)).1 < l[j + 1].1 ∧ (l[i]'(by omega)).2 < l[j + 1].2) := Lib.hid (fun i e => by
                  obtain rfl : i = j := by omega
                  exact ⟨by omega, by omega⟩)
                go_wp2_with fail
                go_quiet (first | (go_at_call 58; refine Calls.quiet_of_same ((l11Depth_is HX.out _).mono fun _ _ h => ⟨h.1, h.2.symm⟩)) | (go_at_call 58; refine Calls.quiet_of_same ((l11Depth_is HY.out _).mono fun _ _ h => ⟨h.1, h.2.symm⟩)))
                go_wp2_with fail
                go_roundg (gk - 1)
                case measure => have := K.out; omega
                case rel => exact ⟨j + 2, by go_num, by have := K.out; omega, S.out.next hlt DP.out UP.out, below_drews B.out _⟩
    · have hj : j = l.length := by omega
      have R := Lib.hid (show Risen l l.length by rw [← hj]; exact S.out).all
      go_wp2_with fail
      refine (l6In_any _ _ _ _).mono ?_
      rintro e w1 ⟨rfl, rfl⟩
      go_wp2_with fail
      go_ret
      exact ⟨by rw [R.out]; rfl, B.out⟩
end Go.Proofs.Ythpfehjjaamkkac
