/- The contracts of the model's functions on curves: values of curves. -/
import Derived.Test.YthpfehjjaamkkacSpecAt
namespace Go.Proofs.Ythpfehjjaamkkac
open Go.RowKit

theorem l6In_is {n a b : Int} {r : Bool} (h : isIn n a b = r) (w : World) :
    Calls Try.prog 50 #[.int .i64 n, .int .i64 a, .int .i64 b] w fun e w' => e = .returned (.bool r) ∧ w = w' := by
  subst h; exact l6In_any n a b w

set_option maxRecDepth 100000 in
set_option maxHeartbeats 3200000 in
theorem l11In_any {w : World} {v : Value} {l : List Pc} (h : Row w v l) {n d : Int} (hf : fv n d = true) (hc : isCurve l = true) :
    Calls Try.prog 60 #[v, .agg #[.int .i64 n, .int .i64 d]] w fun e w' => Val w (.bool (cIn l (fq n d))) e w' := by
  obtain ⟨z1, z2, zd, zs⟩ := isCurve_steps.1 hc
  obtain ⟨g, o, c, rfl, k1, k2⟩ := h.known (by omega)
  obtain ⟨c1, c2⟩ := h.cells 0 (by omega)
  obtain ⟨c3, c4⟩ := h.cells (l.length - 1) (by omega)
  simp only [Nat.zero_mul, Nat.add_zero] at c1
  have hgw : g < w.heap.size := cell_below c1
  have IFF := Lib.hid (cIn_iff (l := l) (x := fq n d) (by omega))
  have HF := Lib.hid hf
  obtain ⟨y1, y2, y3, y4⟩ := zd 0 (by omega)
  obtain ⟨v1, v2, v3, v4⟩ := zd (l.length - 1) (by omega)
  unfold maxLen at k2
  obtain ⟨m, hm⟩ : ∃ m, l.length = m + 1 := ⟨l.length - 1, by omega⟩
  have hml : m < l.length := by omega
  have em : l.length - 1 = m := by omega
  simp only [em] at c3 v1 v2 IFF
  have s0 : (0 : Int) < (m : Int) + 1 := by omega
  have s1 : 0 < m + 1 := by omega
  have s2 : IntKind.i64.wrap ((m : Int) + 1 - 1) = (m : Int) := by rw [show (m : Int) + 1 - 1 = m by omega]; exact IntWalk.i64_in _ (by omega)
  have s2' : IntKind.i64.wrap (m : Int) = (m : Int) := IntWalk.i64_in _ (by omega)
  have s3 : (0 : Int) ≤ (m : Int) := by omega
  have s4 : (m : Int) < (m : Int) + 1 := by omega
  have s5 : m < m + 1 := by omega
  rw [hm]
  clear h hf hc zd zs c2 c4
  cases hlow : decide (fq n d < (l[0].1 : Rat))
  rotate_left
  · have HL := Lib.hid hlow
    have R : Hid (cIn l (fq n d) = false) := Lib.hid (by
      cases hh : cIn l (fq n d)
      · rfl
      · have a := IFF.out.1 hh; have b := of_decide_eq_true hlow; grind)
    clear hlow
    go_enter Try.func60, Try.ntmps60
    go_wp2_with fail
    refine wp_region_held_drew (S := (fun w' => w'.cell? ⟨w.heap.size, 0, none⟩ = some (.int .i64 n) ∧ w'.cell? ⟨w.heap.size, 1, none⟩ = some (.int .i64 d) ∧ w'.cell? ⟨g, o, none⟩ = some (.int .i64 l[0].1))) (by kernel_rfl) (by go_keep) (fun hHeld => ?_)
    refine take_h 0 5 rfl rfl (by kernel_rfl) (by kernel_rfl) (by kernel_rfl) (fun _ _ _ h => h) (by kernel_rfl) (by intro w hSw; (try dsimp only at hSw); go_simp; try with_reducible rfl) (by assumption) ?_
    refine take_h 1 6 rfl rfl (by kernel_rfl) (by kernel_rfl) (by kernel_rfl) (fun _ _ _ h => h) (by kernel_rfl) (by intro w hSw; (try dsimp only at hSw); go_simp; try with_reducible rfl) (by assumption) ?_
    refine take_h 2 7 rfl rfl (by kernel_rfl) (by kernel_rfl) (by kernel_rfl) (fun _ _ _ h => h) (by kernel_rfl) (by intro w hSw; (try dsimp only at hSw); go_simp; try with_reducible rfl) (by assumption) ?_
    refine take_h 3 8 rfl rfl (by kernel_rfl) (by kernel_rfl) (by kernel_rfl) (fun _ _ _ h => h) (by kernel_rfl) (by intro w hSw; (try dsimp only at hSw); go_simp; try with_reducible rfl) (by assumption) ?_
    refine take_h 4 9 rfl rfl (by kernel_rfl) (by kernel_rfl) (by kernel_rfl) (fun _ _ _ h => h) (by kernel_rfl) (by intro w hSw; (try dsimp only at hSw); go_simp; try with_reducible rfl) (by assumption) ?_
    refine wpAnyH_ready (rs := [5]) (by kernel_rfl) (by simp) (AllReadyH.cons rfl (fun K hK => ?_) AllReadyH.nil)
    go_simp
    go_wp2_with (go_at_call 57; refine (l11Whole_any _ _).mono ?_; rintro e w1 ⟨rfl, hb1⟩)
    refine hK.out _ _ (by (try dsimp only); (go_split_ands; exact held3 hb1 ‹_› ‹_› ‹_›)) (fun hHeld => ?_)
    clear hK K
    refine wpAnyH_ready (rs := [6]) (by kernel_rfl) (by simp) (AllReadyH.cons rfl (fun K hK => ?_) AllReadyH.nil)
    go_simp
    go_wp2_with (go_at_call 73; refine (specLess_is HF.out y1 y2 HL.out _).mono ?_; rintro e w2 ⟨rfl, hb2⟩)
    refine hK.out _ _ (by (try dsimp only); (go_split_ands; exact held3 hb2 ‹_› ‹_› ‹_›)) (fun hHeld => ?_)
    clear hK K
    refine take_h 7 12 rfl rfl (by kernel_rfl) (by kernel_rfl) (by kernel_rfl) (fun _ _ _ h => h) (by kernel_rfl) (by intro w hSw; (try dsimp only at hSw); go_simp; try with_reducible rfl) (by assumption) ?_
    refine take_h 8 13 rfl rfl (by kernel_rfl) (by kernel_rfl) (by kernel_rfl) (fun _ _ _ h => h) (by kernel_rfl) (by intro w hSw; (try dsimp only at hSw); go_simp; try with_reducible rfl) (by assumption) ?_
    refine skip_h 9 14 rfl rfl (by kernel_rfl) (by kernel_rfl) (by kernel_rfl) (fun _ _ _ h => h) (by kernel_rfl) (by assumption) ?_
    refine skip_h 10 15 rfl rfl (by kernel_rfl) (by kernel_rfl) (by kernel_rfl) (fun _ _ _ h => h) (by kernel_rfl) (by assumption) ?_
    refine skip_h 11 16 rfl rfl (by kernel_rfl) (by kernel_rfl) (by kernel_rfl) (fun _ _ _ h => h) (by kernel_rfl) (by assumption) ?_
    refine skip_h 12 17 rfl rfl (by kernel_rfl) (by kernel_rfl) (by kernel_rfl) (fun _ _ _ h => h) (by kernel_rfl) (by assumption) ?_
    refine skip_h 13 18 rfl rfl (by kernel_rfl) (by kernel_rfl) (by kernel_rfl) (fun _ _ _ h => h) (by kernel_rfl) (by assumption) ?_
    refine skip_h 14 19 rfl rfl (by kernel_rfl) (by kernel_rfl) (by kernel_rfl) (fun _ _ _ h => h) (by kernel_rfl) (by assumption) ?_
    refine skip_h 15 20 rfl rfl (by kernel_rfl) (by kernel_rfl) (by kernel_rfl) (fun _ _ _ h => h) (by kernel_rfl) (by assumption) ?_
    refine skip_h 16 21 rfl rfl (by kernel_rfl) (by kernel_rfl) (by kernel_rfl) (fun _ _ _ h => h) (by kernel_rfl) (by assumption) ?_
    refine skip_h 17 22 rfl rfl (by kernel_rfl) (by kernel_rfl) (by kernel_rfl) (fun _ _ _ h => h) (by kernel_rfl) (by assumption) ?_
    refine skip_h 18 23 rfl rfl (by kernel_rfl) (by kernel_rfl) (by kernel_rfl) (fun _ _ _ h => h) (by kernel_rfl) (by assumption) ?_
    refine skip_h 19 24 rfl rfl (by kernel_rfl) (by kernel_rfl) (by kernel_rfl) (fun _ _ _ h => h) (by kernel_rfl) (by assumption) ?_
    refine take_h 20 25 rfl rfl (by kernel_rfl) (by kernel_rfl) (by kernel_rfl) (fun _ _ _ h => h) (by kernel_rfl) (by intro w hSw; (try dsimp only at hSw); go_simp; try with_reducible rfl) (by assumption) ?_
    refine take_h 21 4 rfl rfl (by kernel_rfl) (by kernel_rfl) (by kernel_rfl) (fun _ _ _ h => h) (by kernel_rfl) (by intro w hSw; (try dsimp only at hSw); go_simp; try with_reducible rfl) (by assumption) ?_
    refine wpAnyH_done (by kernel_rfl) ?_ _
    simp only [Exit.then]
    simp only [Act.put, List.setIfInBounds_toArray, List.set_cons_succ, List.set_cons_zero]
    have B2 : Hid (Below w.heap.size w w2) := Lib.hid ((Below.trans (by go_grown) (hb1.mono (by go_size))).trans (hb2.mono (Below.trans (by go_grown) (hb1.mono (by go_size)) : Below w.heap.size w w1).size))
    clear hb1 hb2
    go_wp2_with fail
    go_ret
    exact ⟨by rw [R.out]; rfl, B2.out⟩
  · have HL := Lib.hid hlow
    clear hlow
    cases hhigh : decide ((l[m].1 : Rat) < fq n d)
    all_goals
      have HH := Lib.hid hhigh
      have R : Hid (cIn l (fq n d) = !(decide ((l[m].1 : Rat) < fq n d))) := Lib.hid (by
        have a := of_decide_eq_false HL.out
        rw [Bool.eq_iff_iff, IFF.out]
        simp only [Bool.not_eq_true', decide_eq_false_iff_not]
        grind)
      rw [hhigh] at R
      clear hhigh
      go_enter Try.func60, Try.ntmps60
      go_wp2_with fail
      have tok : True := trivial
      have tok2 : True := trivial
      go_region_held3 (fun w' => w'.cell? ⟨w.heap.size, 0, none⟩ = some (.int .i64 n) ∧ w'.cell? ⟨w.heap.size, 1, none⟩ = some (.int .i64 d) ∧ w'.cell? ⟨g, o, none⟩ = some (.int .i64 l[0].1) ∧ w'.cell? ⟨g, o + m * 2, none⟩ = some (.int .i64 l[m].1))
        (first | go_keep | (go_split_ands; exact held4 hb1 ‹_› ‹_› ‹_› ‹_›) | (go_split_ands; exact held4 hb2 ‹_› ‹_› ‹_› ‹_›) | (go_split_ands; exact held4 hb3 ‹_› ‹_› ‹_› ‹_›) | (go_split_ands; exact held4 hb4 ‹_› ‹_› ‹_› ‹_›))
        (first | (have _t := tok; clear tok _t; go_at_call 57; refine (l11Whole_any _ _).mono ?_; rintro e w1 ⟨rfl, hb1⟩) | (have _t := tok2; clear tok2 _t; go_at_call 73; refine (specLess_is HF.out y1 y2 HL.out _).mono ?_; rintro e w2 ⟨rfl, hb2⟩) | (go_at_call 57; refine (l11Whole_any _ _).mono ?_; rintro e w3 ⟨rfl, hb3⟩) | (go_at_call 73; refine (isSpecLess HF.out v1 v2 HH.out _).mono ?_; rintro e w4 ⟨rfl, hb4⟩))
      have h1 : Below w.heap.size w w1 := Below.trans (by go_grown) (hb1.mono (by go_size))
      have B4 : Hid (Below w.heap.size w w4) := Lib.hid (((h1.trans (hb2.mono h1.size)).trans (hb3.mono (h1.trans (hb2.mono h1.size)).size)).trans (hb4.mono ((h1.trans (hb2.mono h1.size)).trans (hb3.mono (h1.trans (hb2.mono h1.size)).size)).size))
      clear h1 hb1 hb2 hb3 hb4
      go_wp2_with fail
      go_ret
      exact ⟨by rw [R.out]; rfl, B4.out⟩

set_option maxRecDepth 100000 in
set_option maxHeartbeats 3200000 in
theorem specCurveAt_any {w : World} {v : Value} {l : List Pc} (x : Int) (h : Row w v l) :
    Calls Try.prog 23 #[v, .int .i64 x] w fun e w' => GotFrac (onC l (x : Rat)) (cAt l (x : Rat)) w w' e := by
  obtain ⟨a, c, rfl, k1, k2⟩ := h.len
  have R0 := Lib.hid h
  unfold maxLen at k2
  clear h
  cases hc : isCurve l
  · have HC := Lib.hid hc
    have NO := Lib.hid (not_on_bad (x := (x : Rat)) hc)
    clear hc
    go_enter Try.func23, Try.ntmps23
    go_wp2_with fail
    refine wp_region_any (by kernel_rfl) ?_
    change wpAny _ _ _ _ _ _ _ (World.drew _)
    refine take_yes 0 6 rfl rfl (by kernel_rfl) (by kernel_rfl) (by kernel_rfl) (fun _ _ _ h => h) (Or.inl ⟨by kernel_rfl, by intro w; go_simp; try with_reducible rfl⟩) ?_
    refine wpAny_ready (rs := [1]) (by kernel_rfl) (by simp) (AllReady.cons rfl (fun K hK => ?_) AllReady.nil)
    go_simp
    go_wp2_with (go_at_call 27; refine (specvalid_is (R0.out.grow (by go_grown)) HC.out).mono ?_; rintro e w1 ⟨rfl, hb1⟩)
    refine take_yes 2 8 rfl rfl (by kernel_rfl) (by kernel_rfl) (by kernel_rfl) (fun _ _ _ h => h) (Or.inl ⟨by kernel_rfl, by intro w; go_simp; try with_reducible rfl⟩) ?_
    refine take_yes 3 9 rfl rfl (by kernel_rfl) (by kernel_rfl) (by kernel_rfl) (fun _ _ _ h => h) (Or.inl ⟨by kernel_rfl, by intro w; go_simp; try with_reducible rfl⟩) ?_
    refine take_no 4 10 rfl rfl (by kernel_rfl) (by kernel_rfl) (by kernel_rfl) (fun _ _ _ h => h) (by kernel_rfl) ?_
    refine take_no 5 11 rfl rfl (by kernel_rfl) (by kernel_rfl) (by kernel_rfl) (fun _ _ _ h => h) (by kernel_rfl) ?_
    refine take_no 6 12 rfl rfl (by kernel_rfl) (by kernel_rfl) (by kernel_rfl) (fun _ _ _ h => h) (by kernel_rfl) ?_
    refine take_no 7 13 rfl rfl (by kernel_rfl) (by kernel_rfl) (by kernel_rfl) (fun _ _ _ h => h) (by kernel_rfl) ?_
    refine take_no 8 14 rfl rfl (by kernel_rfl) (by kernel_rfl) (by kernel_rfl) (fun _ _ _ h => h) (by kernel_rfl) ?_
    refine take_no 9 15 rfl rfl (by kernel_rfl) (by kernel_rfl) (by kernel_rfl) (fun _ _ _ h => h) (by kernel_rfl) ?_
    refine take_no 10 16 rfl rfl (by kernel_rfl) (by kernel_rfl) (by kernel_rfl) (fun _ _ _ h => h) (by kernel_rfl) ?_
    refine take_no 11 17 rfl rfl (by kernel_rfl) (by kernel_rfl) (by kernel_rfl) (fun _ _ _ h => h) (by kernel_rfl) ?_
    refine take_no 12 18 rfl rfl (by kernel_rfl) (by kernel_rfl) (by kernel_rfl) (fun _ _ _ h => h) (by kernel_rfl) ?_
    refine take_no 13 19 rfl rfl (by kernel_rfl) (by kernel_rfl) (by kernel_rfl) (fun _ _ _ h => h) (by kernel_rfl) ?_
    refine take_no 14 20 rfl rfl (by kernel_rfl) (by kernel_rfl) (by kernel_rfl) (fun _ _ _ h => h) (by kernel_rfl) ?_
    refine take_no 15 21 rfl rfl (by kernel_rfl) (by kernel_rfl) (by kernel_rfl) (fun _ _ _ h => h) (by kernel_rfl) ?_
    refine take_no 16 22 rfl rfl (by kernel_rfl) (by kernel_rfl) (by kernel_rfl) (fun _ _ _ h => h) (by kernel_rfl) ?_
    refine take_no 17 23 rfl rfl (by kernel_rfl) (by kernel_rfl) (by kernel_rfl) (fun _ _ _ h => h) (by kernel_rfl) ?_
    refine take_yes 18 24 rfl rfl (by kernel_rfl) (by kernel_rfl) (by kernel_rfl) (fun _ _ _ h => h) (Or.inl ⟨by kernel_rfl, by intro w; go_simp; try with_reducible rfl⟩) ?_
    refine wpAny_done (by kernel_rfl) ?_ _
    simp only [Exit.then]
    simp only [Act.put, List.setIfInBounds_toArray, List.set_cons_succ, List.set_cons_zero]
    obtain ⟨r0, r1, r2, r3⟩ := below_two w.heap.size (.int .i64 0) (.int .i64 0) hb1 (by go_cell) (by go_cell) (by go_simp) (by go_simp)
    have B1 : Hid (Below w.heap.size w w1) := Lib.hid (Below.trans (by go_grown) (hb1.mono (by go_size)))
    clear hb1
    go_wp2_with fail
    refine back_at 4 (x := .int .i64 0) (y := .int .i64 0) rfl rfl rfl (by go_cell) (by go_cell) rfl ?_
    exact ⟨0, 0, false, rfl, Res.no (.inl NO.out), by have := B1.out; go_grown⟩
  obtain ⟨z1, z2, zd, zs⟩ := isCurve_steps.1 hc
  obtain ⟨g, o, c', e', _, _⟩ := R0.out.known (by omega)
  simp only [Value.slice.injEq] at e'
  obtain ⟨rfl, -, rfl⟩ := e'
  obtain ⟨c1, c2⟩ := R0.out.cells 0 (by omega)
  obtain ⟨c3, c4⟩ := R0.out.cells (l.length - 1) (by omega)
  simp only [Nat.zero_mul, Nat.add_zero] at c1
  have hgw : g < w.heap.size := cell_below c1
  have IFF := cIn_iff (l := l) (x := (x : Rat)) (by omega)
  have HC := Lib.hid hc
  obtain ⟨y1, y2, y3, y4⟩ := zd 0 (by omega)
  obtain ⟨v1, v2, v3, v4⟩ := zd (l.length - 1) (by omega)
  obtain ⟨m, hm⟩ : ∃ m, l.length = m + 1 := ⟨l.length - 1, by omega⟩
  have hml : m < l.length := by omega
  have em : l.length - 1 = m := by omega
  simp only [em] at c3 v1 v2 IFF
  have s0 : (0 : Int) < (m : Int) + 1 := by omega
  have s1 : 0 < m + 1 := by omega
  have s2 : IntKind.i64.wrap ((m : Int) + 1 - 1) = (m : Int) := by rw [show (m : Int) + 1 - 1 = m by omega]; exact IntWalk.i64_in _ (by omega)
  have s2' : IntKind.i64.wrap (m : Int) = (m : Int) := IntWalk.i64_in _ (by omega)
  have s3 : (0 : Int) ≤ (m : Int) := by omega
  have s4 : (m : Int) < (m : Int) + 1 := by omega
  have s5 : m < m + 1 := by omega
  have hin : isIn x l[0].1 l[m].1 = cIn l (x : Rat) := by
    rw [Bool.eq_iff_iff, IFF, isIn, decide_eq_true_eq]
    exact ⟨fun h => ⟨rat_le h.1, rat_le h.2⟩, fun h => ⟨Rat.intCast_le_intCast.1 h.1, Rat.intCast_le_intCast.1 h.2⟩⟩
  have hon : onC l (x : Rat) = isIn x l[0].1 l[m].1 := by rw [onC, hc, hin]; rfl
  have HON := Lib.hid hon
  clear c2 c4 hc zd zs IFF hin hon
  cases hi : isIn x l[0].1 l[m].1
  all_goals
    have HI := Lib.hid hi
    clear hi
    rw [hm]
    rw [hm] at R0
    go_enter Try.func23, Try.ntmps23
    go_wp2_with fail
    go_region_held3 (fun w' => w'.cell? ⟨g, o, none⟩ = some (.int .i64 l[0].1) ∧ w'.cell? ⟨g, o + m * 2, none⟩ = some (.int .i64 l[m].1))
      (first | go_keep | (go_split_ands; exact held2 hb1 ‹_› ‹_›) | assumption)
      (first | (go_at_call 27; refine (specvalid_is (R0.out.grow (by go_grown)) HC.out).mono ?_; rintro e w1 ⟨rfl, hb1⟩) | (go_at_call 50; refine (l6In_is HI.out _).mono ?_; rintro e w2 ⟨rfl, rfl⟩))
  · obtain ⟨r0, r1, r2, r3⟩ := below_two w.heap.size (.int .i64 0) (.int .i64 0) hb1 (by go_cell) (by go_cell) (by go_simp) (by go_simp)
    have B1 : Hid (Below w.heap.size w w1) := Lib.hid (Below.trans (by go_grown) (hb1.mono (by go_size)))
    clear hb1
    have NO : Hid (onC l (x : Rat) = false) := Lib.hid (HON.out.trans HI.out)
    go_wp2_with fail
    refine back_at 4 (x := .int .i64 0) (y := .int .i64 0) rfl rfl rfl (by go_cell) (by go_cell) rfl ?_
    exact ⟨0, 0, false, rfl, Res.no (.inl NO.out), by have := B1.out; go_grown⟩
  · obtain ⟨r0, r1, r2, r3⟩ := below_two w.heap.size (.int .i64 0) (.int .i64 0) hb1 (by go_cell) (by go_cell) (by go_simp) (by go_simp)
    have B1 : Hid (Below w.heap.size w w1) := Lib.hid (Below.trans (by go_grown) (hb1.mono (by go_size)))
    have ON : Hid (onC l (x : Rat) = true) := Lib.hid (HON.out.trans HI.out)
    obtain ⟨x0, x1⟩ := onC_int ON.out
    have FX := Lib.hid (dp_fv x0 x1)
    have ONF : Hid (onC l (fq x 1) = true) := Lib.hid (by rw [fq_whole]; exact ON.out)
    clear hb1
    go_wp2_with fail
    refine (l11Whole_any _ _).mono ?_
    rintro e w2 ⟨rfl, hb2⟩
    obtain ⟨s0, s1, s2, s3⟩ := below_two w.heap.size (.int .i64 0) (.int .i64 0) hb2 r0 r1 r2 r3
    have B2 : Hid (Below w.heap.size w w2) := Lib.hid (B1.out.trans (hb2.mono B1.out.size))
    clear hb2 r0 r1 r2 r3
    go_wp2_with fail
    refine (l11At_any (R0.out.grow B2.out) FX.out ONF.out).mono ?_
    rintro e w3 ⟨n3, d3, ok3, rfl, hr3, hb3⟩
    obtain ⟨q0, q1, q2, q3⟩ := below_two w.heap.size (.int .i64 0) (.int .i64 0) hb3 s0 s1 s2 s3
    have B3 : Hid (Below w.heap.size w w3) := Lib.hid (B2.out.trans (hb3.mono B2.out.size))
    rw [fq_whole] at hr3
    have HR := Lib.hid hr3
    clear hb3 s0 s1 s2 s3 hr3
    go_wp2_with fail
    refine back_at 4 rfl rfl rfl (stored0 _ _ q0) (stored1 _ _ q1) rfl ?_
    exact ⟨n3, d3, ok3, rfl, by rw [ON.out]; exact HR.out, by have := B3.out; go_grown⟩

set_option maxRecDepth 100000 in
set_option maxHeartbeats 3200000 in
theorem specCurveThen_any {w : World} {v u : Value} {l m : List Pc} (x : Int) (h : Row w v l) (k : Row w u m) :
    Calls Try.prog 36 #[v, u, .int .i64 x] w fun e w' => GotFrac (thenV l m x) (thenR l m x) w w' e := by
  obtain ⟨a, c, rfl, h1, h2⟩ := h.len
  obtain ⟨a', c', rfl, h1', h2'⟩ := k.len
  have R := Lib.hid h; have S := Lib.hid k
  clear h k
  go_enter Try.func36, Try.ntmps36
  go_wp2_with fail
  refine (specCurveAt_any x (R.out.grow (by go_grown))).mono ?_
  rintro e w1 ⟨n, d, ok, rfl, hr, b1⟩
  obtain ⟨r0, r1, r2, r3⟩ := below_two w.heap.size (.int .i64 0) (.int .i64 0) b1 (by go_cell) (by go_cell) (by go_simp) (by go_simp)
  have B1 : Hid (Below w.heap.size w w1) := Lib.hid (Below.trans (by go_grown) (b1.mono (by go_size)))
  have hl1 : w.heap.size < w1.heap.size := by have := b1.size; simp at this; omega
  have ne1 : ¬ w1.heap.size = w.heap.size := by omega
  have ne2 : ¬ w.heap.size = w1.heap.size := by omega
  rcases at_res hr with ⟨rfl, ho, hf, hq⟩ | ⟨rfl, rfl, rfl, ho⟩
  rotate_left
  · have NO : Hid (thenV l m x = false) := Lib.hid (by unfold thenV; rw [ho]; rfl)
    clear hr b1 ho
    go_wp2_with fail
    refine back_at 6 (x := .int .i64 0) (y := .int .i64 0) rfl rfl rfl (by go_cell) (by go_cell) rfl ?_
    exact ⟨0, 0, false, rfl, Res.no (.inl NO.out), by have := B1.out; go_grown⟩
  have HF := Lib.hid hf; have HQ := Lib.hid hq; have HO := Lib.hid ho
  clear hr b1 hf hq ho
  cases hc : isCurve m
  · have HC := Lib.hid hc
    have NO : Hid (thenV l m x = false) := Lib.hid (by unfold thenV; rw [HO.out, not_on_bad hc]; rfl)
    clear hc
    go_wp2_with fail
    refine (specvalid_is (S.out.grow (by have := B1.out; go_grown)) HC.out).mono ?_
    rintro e w2 ⟨rfl, hb2⟩
    obtain ⟨s0, s1, s2, s3⟩ := below_two w.heap.size (.int .i64 0) (.int .i64 0) hb2 (by go_cell) (by go_cell) (by go_simp) (by go_simp)
    have B2 : Hid (Below w.heap.size w w2) := Lib.hid (Below.trans (by have := B1.out; go_grown) (hb2.mono (by have := B1.out.size; simp; omega)))
    clear hb2
    go_wp2_with fail
    refine back_at 6 (x := .int .i64 0) (y := .int .i64 0) rfl rfl rfl (by go_cell) (by go_cell) rfl ?_
    exact ⟨0, 0, false, rfl, Res.no (.inl NO.out), by have := B2.out; go_grown⟩
  have HC := Lib.hid hc
  have HV : Hid (thenV l m x = cIn m (fq n d)) := Lib.hid (by unfold thenV; rw [HO.out, HQ.out, onC, hc]; rfl)
  clear hc
  go_wp2_with fail
  refine (specvalid_is (S.out.grow (by have := B1.out; go_grown)) HC.out).mono ?_
  rintro e w2 ⟨rfl, hb2⟩
  obtain ⟨s0, s1, s2, s3⟩ := below_two w.heap.size (.int .i64 0) (.int .i64 0) hb2 (by go_cell) (by go_cell) (by go_simp) (by go_simp)
  obtain ⟨x0, x1, x2, x3⟩ := below_two w1.heap.size (.int .i64 n) (.int .i64 d) hb2 (by go_cell) (by go_cell) (by go_simp) (by go_simp)
  have B2 : Hid (Below w.heap.size w w2) := Lib.hid (Below.trans (by have := B1.out; go_grown) (hb2.mono (by have := B1.out.size; simp; omega)))
  clear hb2 r0 r1 r2 r3
  go_wp2_with fail
  refine (l11In_any (S.out.grow B2.out) HF.out HC.out).mono ?_
  rintro e w3 ⟨rfl, hb3⟩
  obtain ⟨q0, q1, q2, q3⟩ := below_two w.heap.size (.int .i64 0) (.int .i64 0) hb3 s0 s1 s2 s3
  obtain ⟨y0, y1, y2, y3⟩ := below_two w1.heap.size (.int .i64 n) (.int .i64 d) hb3 x0 x1 x2 x3
  have B3 : Hid (Below w.heap.size w w3) := Lib.hid (B2.out.trans (hb3.mono B2.out.size))
  clear hb3 s0 s1 s2 s3 x0 x1 x2 x3
  cases hin : cIn m (fq n d)
  · have NO : Hid (thenV l m x = false) := Lib.hid (HV.out.trans hin)
    clear hin
    go_wp2_with fail
    refine back_at 6 (x := .int .i64 0) (y := .int .i64 0) rfl rfl rfl (by go_cell) (by go_cell) rfl ?_
    exact ⟨0, 0, false, rfl, Res.no (.inl NO.out), by have := B3.out; go_grown⟩
  · have YES : Hid (thenV l m x = true) := Lib.hid (HV.out.trans hin)
    have ON : Hid (onC m (fq n d) = true) := Lib.hid (by rw [onC, HC.out, hin]; rfl)
    clear hin
    go_wp2_with fail
    refine (l11At_any (S.out.grow B3.out) HF.out ON.out).mono ?_
    rintro e w4 ⟨n4, d4, ok4, rfl, hr4, hb4⟩
    obtain ⟨p0, p1, p2, p3⟩ := below_two w.heap.size (.int .i64 0) (.int .i64 0) hb4 q0 q1 q2 q3
    have B4 : Hid (Below w.heap.size w w4) := Lib.hid (B3.out.trans (hb4.mono B3.out.size))
    rw [HQ.out] at hr4
    have HR := Lib.hid hr4
    clear hb4 q0 q1 q2 q3 hr4
    go_wp2_with fail
    refine back_at 6 rfl rfl rfl (stored0 _ _ p0) (stored1 _ _ p1) rfl ?_
    exact ⟨n4, d4, ok4, rfl, by rw [YES.out]; exact HR.out, by have := B4.out; go_grown⟩
end Go.Proofs.Ythpfehjjaamkkac
