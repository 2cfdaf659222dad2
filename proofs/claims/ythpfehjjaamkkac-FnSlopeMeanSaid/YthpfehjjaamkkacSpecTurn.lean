/- The contracts of the model's functions on curves: turned curves, slopes. -/
import Derived.Test.YthpfehjjaamkkacSpecThen
namespace Go.Proofs.Ythpfehjjaamkkac
open Go.RowKit

set_option maxRecDepth 100000 in
set_option maxHeartbeats 1600000 in
theorem specCurveTurn_any {w : World} {v : Value} {l : List Pc} (h : Row w v l) :
    Calls Try.prog 32 #[v] w fun e w' => LstB 29 w (turnOf l) e w' := by
  obtain ⟨a, c, rfl, h1, h2⟩ := h.len
  have R0 := Lib.hid h
  unfold maxLen at h2
  clear h
  cases hc : isCurve l
  · have HC := Lib.hid hc
    have HT := Lib.hid (turnOf_no hc)
    clear hc
    go_enter Try.func32, Try.ntmps32
    go_wp2_with fail
    refine (specvalid_is (R0.out.grow (by go_grown)) HC.out).mono ?_
    rintro e w1 ⟨rfl, b1⟩
    have O1 := Lib.hid ((own_new 29 (w := w) (B := w.heap.size) (Nat.le_refl _)).grow b1)
    have B1 : Hid (Below w.heap.size w w1) := Lib.hid (Below.trans (by go_grown) (b1.mono (by go_size)))
    clear b1
    go_wp2_with fail
    go_ret2
    rw [HT.out]
    exact ⟨_, rfl, O1.out, B1.out⟩
  · have HC := Lib.hid hc
    have HT := Lib.hid (turnOf_is hc)
    have h12 : l.length ≤ 12 := (isCurve_steps.1 hc).2.1
    clear hc
    go_enter Try.func32, Try.ntmps32
    go_wp2_with fail
    refine (specvalid_is (R0.out.grow (by go_grown)) HC.out).mono ?_
    rintro e w1 ⟨rfl, b1⟩
    have O1 := Lib.hid ((own_new 29 (w := w) (B := w.heap.size) (Nat.le_refl _)).grow b1)
    have B1 : Hid (Below w.heap.size w w1) := Lib.hid (Below.trans (by go_grown) (b1.mono (by go_size)))
    clear b1
    go_wp2_with fail
    go_loopg [4, 5] l.length (fun k x y wr => ∃ j : Nat, y = .int .i64 j ∧ j + k = l.length ∧ Own 29 wr w.heap.size x ((l.take j).map turnK) ∧ Below w.heap.size w wr)
    case atStart => exact ⟨0, rfl, by omega, O1.out, B1.out⟩
    case round =>
      obtain ⟨j, rfl, hk, ho, hb⟩ := hrel
      have K := Lib.hid hk; have O := Lib.hid ho; have B := Lib.hid hb
      have hjl : j ≤ l.length := by omega
      clear hk ho hb
      by_cases hlt : j < l.length
      · obtain ⟨g, o, c', e', _, _⟩ := R0.out.known (by omega)
        simp only [Value.slice.injEq] at e'
        obtain ⟨rfl, -, rfl⟩ := e'
        obtain ⟨d1, d2⟩ := (R0.out.grow B.out).cells j hlt
        have hsz := B.out.size
        have i0 : (0 : Int) ≤ (j : Int) := by omega
        have ltI : (j : Int) < (l.length : Int) := by omega
        obtain ⟨n1, n2⟩ := new_two_drew wr (.int .i64 l[j].2) (.int .i64 l[j].1) 29
        have N1 := Lib.hid n1; have N2 := Lib.hid n2
        have hnb : u4.ownBlock ≠ some g := fun e => by have := (O.out.lt g e).1; have := cell_below ((R0.out).cells j hlt).1; simp at this; omega
        have hgl : g < wr.heap.size := cell_below d1
        clear n1 n2
        go_wp2_with fail
        go_region_held3 (fun w' => w'.cell? ⟨g, o + j * 2, none⟩ = some (.int .i64 l[j].1) ∧ w'.cell? ⟨g, o + j * 2 + 1, none⟩ = some (.int .i64 l[j].2))
          (first | go_keep | (go_split_ands; exact ⟨(hgrow.cell_far _ (by simp; omega) (Ne.symm hnb)).trans ‹_›, (hgrow.cell_far _ (by simp; omega) (Ne.symm hnb)).trans ‹_›⟩))
          ((refine step_append_pair knotT (by rfl) _ _ (by rfl) (B := w.heap.size) u4 _ (by rfl) ((O.out.grow (by go_grown)).grow (by go_grown)) ⟨wr.heap.size, 0, none⟩ (l[j].2, l[j].1) (by rfl) N1.out N2.out (by simp; omega) (by simp; omega) ?_; intro v5 w5 hown5 hgrow))
        have O5 := Lib.hid hown5
        have B5 := Lib.hid (B.out.trans (((show Below wr.heap.size wr _ by go_grown).mono hsz).trans ((Below.refl _ _).grown hgrow (by simp; omega) (fun k hk => (O.out.lt k hk).1))))
        clear hown5 hgrow
        go_wp2_with fail
        go_roundg (gk - 1)
        case measure => have := K.out; omega
        case rel => exact ⟨j + 1, by go_num, by have := K.out; omega, by have := O5.out; rwa [turn_take hlt] at this, B5.out⟩
      · have hj : j = l.length := by omega
        go_wp2_with fail
        go_ret2
        rw [HT.out]
        refine ⟨_, rfl, ?_, B.out⟩
        have := O.out
        rwa [hj, List.take_length] at this

set_option maxRecDepth 100000 in
set_option maxHeartbeats 1600000 in
theorem specCurveSlope_any {w : World} {v : Value} {l : List Pc} (k : Int) (h : Row w v l) :
    Calls Try.prog 19 #[v, .int .i64 k] w fun e w' => GotFrac (slopeV l k) (slopeR l k) w w' e := by
  obtain ⟨a, c, rfl, h1, h2⟩ := h.len
  have R0 := Lib.hid h
  unfold maxLen at h2
  clear h
  cases hc : isCurve l
  · have HS : Hid (slopeV l k = false) := Lib.hid (by unfold slopeV; rw [hc]; rfl)
    have HC := Lib.hid hc
    clear hc
    go_enter Try.func19, Try.ntmps19
    go_wp2_with fail
    refine (specvalid_is (R0.out.grow (by go_grown)) HC.out).mono ?_
    rintro e w1 ⟨rfl, b1⟩
    obtain ⟨r0, r1, r2, r3⟩ := below_two w.heap.size (.int .i64 0) (.int .i64 0) b1 (by go_cell) (by go_cell) (by go_simp) (by go_simp)
    have B1 : Hid (Below w.heap.size w w1) := Lib.hid (Below.trans (by go_grown) (b1.mono (by go_size)))
    clear b1
    go_wp2_with fail
    refine back_at 4 (x := .int .i64 0) (y := .int .i64 0) rfl rfl rfl (by go_cell) (by go_cell) rfl ?_
    exact ⟨0, 0, false, rfl, Res.no (.inl HS.out), by have := B1.out; go_grown⟩
  have HC := Lib.hid hc
  obtain ⟨z1, z2, zd, zs⟩ := isCurve_steps.1 hc
  have hin : isIn k 0 ((l.length : Int) - 2) = slopeV l k := by
    unfold slopeV isIn
    rw [hc, Bool.eq_iff_iff]
    simp only [Bool.true_and, Bool.and_eq_true, decide_eq_true_eq]
    omega
  have s2 : IntKind.i64.wrap ((l.length : Int) - 2) = (l.length : Int) - 2 := IntWalk.i64_in _ (by omega)
  cases hs : slopeV l k
  · have HS := Lib.hid hs
    have HI := Lib.hid (hin.trans hs)
    clear hc zd zs hs hin
    go_enter Try.func19, Try.ntmps19
    go_wp2_with fail
    refine (specvalid_is (R0.out.grow (by go_grown)) HC.out).mono ?_
    rintro e w1 ⟨rfl, b1⟩
    obtain ⟨r0, r1, r2, r3⟩ := below_two w.heap.size (.int .i64 0) (.int .i64 0) b1 (by go_cell) (by go_cell) (by go_simp) (by go_simp)
    have B1 : Hid (Below w.heap.size w w1) := Lib.hid (Below.trans (by go_grown) (b1.mono (by go_size)))
    clear b1
    go_wp2_with fail
    refine (l6In_is HI.out _).mono ?_
    rintro e w2 ⟨rfl, rfl⟩
    go_wp2_with fail
    refine back_at 4 (x := .int .i64 0) (y := .int .i64 0) rfl rfl rfl (by go_cell) (by go_cell) rfl ?_
    exact ⟨0, 0, false, rfl, Res.no (.inl rfl), by have := B1.out; go_grown⟩
  obtain ⟨j, rfl, -, hj⟩ := slopeV_nat hs
  have hj0 : j < l.length := by omega
  have HS := Lib.hid hs
  have HI := Lib.hid (hin.trans hs)
  have HR : Hid (slopeR l j = Rat.divInt (l[j + 1].2 - l[j].2) (l[j + 1].1 - l[j].1)) := Lib.hid (by rw [slopeR_is hj, sl_div])
  obtain ⟨y1, y2, y3, y4⟩ := zd j (by omega)
  obtain ⟨v1, v2, v3, v4⟩ := zd (j + 1) hj
  obtain ⟨t1, t2⟩ := zs j hj
  obtain ⟨g, o, c', e', _, _⟩ := R0.out.known (by omega)
  simp only [Value.slice.injEq] at e'
  obtain ⟨rfl, -, rfl⟩ := e'
  obtain ⟨c1, c2⟩ := R0.out.cells j (by omega)
  obtain ⟨c3, c4⟩ := R0.out.cells (j + 1) hj
  have hgw : g < w.heap.size := cell_below c1
  have ne1 : ¬ g = w.heap.size := by omega
  have ne2 : ¬ w.heap.size = g := by omega
  clear hc zd zs hs hin
  have i0 : (0 : Int) ≤ (j : Int) := by omega
  have i1 : (j : Int) < (l.length : Int) := by omega
  have i2 : (j : Int) + 1 < (l.length : Int) := by omega
  have i3 : (0 : Int) ≤ (j : Int) + 1 := by omega
  have i4 : IntKind.i64.wrap ((j : Int) + 1) = (j : Int) + 1 := IntWalk.i64_in _ (by omega)
  have i5 : ((j : Int) + 1).toNat = j + 1 := by omega
  go_enter Try.func19, Try.ntmps19
  go_wp2_with fail
  refine (specvalid_is (R0.out.grow (by go_grown)) HC.out).mono ?_
  rintro e w1 ⟨rfl, b1⟩
  have hb : Below w.heap.size w w1 := Below.trans (by go_grown) (b1.mono (by go_size))
  have B1 := Lib.hid hb
  obtain ⟨r0, r1, r2, r3⟩ := below_two w.heap.size (.int .i64 0) (.int .i64 0) b1 (by go_cell) (by go_cell) (by go_simp) (by go_simp)
  replace c1 := (hb.cell (cell_below c1)).trans c1
  replace c2 := (hb.cell (cell_below c2)).trans c2
  replace c3 := (hb.cell (cell_below c3)).trans c3
  replace c4 := (hb.cell (cell_below c4)).trans c4
  clear b1 hb
  go_wp2_with fail
  refine (l6In_is HI.out _).mono ?_
  rintro e w2 ⟨rfl, rfl⟩
  go_wp2_with fail
  go_region_held3 (fun w' => w'.cell? ⟨g, o + j * 2, none⟩ = some (.int .i64 l[j].1) ∧ w'.cell? ⟨g, o + j * 2 + 1, none⟩ = some (.int .i64 l[j].2) ∧ w'.cell? ⟨g, o + (j + 1) * 2, none⟩ = some (.int .i64 l[j + 1].1) ∧ w'.cell? ⟨g, o + (j + 1) * 2 + 1, none⟩ = some (.int .i64 l[j + 1].2))
    (first | go_keep | (go_split_ands; exact held4 hb2 ‹_› ‹_› ‹_› ‹_›))
    ((go_at_call 51; refine (specFracOf_any _ _ _).mono ?_; rintro e w2 ⟨n2, d2, ok2, rfl, hr2, hb2⟩; obtain ⟨s0, s1, s2, s3⟩ := below_two w.heap.size (.int .i64 0) (.int .i64 0) hb2 (by go_cell) (by go_cell) (by go_simp) (by go_simp)))
  have B2 : Hid (Below w.heap.size w w2) := Lib.hid (B1.out.drew.trans (hb2.mono B1.out.size))
  rw [IntWalk.i64_in (l[j + 1].2 - l[j].2) (by omega), IntWalk.i64_in (l[j + 1].1 - l[j].1) (by omega)] at hr2
  have H2 := Lib.hid hr2
  clear hb2 hr2
  go_wp2_with fail
  refine back_at 4 rfl rfl rfl (stored0 _ _ s0) (stored1 _ _ s1) rfl ?_
  exact ⟨n2, d2, ok2, rfl, H2.out.cast (ofV_iff.2 (by omega)) HR.out.symm, by have := B2.out; go_grown⟩
end Go.Proofs.Ythpfehjjaamkkac
