/- The contracts of the program's functions on curves: turned curves, slopes. -/
import Derived.Test.YthpfehjjaamkkacCurveAt
namespace Go.Proofs.Ythpfehjjaamkkac
open Go.RowKit

def turnOf (l : List Pc) : Option (List Pc) := if isCurve l = true then some (l.map turnK) else none
theorem turnOf_some {l m : List Pc} (h : turnOf l = some m) : isCurve l = true ∧ m = l.map turnK := by
  unfold turnOf at h
  split at h
  · exact ⟨by assumption, by simpa using h.symm⟩
  · simp at h
theorem turnOf_is {l : List Pc} (h : isCurve l = true) : turnOf l = some (l.map turnK) := if_pos h
theorem turnOf_no {l : List Pc} (h : isCurve l = false) : turnOf l = none := if_neg (by rw [h]; simp)
theorem turn_take {l : List Pc} {j : Nat} (hj : j < l.length) : (l.take j).map turnK ++ [(l[j].2, l[j].1)] = (l.take (j + 1)).map turnK := by
  rw [List.take_succ_eq_append_getElem hj, List.map_append]; rfl
theorem new_pair (w : World) (u v : Value) (t : TypeId) : (w.alloc (.cells #[u, v] t)).cell? ⟨w.heap.size, 0, none⟩ = some u ∧ (w.alloc (.cells #[u, v] t)).cell? ⟨w.heap.size, 1, none⟩ = some v := by
  constructor <;> (rw [World.cell?_alloc_new]; rfl)

set_option maxHeartbeats 800000 in
theorem implCurveTurn_any {w : World} {v : Value} {l : List Pc} (h : Row w v l) :
    Calls Try.prog 33 #[v] w fun e w' => LstB 29 w (turnOf l) e w' := by
  obtain ⟨a, c, rfl, h1, h2⟩ := h.len
  have R0 := Lib.hid h
  unfold maxLen at h2
  clear h
  cases hc : isCurve l
  · have HC := Lib.hid hc
    have HT := Lib.hid (turnOf_no hc)
    clear hc
    go_enter Try.func33, Try.ntmps33
    go_wp2_with fail
    refine (curve_is R0.out HC.out).mono ?_
    rintro e w1 ⟨rfl, b1⟩
    go_wp2_with fail
    go_ret2
    rw [HT.out]
    exact ⟨_, rfl, own_new _ b1.size, b1.alloc b1.size _⟩
  · have HC := Lib.hid hc
    have HT := Lib.hid (turnOf_is hc)
    have h12 : l.length ≤ 12 := (isCurve_steps.1 hc).2.1
    clear hc
    go_enter Try.func33, Try.ntmps33
    go_wp2_with fail
    refine (curve_is R0.out HC.out).mono ?_
    rintro e w1 ⟨rfl, b1⟩
    have B1 := Lib.hid b1
    clear b1
    go_wp2_with fail
    go_loopg [4, 14] l.length (fun k x y wr => ∃ j : Nat, y = .int .i64 j ∧ j + k = l.length ∧ Own 29 wr w.heap.size x ((l.take j).map turnK) ∧ Below w.heap.size w wr)
    case atStart => exact ⟨0, rfl, by omega, own_new _ B1.out.size, B1.out.alloc B1.out.size _⟩
    case round =>
      obtain ⟨j, rfl, hk, ho, hb⟩ := hrel
      have K := Lib.hid hk; have O := Lib.hid ho; have B := Lib.hid hb
      have hjl : j ≤ l.length := by omega
      clear hk ho hb
      by_cases hlt : j < l.length
      · obtain ⟨g, o, c', e', _, _⟩ := R0.out.known (by omega)
        simp only [Value.slice.injEq] at e'
        obtain ⟨rfl, -, rfl⟩ := e'
        obtain ⟨d1, d2⟩ := (R0.out.grow B.out).cells j hlt
        have hsz := B.out.size
        have ltI : (j : Int) < (l.length : Int) := by omega
        obtain ⟨n1, n2⟩ := new_two (wr.alloc (.cells #[.int .i64 l[j].1, .int .i64 l[j].2] 29)) (.int .i64 l[j].2) (.int .i64 l[j].1) 29
        rw [World.size_alloc] at n1 n2
        have N1 := Lib.hid n1; have N2 := Lib.hid n2
        have BW := Lib.hid (((Below.refl wr.heap.size wr).alloc (Nat.le_refl _) (.cells #[.int .i64 l[j].1, .int .i64 l[j].2] 29)).alloc (by simp) (.cells #[.int .i64 l[j].2, .int .i64 l[j].1] 29))
        clear n1 n2
        go_wp2_with (at_builtin; refine append_pair knotT rfl _ _ rfl (B := w.heap.size) _ _ rfl (O.out.grow BW.out) ⟨wr.heap.size + 1, 0, none⟩ (l[j].2, l[j].1) rfl N1.out N2.out (by simp; omega) (by simp; omega) ?_; intro v5 w5 hown5 hg5)
        have O5 := Lib.hid hown5
        have B5 := Lib.hid (B.out.trans ((BW.out.mono hsz).trans ((O.out.grow BW.out).below hg5 (by simp; omega))))
        clear hown5 hg5
        go_wp2_with fail
        go_roundg (gk - 1)
        case measure => have := K.out; omega
        case rel => exact ⟨j + 1, by go_num, by have := K.out; omega, by have := O5.out; rwa [turn_take hlt] at this, B5.out⟩
      · have hj : j = l.length := by omega
        go_wp2_with fail
        go_ret2
        rw [HT.out]
        refine ⟨_, rfl, ?_, B.out⟩
        have := O.out
        rwa [hj, List.take_length] at this

/-- Two knots that follow each other, the first one with an index. -/
def slopeV (l : List Pc) (k : Int) : Bool := isCurve l && decide (0 ≤ k) && decide (k < (l.length : Int) - 1)
def slopeR (l : List Pc) (k : Int) : Rat := match l[k.toNat]?, l[k.toNat + 1]? with
  | some p, some q => sl p q
  | _, _ => 0
theorem slopeR_is {l : List Pc} {k : Nat} (h : k + 1 < l.length) : slopeR l k = sl l[k] l[k + 1] := by
  unfold slopeR
  rw [Int.toNat_natCast, List.getElem?_eq_getElem (by omega), List.getElem?_eq_getElem h]
theorem sl_div (p q : Pc) : sl p q = Rat.divInt (q.2 - p.2) (q.1 - p.1) := by
  rw [Rat.divInt_eq_div]; unfold sl; simp only [Rat.intCast_sub]
theorem slopeV_nat {l : List Pc} {k : Int} (h : slopeV l k = true) : ∃ j : Nat, k = j ∧ isCurve l = true ∧ j + 1 < l.length := by
  unfold slopeV at h
  simp only [Bool.and_eq_true, decide_eq_true_eq] at h
  exact ⟨k.toNat, by omega, h.1.1, by omega⟩

set_option maxHeartbeats 1600000 in
theorem implCurveSlope_any {w : World} {v : Value} {l : List Pc} (k : Int) (hw : (Lit.int .i64 k).wf = true) (h : Row w v l) :
    Calls Try.prog 18 #[v, .int .i64 k] w fun e w' => GotFrac (slopeV l k) (slopeR l k) w w' e := by
  obtain ⟨a, c, rfl, h1, h2⟩ := h.len
  have R0 := Lib.hid h
  unfold maxLen at h2
  clear h
  cases hc : isCurve l
  · have HS : Hid (slopeV l k = false) := Lib.hid (by unfold slopeV; rw [hc]; rfl)
    have HC := Lib.hid hc
    clear hc
    go_enter Try.func18, Try.ntmps18
    go_wp2_with fail
    refine (curve_is (R0.out.grow (by go_grown)) HC.out).mono ?_
    rintro e w1 ⟨rfl, b1⟩
    obtain ⟨r0, r1, r2, r3⟩ := below_two w.heap.size (.int .i64 0) (.int .i64 0) b1 (by go_cell) (by go_cell) (by go_simp) (by go_simp)
    have B1 : Hid (Below w.heap.size w w1) := Lib.hid (Below.trans (by go_grown) (b1.mono (by go_size)))
    clear b1
    go_wp2_with fail
    refine back_at 4 (x := .int .i64 0) (y := .int .i64 0) rfl rfl rfl (by go_cell) (by go_cell) rfl ?_
    exact ⟨0, 0, false, rfl, Res.no (.inl HS.out), by have := B1.out; go_grown⟩
  have HC := Lib.hid hc
  obtain ⟨z1, z2, zd, zs⟩ := isCurve_steps.1 hc
  by_cases k0 : k < 0
  · have HS : Hid (slopeV l k = false) := Lib.hid (by unfold slopeV; rw [decide_eq_false (show ¬ 0 ≤ k by omega)]; simp)
    clear hc zd zs
    go_enter Try.func18, Try.ntmps18
    go_wp2_with fail
    refine (curve_is (R0.out.grow (by go_grown)) HC.out).mono ?_
    rintro e w1 ⟨rfl, b1⟩
    obtain ⟨r0, r1, r2, r3⟩ := below_two w.heap.size (.int .i64 0) (.int .i64 0) b1 (by go_cell) (by go_cell) (by go_simp) (by go_simp)
    have B1 : Hid (Below w.heap.size w w1) := Lib.hid (Below.trans (by go_grown) (b1.mono (by go_size)))
    clear b1
    go_wp2_with fail
    refine back_at 4 (x := .int .i64 0) (y := .int .i64 0) rfl rfl rfl (by go_cell) (by go_cell) rfl ?_
    exact ⟨0, 0, false, rfl, Res.no (.inl HS.out), by have := B1.out; go_grown⟩
  by_cases k1 : (l.length : Int) - 1 ≤ k
  · have HS : Hid (slopeV l k = false) := Lib.hid (by unfold slopeV; rw [decide_eq_false (show ¬ k < (l.length : Int) - 1 by omega)]; simp)
    clear hc zd zs
    go_enter Try.func18, Try.ntmps18
    go_wp2_with fail
    refine (curve_is (R0.out.grow (by go_grown)) HC.out).mono ?_
    rintro e w1 ⟨rfl, b1⟩
    obtain ⟨r0, r1, r2, r3⟩ := below_two w.heap.size (.int .i64 0) (.int .i64 0) b1 (by go_cell) (by go_cell) (by go_simp) (by go_simp)
    have B1 : Hid (Below w.heap.size w w1) := Lib.hid (Below.trans (by go_grown) (b1.mono (by go_size)))
    clear b1
    go_wp2_with fail
    refine back_at 4 (x := .int .i64 0) (y := .int .i64 0) rfl rfl rfl (by go_cell) (by go_cell) rfl ?_
    exact ⟨0, 0, false, rfl, Res.no (.inl HS.out), by have := B1.out; go_grown⟩
  obtain ⟨j, rfl⟩ : ∃ j : Nat, k = j := ⟨k.toNat, by omega⟩
  have hj : j + 1 < l.length := by omega
  have hj0 : j < l.length := by omega
  clear k0 k1
  have HS : Hid (slopeV l j = true) := Lib.hid (by unfold slopeV; rw [hc, decide_eq_true (show (0 : Int) ≤ j by omega), decide_eq_true (show (j : Int) < (l.length : Int) - 1 by omega)]; rfl)
  have HR : Hid (slopeR l j = Rat.divInt (l[j + 1].2 - l[j].2) (l[j + 1].1 - l[j].1)) := Lib.hid (by rw [slopeR_is hj, sl_div])
  obtain ⟨y1, y2, y3, y4⟩ := zd j (by omega)
  obtain ⟨v1, v2, v3, v4⟩ := zd (j + 1) hj
  obtain ⟨t1, t2⟩ := zs j hj
  obtain ⟨g, o, c', e', _, _⟩ := R0.out.known (by omega)
  simp only [Value.slice.injEq] at e'
  obtain ⟨rfl, -, rfl⟩ := e'
  obtain ⟨c1, c2⟩ := R0.out.cells j (by omega)
  obtain ⟨c3, c4⟩ := R0.out.cells (j + 1) hj
  have hgw : g < w.heap.size := cell_below c1
  have ne1 : ¬ g = w.heap.size := by omega
  have ne2 : ¬ w.heap.size = g := by omega
  clear hc zd zs hw
  have i0 : (0 : Int) ≤ (j : Int) := by omega
  have i1 : (j : Int) < (l.length : Int) := by omega
  have i2 : (j : Int) + 1 < (l.length : Int) := by omega
  have i3 : (0 : Int) ≤ (j : Int) + 1 := by omega
  have i4 : IntKind.i64.wrap ((j : Int) + 1) = (j : Int) + 1 := IntWalk.i64_in _ (by omega)
  have i5 : ((j : Int) + 1).toNat = j + 1 := by omega
  have i6 : (j : Int) < (l.length : Int) - 1 := by omega
  go_enter Try.func18, Try.ntmps18
  go_wp2_with fail
  refine (curve_is (R0.out.grow (by go_grown)) HC.out).mono ?_
  rintro e w1 ⟨rfl, b1⟩
  have hb : Below w.heap.size w w1 := Below.trans (by go_grown) (b1.mono (by go_size))
  have B1 := Lib.hid hb
  obtain ⟨r0, r1, r2, r3⟩ := below_two w.heap.size (.int .i64 0) (.int .i64 0) b1 (by go_cell) (by go_cell) (by go_simp) (by go_simp)
  replace c1 := (hb.cell (cell_below c1)).trans c1
  replace c2 := (hb.cell (cell_below c2)).trans c2
  replace c3 := (hb.cell (cell_below c3)).trans c3
  replace c4 := (hb.cell (cell_below c4)).trans c4
  clear b1 hb
  go_wp2_with fail
  go_region_held3 (fun w' => w'.cell? ⟨g, o + j * 2, none⟩ = some (.int .i64 l[j].1) ∧ w'.cell? ⟨g, o + j * 2 + 1, none⟩ = some (.int .i64 l[j].2) ∧ w'.cell? ⟨g, o + (j + 1) * 2, none⟩ = some (.int .i64 l[j + 1].1) ∧ w'.cell? ⟨g, o + (j + 1) * 2 + 1, none⟩ = some (.int .i64 l[j + 1].2))
    (first | go_keep | (go_split_ands; exact held4 hb2 ‹_› ‹_› ‹_› ‹_›))
    ((go_at_call 49; refine (implFracOf_any _ _ _).mono ?_; rintro e w2 ⟨n2, d2, ok2, rfl, hr2, hb2⟩; obtain ⟨s0, s1, s2, s3⟩ := below_two w.heap.size (.int .i64 0) (.int .i64 0) hb2 (by go_cell) (by go_cell) (by go_simp) (by go_simp)))
  have B2 : Hid (Below w.heap.size w w2) := Lib.hid (B1.out.drew.trans (hb2.mono B1.out.size))
  rw [IntWalk.i64_in (l[j + 1].2 - l[j].2) (by omega), IntWalk.i64_in (l[j + 1].1 - l[j].1) (by omega)] at hr2
  have H2 := Lib.hid hr2
  clear hb2 hr2
  go_wp2_with fail
  refine back_at 4 rfl rfl rfl (stored0 _ _ s0) (stored1 _ _ s1) rfl ?_
  exact ⟨n2, d2, ok2, rfl, H2.out.cast (by rw [HS.out]; exact ofV_iff.2 (by omega)) HR.out.symm, by have := B2.out; go_grown⟩
end Go.Proofs.Ythpfehjjaamkkac
