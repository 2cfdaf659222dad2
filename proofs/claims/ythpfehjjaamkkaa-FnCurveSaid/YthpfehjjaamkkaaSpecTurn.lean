/- The contracts of the model's functions on curves: turned curves, slopes. -/
import Derived.Test.YthpfehjjaamkkaaSpecThen
namespace Go.Proofs.Ythpfehjjaamkkaa
open Go.RowKit

set_option maxRecDepth 100000 in
set_option maxHeartbeats 1600000 in
theorem specCurveTurn_any {w : World} {v : Value} {l : List Pc} (h : Row w v l) :
    Calls Try.prog 25 #[v] w fun e w' => LstB 27 w (turnOf l) e w' := by
  obtain ⟨a, c, rfl, h1, h2⟩ := h.len
  have R0 := Lib.hid h
  unfold maxLen at h2
  clear h
  cases hc : isCurve l
  · have HC := Lib.hid hc
    have HT := Lib.hid (turnOf_no hc)
    clear hc
    go_enter Try.func25, Try.ntmps25
    go_wp2_with fail
    refine (specvalid_is (R0.out.grow (by go_grown)) HC.out).mono ?_
    rintro e w1 ⟨rfl, b1⟩
    have O1 := Lib.hid ((own_new 27 (w := w) (B := w.heap.size) (Nat.le_refl _)).grow b1)
    have B1 : Hid (Below w.heap.size w w1) := Lib.hid (Below.trans (by go_grown) (b1.mono (by go_size)))
    clear b1
    go_wp2_with fail
    go_ret2
    rw [HT.out]
    exact ⟨_, rfl, O1.out, B1.out⟩
  · have HC := Lib.hid hc
    have HT := Lib.hid (turnOf_is hc)
    have h12 : l.length ≤ 12 := (isCurve_steps.1 hc).2.1
    clear hc
    go_enter Try.func25, Try.ntmps25
    go_wp2_with fail
    refine (specvalid_is (R0.out.grow (by go_grown)) HC.out).mono ?_
    rintro e w1 ⟨rfl, b1⟩
    have O1 := Lib.hid ((own_new 27 (w := w) (B := w.heap.size) (Nat.le_refl _)).grow b1)
    have B1 : Hid (Below w.heap.size w w1) := Lib.hid (Below.trans (by go_grown) (b1.mono (by go_size)))
    clear b1
    go_wp2_with fail
    go_loopg [4, 5] l.length (fun k x y wr => ∃ j : Nat, y = .int .i64 j ∧ j + k = l.length ∧ Own 27 wr w.heap.size x ((l.take j).map turnK) ∧ Below w.heap.size w wr)
    case atStart => exact ⟨0, rfl, by omega, O1.out, B1.out⟩
    case round =>
      obtain ⟨j, rfl, hk, ho, hb⟩ := hrel
      have K := Lib.hid hk; have O := Lib.hid ho; have B := Lib.hid hb
      have hjl : j ≤ l.length := by omega
      clear hk ho hb
      by_cases hlt : j < l.length
      · obtain ⟨g, o, c', e', _, _⟩ := R0.out.known (by omega)
        simp only [Value.slice.injEq] at e'
        obtain ⟨rfl, -, rfl⟩ := e'
        obtain ⟨d1, d2⟩ := (R0.out.grow B.out).cells j hlt
        have hsz := B.out.size
        have i0 : (0 : Int) ≤ (j : Int) := by omega
        have ltI : (j : Int) < (l.length : Int) := by omega
        obtain ⟨n1, n2⟩ := new_two_drew wr (.int .i64 l[j].2) (.int .i64 l[j].1) 27
        have N1 := Lib.hid n1; have N2 := Lib.hid n2
        have hnb : u4.ownBlock ≠ some g := fun e => by have := (O.out.lt g e).1; have := cell_below ((R0.out).cells j hlt).1; simp at this; omega
        have hgl : g < wr.heap.size := cell_below d1
        clear n1 n2
        go_wp2_with fail
        go_region_held3 (fun w' => w'.cell? ⟨g, o + j * 2, none⟩ = some (.int .i64 l[j].1) ∧ w'.cell? ⟨g, o + j * 2 + 1, none⟩ = some (.int .i64 l[j].2))
          (first | go_keep | (go_split_ands; exact ⟨(hgrow.cell_far _ (by simp; omega) (Ne.symm hnb)).trans ‹_›, (hgrow.cell_far _ (by simp; omega) (Ne.symm hnb)).trans ‹_›⟩))
          ((refine step_append_pair knotT (by rfl) _ _ (by rfl) (B := w.heap.size) u4 _ (by rfl) ((O.out.grow (by go_grown)).grow (by go_grown)) ⟨wr.heap.size, 0, none⟩ (l[j].2, l[j].1) (by rfl) N1.out N2.out (by simp; omega) (by simp; omega) ?_; intro v5 w5 hown5 hgrow))
        have O5 := Lib.hid hown5
        have B5 := Lib.hid (B.out.trans (((show Below wr.heap.size wr _ by go_grown).mono hsz).trans ((Below.refl _ _).grown hgrow (by simp; omega) (fun k hk => (O.out.lt k hk).1))))
        clear hown5 hgrow
        go_wp2_with fail
        go_roundg (gk - 1)
        case measure => have := K.out; omega
        case rel => exact ⟨j + 1, by go_num, by have := K.out; omega, by have := O5.out; rwa [turn_take hlt] at this, B5.out⟩
      · have hj : j = l.length := by omega
        go_wp2_with fail
        go_ret2
        rw [HT.out]
        refine ⟨_, rfl, ?_, B.out⟩
        have := O.out
        rwa [hj, List.take_length] at this

end Go.Proofs.Ythpfehjjaamkkaa
