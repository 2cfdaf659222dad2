/- The contracts of the program's functions on curves: turned curves, slopes. -/
import Derived.Test.YthhdpjkmjebjhabCurveAt
namespace Go.Proofs.Ythhdpjkmjebjhab
open Go.RowKit

def turnOf (l : List Pc) : Option (List Pc) := if isCurve l = true then some (l.map turnK) else none
theorem turnOf_some {l m : List Pc} (h : turnOf l = some m) : isCurve l = true ∧ m = l.map turnK := by
  unfold turnOf at h
  split at h
  · exact ⟨by assumption, by simpa using h.symm⟩
  · simp at h
theorem turnOf_is {l : List Pc} (h : isCurve l = true) : turnOf l = some (l.map turnK) := if_pos h
theorem turnOf_no {l : List Pc} (h : isCurve l = false) : turnOf l = none := if_neg (by rw [h]; simp)
theorem turn_take {l : List Pc} {j : Nat} (hj : j < l.length) : (l.take j).map turnK ++ [(l[j].2, l[j].1)] = (l.take (j + 1)).map turnK := by
  rw [List.take_succ_eq_append_getElem hj, List.map_append]; rfl
theorem new_pair (w : World) (u v : Value) (t : TypeId) : (w.alloc (.cells #[u, v] t)).cell? ⟨w.heap.size, 0, none⟩ = some u ∧ (w.alloc (.cells #[u, v] t)).cell? ⟨w.heap.size, 1, none⟩ = some v := by
  constructor <;> (rw [World.cell?_alloc_new]; rfl)

set_option maxHeartbeats 800000 in
theorem implCurveTurn_any {w : World} {v : Value} {l : List Pc} (h : Row w v l) :
    Calls Try.prog 21 #[v] w fun e w' => LstB 68 w (turnOf l) e w' := by
  obtain ⟨a, c, rfl, h1, h2⟩ := h.len
  have R0 := Lib.hid h
  unfold maxLen at h2
  clear h
  cases hc : isCurve l
  · have HC := Lib.hid hc
    have HT := Lib.hid (turnOf_no hc)
    clear hc
    go_enter Try.func21, Try.ntmps21
    go_wp2_with fail
    refine (curve_is R0.out HC.out).mono ?_
    rintro e w1 ⟨rfl, b1⟩
    go_wp2_with fail
    go_ret2
    rw [HT.out]
    exact ⟨_, rfl, own_new _ b1.size, b1.alloc b1.size _⟩
  · have HC := Lib.hid hc
    have HT := Lib.hid (turnOf_is hc)
    have h12 : l.length ≤ 12 := (isCurve_steps.1 hc).2.1
    clear hc
    go_enter Try.func21, Try.ntmps21
    go_wp2_with fail
    refine (curve_is R0.out HC.out).mono ?_
    rintro e w1 ⟨rfl, b1⟩
    have B1 := Lib.hid b1
    clear b1
    go_wp2_with fail
    go_loopg [4, 14] l.length (fun k x y wr => ∃ j : Nat, y = .int .i64 j ∧ j + k = l.length ∧ Own 68 wr w.heap.size x ((l.take j).map turnK) ∧ Below w.heap.size w wr)
    case atStart => exact ⟨0, rfl, by omega, own_new _ B1.out.size, B1.out.alloc B1.out.size _⟩
    case round =>
      obtain ⟨j, rfl, hk, ho, hb⟩ := hrel
      have K := Lib.hid hk; have O := Lib.hid ho; have B := Lib.hid hb
      have hjl : j ≤ l.length := by omega
      clear hk ho hb
      by_cases hlt : j < l.length
      · obtain ⟨g, o, c', e', _, _⟩ := R0.out.known (by omega)
        simp only [Value.slice.injEq] at e'
        obtain ⟨rfl, -, rfl⟩ := e'
        obtain ⟨d1, d2⟩ := (R0.out.grow B.out).cells j hlt
        have hsz := B.out.size
        have ltI : (j : Int) < (l.length : Int) := by omega
        obtain ⟨n1, n2⟩ := new_two (wr.alloc (.cells #[.int .i64 l[j].1, .int .i64 l[j].2] 68)) (.int .i64 l[j].2) (.int .i64 l[j].1) 68
        rw [World.size_alloc] at n1 n2
        have N1 := Lib.hid n1; have N2 := Lib.hid n2
        have BW := Lib.hid (((Below.refl wr.heap.size wr).alloc (Nat.le_refl _) (.cells #[.int .i64 l[j].1, .int .i64 l[j].2] 68)).alloc (by simp) (.cells #[.int .i64 l[j].2, .int .i64 l[j].1] 68))
        clear n1 n2
        go_wp2_with (at_builtin; refine append_pair knotT rfl _ _ rfl (B := w.heap.size) _ _ rfl (O.out.grow BW.out) ⟨wr.heap.size + 1, 0, none⟩ (l[j].2, l[j].1) rfl N1.out N2.out (by simp; omega) (by simp; omega) ?_; intro v5 w5 hown5 hg5)
        have O5 := Lib.hid hown5
        have B5 := Lib.hid (B.out.trans ((BW.out.mono hsz).trans ((O.out.grow BW.out).below hg5 (by simp; omega))))
        clear hown5 hg5
        go_wp2_with fail
        go_roundg (gk - 1)
        case measure => have := K.out; omega
        case rel => exact ⟨j + 1, by go_num, by have := K.out; omega, by have := O5.out; rwa [turn_take hlt] at this, B5.out⟩
      · have hj : j = l.length := by omega
        go_wp2_with fail
        go_ret2
        rw [HT.out]
        refine ⟨_, rfl, ?_, B.out⟩
        have := O.out
        rwa [hj, List.take_length] at this

/-- Two knots that follow each other, the first one with an index. -/
def slopeV (l : List Pc) (k : Int) : Bool := isCurve l && decide (0 ≤ k) && decide (k < (l.length : Int) - 1)
def slopeR (l : List Pc) (k : Int) : Rat := match l[k.toNat]?, l[k.toNat + 1]? with
  | some p, some q => sl p q
  | _, _ => 0
theorem slopeR_is {l : List Pc} {k : Nat} (h : k + 1 < l.length) : slopeR l k = sl l[k] l[k + 1] := by
  unfold slopeR
  rw [Int.toNat_natCast, List.getElem?_eq_getElem (by omega), List.getElem?_eq_getElem h]
theorem sl_div (p q : Pc) : sl p q = Rat.divInt (q.2 - p.2) (q.1 - p.1) := by
  rw [Rat.divInt_eq_div]; unfold sl; simp only [Rat.intCast_sub]
theorem slopeV_nat {l : List Pc} {k : Int} (h : slopeV l k = true) : ∃ j : Nat, k = j ∧ isCurve l = true ∧ j + 1 < l.length := by
  unfold slopeV at h
  simp only [Bool.and_eq_true, decide_eq_true_eq] at h
  exact ⟨k.toNat, by omega, h.1.1, by omega⟩

end Go.Proofs.Ythhdpjkmjebjhab
