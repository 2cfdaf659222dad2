/- The program's table read: the orders of a part, of parts together, of those that begin with a layer of the first core; OrderCount and OrderBetween. -/
import Derived.Test.YtcemgdekcfdfhacDoorOrdI1
namespace Go.Proofs.YtcemgdekcfdfhacDoor
open Go.RowKit

theorem new_pt (w : World) (x y : Int) : (w.alloc (.cells #[.int .i64 x, .int .i64 y] 34)).cell? ⟨w.heap.size, 0, none⟩ = some (.int .i64 x) ∧ (w.alloc (.cells #[.int .i64 x, .int .i64 y] 34)).cell? ⟨w.heap.size, 1, none⟩ = some (.int .i64 y) ∧ Below w.heap.size w (w.alloc (.cells #[.int .i64 x, .int .i64 y] 34)) := ⟨by go_cell, by go_cell, by go_grown⟩
set_option maxHeartbeats 1600000 in
theorem of_any {w : World} {g : Nat} (h : Tab w g) (a b : Nat) (ha : a < 7) (hb : b < 7) :
    Calls Tryd.prog 17 #[.pointer (some ⟨g, 0, none⟩), .agg #[.int .i64 a, .int .i64 b]] w fun e w' => e = .returned (.int .i64 (ch a b : Nat)) ∧ Below w.heap.size w w' := by
  have t := h.cell a b ha hb
  obtain ⟨n1, n2, nb⟩ := new_pt w a b
  have t1 := (nb.cell (cell_below t)).trans t
  have NB := Lib.hid nb
  have i1 : (a : Int) < 7 := by omega
  have i2 : (b : Int) < 7 := by omega
  obtain ⟨c, hc⟩ : ∃ c, ch a b = c := ⟨_, rfl⟩
  rw [hc] at t1 ⊢
  clear t hc h nb
  go_enter Tryd.func17, Tryd.ntmps17
  go_wp2_with fail
  go_quiet (fail)
  go_wp2_with fail
  go_ret
  exact ⟨rfl, below_drews NB.out _⟩
theorem of_is {w : World} {g : Nat} (h : Tab w g) {x y : Int} {n : Nat} (hx : 0 ≤ x ∧ x ≤ 6) (hy : 0 ≤ y ∧ y ≤ 6) (hn : ch x.toNat y.toNat = n) :
    Calls Tryd.prog 17 #[.pointer (some ⟨g, 0, none⟩), .agg #[.int .i64 x, .int .i64 y]] w fun e w' => e = .returned (.int .i64 n) ∧ Below w.heap.size w w' := by
  have k := of_any h x.toNat y.toNat (by omega) (by omega)
  rw [hn, Int.toNat_of_nonneg hx.1, Int.toNat_of_nonneg hy.1] at k
  exact k
/-- How many orders of a part begin with a layer of the first core. -/
def begN (a b : Nat) : Nat := if a = 0 then 0 else ch (a - 1) b
set_option maxHeartbeats 1600000 in
theorem beg_any {w : World} {g : Nat} (h : Tab w g) (a b : Nat) (ha : a < 7) (hb : b < 7) :
    Calls Tryd.prog 23 #[.pointer (some ⟨g, 0, none⟩), .agg #[.int .i64 a, .int .i64 b]] w fun e w' => e = .returned (.int .i64 (begN a b : Nat)) ∧ Below w.heap.size w w' := by
  obtain ⟨n1, n2, nb⟩ := new_pt w a b
  have NB := Lib.hid nb
  by_cases a0 : a = 0
  · have R : Hid (begN a b = 0) := Lib.hid (by unfold begN; rw [if_pos a0])
    have e0 : ((a : Int) == 0) = true := by simpa using a0
    clear a0 nb h
    go_enter Tryd.func23, Tryd.ntmps23
    go_wp2_with fail
    go_ret
    exact ⟨by rw [R.out]; rfl, NB.out⟩
  · have e0 : ((a : Int) == 0) = false := by simpa using a0
    have R : Hid (begN a b = ch (a - 1) b) := Lib.hid (by unfold begN; rw [if_neg a0])
    obtain ⟨p, hp⟩ : ∃ p, a - 1 = p := ⟨_, rfl⟩
    have t := h.cell p b (by omega) hb
    have t1 := (nb.cell (cell_below t)).trans t
    have w1 : IntKind.i64.wrap ((a : Int) - 1) = (p : Int) := by rw [show (a : Int) - 1 = (p : Int) by omega]; exact IntWalk.i64_in _ (by omega)
    have i1 : (p : Int) < 7 := by omega
    have i2 : (b : Int) < 7 := by omega
    rw [hp] at R
    obtain ⟨c, hc⟩ : ∃ c, ch p b = c := ⟨_, rfl⟩
    rw [hc] at t1 R
    clear t hc h nb hp a0
    go_enter Tryd.func23, Tryd.ntmps23
    go_wp2_with fail
    go_quiet (fail)
    go_wp2_with fail
    go_ret
    exact ⟨by rw [R.out]; rfl, below_drews NB.out _⟩
theorem beg_is {w : World} {g : Nat} (h : Tab w g) {x y : Int} {n : Nat} (hx : 0 ≤ x ∧ x ≤ 6) (hy : 0 ≤ y ∧ y ≤ 6) (hn : begN x.toNat y.toNat = n) :
    Calls Tryd.prog 23 #[.pointer (some ⟨g, 0, none⟩), .agg #[.int .i64 x, .int .i64 y]] w fun e w' => e = .returned (.int .i64 n) ∧ Below w.heap.size w w' := by
  have k := beg_any h x.toNat y.toNat (by omega) (by omega)
  rw [hn, Int.toNat_of_nonneg hx.1, Int.toNat_of_nonneg hy.1] at k
  exact k
/-- Parts as numbers. -/
def pts (l : List Pc) : List Pt := l.map fun p => (p.1.toNat, p.2.toNat)
theorem pts_zip : ∀ (a b : List Int), pts (a.zip b) = par a b
  | [], _ => by simp [pts, par]
  | _ :: _, [] => by simp [pts, par]
  | x :: a, y :: b => by
    have := pts_zip a b
    simp only [pts] at this
    simp only [List.zip_cons_cons, pts, List.map_cons, par, this]
theorem pts_get (l : List Pc) (i : Nat) (h : i < (pts l).length) (h1 : i < l.length) : (pts l)[i] = (l[i].1.toNat, l[i].2.toNat) := by simp [pts]
theorem pts_next {l : List Pc} {j : Nat} (hj : j < l.length) : cnt (pts (l.take (j + 1))) = cnt (pts (l.take j)) * ch l[j].1.toNat l[j].2.toNat := by
  rw [List.take_succ_eq_append_getElem hj]
  simp only [pts, List.map_append, cnt_append, List.map_cons, List.map_nil, cnt, Nat.mul_one]
/-- Parts in their range. -/
def OkL (l : List Pc) : Prop := l.length ≤ 4 ∧ ∀ p ∈ l, (0 ≤ p.1 ∧ p.1 ≤ 6) ∧ (0 ≤ p.2 ∧ p.2 ≤ 6)
theorem OkL.small {l : List Pc} (h : OkL l) : Small (pts l) := fun p hp => by
  obtain ⟨q, hq, rfl⟩ := List.mem_map.1 hp
  have := h.2 q hq
  simp only; omega
theorem OkL.at {l : List Pc} (h : OkL l) (i : Nat) (hi : i < l.length) : (0 ≤ l[i].1 ∧ l[i].1 ≤ 6) ∧ (0 ≤ l[i].2 ∧ l[i].2 ≤ 6) := h.2 _ (List.getElem_mem hi)
theorem OkL.most {l : List Pc} (h : OkL l) : cnt (pts l) ≤ 728933458176 := cnt_four h.small (by simp only [pts, List.length_map]; exact h.1)
theorem OkL.take {l : List Pc} (h : OkL l) (k : Nat) : OkL (l.take k) := ⟨by rw [List.length_take]; have := h.1; omega, fun p hp => h.2 p (List.mem_of_mem_take hp)⟩
theorem OkL.drop {l : List Pc} (h : OkL l) (k : Nat) : OkL (l.drop k) := ⟨by rw [List.length_drop]; have := h.1; omega, fun p hp => h.2 p (List.mem_of_mem_drop hp)⟩
theorem okL_zip {a b : List Int} (h : IsPar a b) : OkL (a.zip b) := by
  have hl := h.len; have hm := h.most
  refine ⟨by simp; omega, fun p hp => ?_⟩
  obtain ⟨i, hi, rfl⟩ := List.getElem_of_mem hp
  have h1 : i < a.length := by simp at hi; omega
  rw [zip_get a b i hi h1 (by omega)]
  exact ⟨h.a6 i h1, h.b6 i (by omega)⟩
end Go.Proofs.YtcemgdekcfdfhacDoor
