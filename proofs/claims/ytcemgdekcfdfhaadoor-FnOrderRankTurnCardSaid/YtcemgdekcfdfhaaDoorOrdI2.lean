/- The program's table read: the orders of a part, of parts together, of those that begin with a layer of the first core; OrderCount and OrderBetween. -/
import Derived.Test.YtcemgdekcfdfhaaDoorOrdI1
namespace Go.Proofs.YtcemgdekcfdfhaaDoor
open Go.RowKit

theorem new_pt (w : World) (x y : Int) : (w.alloc (.cells #[.int .i64 x, .int .i64 y] 49)).cell? ⟨w.heap.size, 0, none⟩ = some (.int .i64 x) ∧ (w.alloc (.cells #[.int .i64 x, .int .i64 y] 49)).cell? ⟨w.heap.size, 1, none⟩ = some (.int .i64 y) ∧ Below w.heap.size w (w.alloc (.cells #[.int .i64 x, .int .i64 y] 49)) := ⟨by go_cell, by go_cell, by go_grown⟩
set_option maxHeartbeats 1600000 in
theorem of_any {w : World} {g : Nat} (h : Tab w g) (a b : Nat) (ha : a < 7) (hb : b < 7) :
    Calls Tryd.prog 26 #[.pointer (some ⟨g, 0, none⟩), .agg #[.int .i64 a, .int .i64 b]] w fun e w' => e = .returned (.int .i64 (ch a b : Nat)) ∧ Below w.heap.size w w' := by
  have t := h.cell a b ha hb
  obtain ⟨n1, n2, nb⟩ := new_pt w a b
  have t1 := (nb.cell (cell_below t)).trans t
  have NB := Lib.hid nb
  have i1 : (a : Int) < 7 := by omega
  have i2 : (b : Int) < 7 := by omega
  obtain ⟨c, hc⟩ : ∃ c, ch a b = c := ⟨_, rfl⟩
  rw [hc] at t1 ⊢
  clear t hc h nb
  go_enter Tryd.func26, Tryd.ntmps26
  go_wp2_with fail
  go_quiet (fail)
  go_wp2_with fail
  go_ret
  exact ⟨rfl, below_drews NB.out _⟩
theorem of_is {w : World} {g : Nat} (h : Tab w g) {x y : Int} {n : Nat} (hx : 0 ≤ x ∧ x ≤ 6) (hy : 0 ≤ y ∧ y ≤ 6) (hn : ch x.toNat y.toNat = n) :
    Calls Tryd.prog 26 #[.pointer (some ⟨g, 0, none⟩), .agg #[.int .i64 x, .int .i64 y]] w fun e w' => e = .returned (.int .i64 n) ∧ Below w.heap.size w w' := by
  have k := of_any h x.toNat y.toNat (by omega) (by omega)
  rw [hn, Int.toNat_of_nonneg hx.1, Int.toNat_of_nonneg hy.1] at k
  exact k
/-- How many orders of a part begin with a layer of the first core. -/
def begN (a b : Nat) : Nat := if a = 0 then 0 else ch (a - 1) b
set_option maxHeartbeats 1600000 in
theorem beg_any {w : World} {g : Nat} (h : Tab w g) (a b : Nat) (ha : a < 7) (hb : b < 7) :
    Calls Tryd.prog 38 #[.pointer (some ⟨g, 0, none⟩), .agg #[.int .i64 a, .int .i64 b]] w fun e w' => e = .returned (.int .i64 (begN a b : Nat)) ∧ Below w.heap.size w w' := by
  obtain ⟨n1, n2, nb⟩ := new_pt w a b
  have NB := Lib.hid nb
  by_cases a0 : a = 0
  · have R : Hid (begN a b = 0) := Lib.hid (by unfold begN; rw [if_pos a0])
    have e0 : ((a : Int) == 0) = true := by simpa using a0
    clear a0 nb h
    go_enter Tryd.func38, Tryd.ntmps38
    go_wp2_with fail
    go_ret
    exact ⟨by rw [R.out]; rfl, NB.out⟩
  · have e0 : ((a : Int) == 0) = false := by simpa using a0
    have R : Hid (begN a b = ch (a - 1) b) := Lib.hid (by unfold begN; rw [if_neg a0])
    obtain ⟨p, hp⟩ : ∃ p, a - 1 = p := ⟨_, rfl⟩
    have t := h.cell p b (by omega) hb
    have t1 := (nb.cell (cell_below t)).trans t
    have w1 : IntKind.i64.wrap ((a : Int) - 1) = (p : Int) := by rw [show (a : Int) - 1 = (p : Int) by omega]; exact IntWalk.i64_in _ (by omega)
    have i1 : (p : Int) < 7 := by omega
    have i2 : (b : Int) < 7 := by omega
    rw [hp] at R
    obtain ⟨c, hc⟩ : ∃ c, ch p b = c := ⟨_, rfl⟩
    rw [hc] at t1 R
    clear t hc h nb hp a0
    go_enter Tryd.func38, Tryd.ntmps38
    go_wp2_with fail
    go_quiet (fail)
    go_wp2_with fail
    go_ret
    exact ⟨by rw [R.out]; rfl, below_drews NB.out _⟩
theorem beg_is {w : World} {g : Nat} (h : Tab w g) {x y : Int} {n : Nat} (hx : 0 ≤ x ∧ x ≤ 6) (hy : 0 ≤ y ∧ y ≤ 6) (hn : begN x.toNat y.toNat = n) :
    Calls Tryd.prog 38 #[.pointer (some ⟨g, 0, none⟩), .agg #[.int .i64 x, .int .i64 y]] w fun e w' => e = .returned (.int .i64 n) ∧ Below w.heap.size w w' := by
  have k := beg_any h x.toNat y.toNat (by omega) (by omega)
  rw [hn, Int.toNat_of_nonneg hx.1, Int.toNat_of_nonneg hy.1] at k
  exact k
/-- Parts as numbers. -/
def pts (l : List Pc) : List Pt := l.map fun p => (p.1.toNat, p.2.toNat)
theorem pts_zip : ∀ (a b : List Int), pts (a.zip b) = par a b
  | [], _ => by simp [pts, par]
  | _ :: _, [] => by simp [pts, par]
  | x :: a, y :: b => by
    have := pts_zip a b
    simp only [pts] at this
    simp only [List.zip_cons_cons, pts, List.map_cons, par, this]
theorem pts_get (l : List Pc) (i : Nat) (h : i < (pts l).length) (h1 : i < l.length) : (pts l)[i] = (l[i].1.toNat, l[i].2.toNat) := by simp [pts]
theorem pts_next {l : List Pc} {j : Nat} (hj : j < l.length) : cnt (pts (l.take (j + 1))) = cnt (pts (l.take j)) * ch l[j].1.toNat l[j].2.toNat := by
  rw [List.take_succ_eq_append_getElem hj]
  simp only [pts, List.map_append, cnt_append, List.map_cons, List.map_nil, cnt, Nat.mul_one]
/-- Parts in their range. -/
def OkL (l : List Pc) : Prop := l.length ≤ 4 ∧ ∀ p ∈ l, (0 ≤ p.1 ∧ p.1 ≤ 6) ∧ (0 ≤ p.2 ∧ p.2 ≤ 6)
theorem OkL.small {l : List Pc} (h : OkL l) : Small (pts l) := fun p hp => by
  obtain ⟨q, hq, rfl⟩ := List.mem_map.1 hp
  have := h.2 q hq
  simp only; omega
theorem OkL.at {l : List Pc} (h : OkL l) (i : Nat) (hi : i < l.length) : (0 ≤ l[i].1 ∧ l[i].1 ≤ 6) ∧ (0 ≤ l[i].2 ∧ l[i].2 ≤ 6) := h.2 _ (List.getElem_mem hi)
theorem OkL.most {l : List Pc} (h : OkL l) : cnt (pts l) ≤ 728933458176 := cnt_four h.small (by simp only [pts, List.length_map]; exact h.1)
theorem OkL.take {l : List Pc} (h : OkL l) (k : Nat) : OkL (l.take k) := ⟨by rw [List.length_take]; have := h.1; omega, fun p hp => h.2 p (List.mem_of_mem_take hp)⟩
theorem OkL.drop {l : List Pc} (h : OkL l) (k : Nat) : OkL (l.drop k) := ⟨by rw [List.length_drop]; have := h.1; omega, fun p hp => h.2 p (List.mem_of_mem_drop hp)⟩
theorem okL_zip {a b : List Int} (h : IsPar a b) : OkL (a.zip b) := by
  have hl := h.len; have hm := h.most
  refine ⟨by simp; omega, fun p hp => ?_⟩
  obtain ⟨i, hi, rfl⟩ := List.getElem_of_mem hp
  have h1 : i < a.length := by simp at hi; omega
  rw [zip_get a b i hi h1 (by omega)]
  exact ⟨h.a6 i h1, h.b6 i (by omega)⟩
set_option maxRecDepth 100000 in
set_option maxHeartbeats 1600000 in
theorem ofAll_any {w : World} {g : Nat} {v : Value} {l : List Pc} (h : Tab w g) (hv : Row w v l) (ok : OkL l) :
    Calls Tryd.prog 25 #[.pointer (some ⟨g, 0, none⟩), v] w fun e w' => e = .returned (.int .i64 (cnt (pts l) : Nat)) ∧ Below w.heap.size w w' := by
  obtain ⟨a, c, rfl, h1, h2⟩ := hv.len
  have H := Lib.hid h; have HV := Lib.hid hv; have OK := Lib.hid ok
  unfold maxLen at h2
  have l4 := ok.1
  clear h hv ok
  go_enter Tryd.func25, Tryd.ntmps25
  go_wp2_with fail
  go_loopg [5, 10] l.length (fun k x y wr => ∃ j : Nat, y = .int .i64 j ∧ j + k = l.length ∧ x = .int .i64 (cnt (pts (l.take j)) : Nat) ∧ Below w.heap.size w wr)
  case atStart => exact ⟨0, rfl, by omega, rfl, Below.refl _ _⟩
  case round =>
    obtain ⟨j, rfl, hk, rfl, hb⟩ := hrel
    have K := Lib.hid hk; have B := Lib.hid hb
    have hjl : j ≤ l.length := by omega
    clear hk hb
    by_cases hlt : j < l.length
    · obtain ⟨gv, ov, c1, e1, _, _⟩ := HV.out.known (by omega)
      simp only [Value.slice.injEq, true_and] at e1
      obtain ⟨rfl, rfl⟩ := e1
      obtain ⟨d1, d2⟩ := HV.out.cells j hlt
      have y1 := (B.out.cell (cell_below d1)).trans d1
      have y2 := (B.out.cell (cell_below d2)).trans d2
      have i0 : (0 : Int) ≤ (j : Int) := by omega
      have i1 : (j : Int) < (l.length : Int) := by omega
      obtain ⟨x6, y6⟩ := OK.out.at j hlt
      have nx := pts_next hlt
      have bd := (OK.out.take (j + 1)).most
      obtain ⟨x, hx⟩ : ∃ x, l[j].1 = x := ⟨_, rfl⟩
      obtain ⟨y, hy⟩ : ∃ y, l[j].2 = y := ⟨_, rfl⟩
      rw [hx] at y1 x6 nx
      rw [hy] at y2 y6 nx
      obtain ⟨n, hn⟩ : ∃ n, cnt (pts (l.take j)) = n := ⟨_, rfl⟩
      obtain ⟨m, hm⟩ : ∃ m, cnt (pts (l.take (j + 1))) = m := ⟨_, rfl⟩
      obtain ⟨c, hc⟩ : ∃ c, ch x.toNat y.toNat = c := ⟨_, rfl⟩
      rw [hn, hm, hc] at nx
      rw [hm] at bd
      rw [hn]
      have C := Lib.hid hc; have M := Lib.hid hm
      have wm : IntKind.i64.wrap ((n : Int) * (c : Int)) = (m : Int) := by rw [nx]; push_cast; exact IntWalk.i64_in _ (by rw [← Int.natCast_mul, ← nx]; omega)
      clear d1 d2 hx hy hn hm hc nx
      have hsz := B.out.size
      have HT := Lib.hid (H.out.grow (B.out.trans ((new_pt wr x y).2.2.mono hsz)))
      have B2 := Lib.hid (B.out.trans ((new_pt wr x y).2.2.mono hsz))
      go_wp2_with fail
      refine (of_is HT.out x6 y6 C.out).mono ?_
      rintro e w2 ⟨rfl, b2⟩
      have B3 := Lib.hid (B2.out.trans (b2.mono B2.out.size))
      clear b2
      go_wp2_with fail
      go_roundg (gk - 1)
      case measure => have := K.out; omega
      case rel => exact ⟨j + 1, by go_num, by have := K.out; omega, by rw [M.out], B3.out⟩
    · have R : Hid (l.take j = l) := Lib.hid (List.take_of_length_le (by omega))
      go_wp2_with fail
      go_ret
      exact ⟨by rw [R.out]; rfl, B.out⟩
theorem ofAll_is {w : World} {g : Nat} {v : Value} {l : List Pc} {n : Nat} (h : Tab w g) (hv : Row w v l) (ok : OkL l) (hn : cnt (pts l) = n) :
    Calls Tryd.prog 25 #[.pointer (some ⟨g, 0, none⟩), v] w fun e w' => e = .returned (.int .i64 n) ∧ Below w.heap.size w w' := by
  have := ofAll_any h hv ok; rwa [hn] at this
theorem countI_any {w : World} {v u : Value} {a b : List Int} (h : IRow w v a) (k : IRow w u b) :
    Calls Tryd.prog 15 #[v, u] w fun e w' => Val w (.int .i64 (countOf a b)) e w' := by
  obtain ⟨pa, ca, rfl, h1, h2⟩ := h.len
  obtain ⟨pb, cb, rfl, k1, k2⟩ := k.len
  have H := Lib.hid h; have H' := Lib.hid k
  unfold maxLen at h2 k2
  clear h k
  cases hp : isPar a b
  · have HP := Lib.hid hp
    have R : Hid (countOf a b = -1) := Lib.hid (by unfold countOf; rw [hp]; rfl)
    clear hp
    go_enter Tryd.func15, Tryd.ntmps15
    go_wp2_with fail
    refine (partsI_no H.out H'.out HP.out).mono ?_
    rintro e w1 ⟨rfl, b1⟩
    go_wp2_with fail
    go_ret
    exact ⟨by rw [R.out]; rfl, b1⟩
  · have HP := Lib.hid hp
    have OK := Lib.hid (okL_zip (isPar_iff.1 hp))
    have R : Hid (countOf a b = (cnt (pts (a.zip b)) : Nat)) := Lib.hid (by unfold countOf; rw [if_pos hp, pts_zip])
    clear hp
    go_enter Tryd.func15, Tryd.ntmps15
    go_wp2_with fail
    refine (partsI_yes H.out H'.out HP.out).mono ?_
    rintro e w1 ⟨x, rfl, r1, b1⟩
    have B1 := Lib.hid b1
    have R1 := Lib.hid r1
    clear b1 r1
    go_wp2_with fail
    refine (countOrders_any _).mono ?_
    rintro e w2 ⟨g, rfl, _, t2, b2⟩
    have B2 := Lib.hid (B1.out.trans (b2.mono B1.out.size))
    have R2 := Lib.hid (R1.out.grow b2)
    have T2 := Lib.hid t2
    clear b2 t2
    go_wp2_with fail
    refine (ofAll_any T2.out R2.out OK.out).mono ?_
    rintro e w3 ⟨rfl, b3⟩
    have B3 := Lib.hid (B2.out.trans (b3.mono B2.out.size))
    clear b3
    go_wp2_with fail
    go_ret
    exact ⟨by rw [R.out]; rfl, B3.out⟩
end Go.Proofs.YtcemgdekcfdfhaaDoor
