/- The contracts of the program's functions on curves: a further knot, and what it calls in the library. -/
import Derived.Test.YthpfehjjaamkkacCurveTurn
import Derived.Test.YthpfehjjaamkkacLeanWay
import Derived.Lib.AppendZerosOnto
import Derived.Lib.SliceRun
import Derived.Lib.Walk
namespace Go.Proofs.Ythpfehjjaamkkac
open Go.RowKit

theorem isNaN_any (n : Int) (w : World) : Calls Try.prog 62 #[.int .i64 n] w fun e w' => e = .returned (.bool false) ∧ w = w' := by
  have e : (n != n) = false := by simp
  go_enter Try.func62, Try.ntmps62
  go_wp2
  go_ret
  exact ⟨rfl, rfl⟩
theorem compare_any (a b : Int) (w : World) : Calls Try.prog 47 #[.int .i64 a, .int .i64 b] w fun e w' => ∃ r : Int, e = .returned (.int .i64 r) ∧ (r < 0 ↔ a < b) ∧ w = w' := by
  by_cases h1 : a < b
  · go_enter Try.func47, Try.ntmps47
    go_wp2_with fail
    refine (isNaN_any _ _).mono ?_
    rintro e w1 ⟨rfl, rfl⟩
    go_wp2_with fail
    refine (isNaN_any _ _).mono ?_
    rintro e w1 ⟨rfl, rfl⟩
    go_wp2_with fail
    go_ret
    exact ⟨-1, rfl, by omega, rfl⟩
  · by_cases h2 : b < a
    · go_enter Try.func47, Try.ntmps47
      go_wp2_with fail
      refine (isNaN_any _ _).mono ?_
      rintro e w1 ⟨rfl, rfl⟩
      go_wp2_with fail
      refine (isNaN_any _ _).mono ?_
      rintro e w1 ⟨rfl, rfl⟩
      go_wp2_with fail
      go_ret
      exact ⟨1, rfl, by omega, rfl⟩
    · go_enter Try.func47, Try.ntmps47
      go_wp2_with fail
      refine (isNaN_any _ _).mono ?_
      rintro e w1 ⟨rfl, rfl⟩
      go_wp2_with fail
      refine (isNaN_any _ _).mono ?_
      rintro e w1 ⟨rfl, rfl⟩
      go_wp2_with fail
      go_ret
      exact ⟨0, rfl, by omega, rfl⟩
theorem byX_any (p : Pc) (x : Int) (w : World) : Calls Try.prog 46 #[.agg #[.int .i64 p.1, .int .i64 p.2], .int .i64 x] w fun e w' => ∃ r : Int, e = .returned (.int .i64 r) ∧ (r < 0 ↔ p.1 < x) ∧ Below w.heap.size w w' := by
  go_enter Try.func46, Try.ntmps46
  go_wp2_with fail
  refine (compare_any _ _ _).mono ?_
  rintro e w1 ⟨r, rfl, hr, rfl⟩
  have HR := Lib.hid hr
  clear hr
  go_wp2_with fail
  go_ret
  exact ⟨r, rfl, HR.out, by go_grown⟩
/-- The first place at which a list's X is not less. -/
structure Place (l : List Pc) (x : Int) (j : Nat) : Prop where
  le : j ≤ l.length
  low : ∀ i (hi : i < l.length), i < j → l[i].1 < x
  high : ∀ hj : j < l.length, x ≤ l[j].1

def Placed (w : World) (l : List Pc) (x : Int) (e : Ending) (w' : World) : Prop := ∃ (j : Nat) (b : Bool), e = .returned (.tuple #[.int .i64 j, .bool b]) ∧ Place l x j ∧ Below w.heap.size w w'
set_option maxRecDepth 100000 in
set_option maxHeartbeats 3200000 in
theorem place_any {w : World} {v : Value} {l : List Pc} (x : Int) (h : Row w v l) (hc : isCurve l = true) :
    Calls Try.prog 45 #[v, .int .i64 x, .func (.func 46) #[] #[]] w
      fun e w' => Placed w l x e w' := by
  have h12 : l.length ≤ 12 := (isCurve_steps.1 hc).2.1
  have h02 : 2 ≤ l.length := (isCurve_steps.1 hc).1
  obtain ⟨g, o, c, rfl, k1, k2⟩ := h.known (by omega)
  unfold maxLen at k2
  have R0 := Lib.hid h; have HC := Lib.hid hc
  clear h hc
  go_enter Try.func45, Try.ntmps45
  go_wp2_with fail
  go_loopg [9, 10] l.length (fun k y z wr => ∃ i j : Nat, y = .int .i64 i ∧ z = .int .i64 j ∧ i + k = j ∧ j ≤ l.length ∧ (∀ t (ht : t < l.length), t < i → l[t].1 < x) ∧ (∀ t (ht : t < l.length), j ≤ t → x ≤ l[t].1) ∧ Below w.heap.size w wr)
  case atStart => exact ⟨0, l.length, rfl, rfl, by omega, by omega, fun t _ ht => by omega, fun t _ ht => by omega, Below.refl _ _⟩
  case round =>
    obtain ⟨i, j, rfl, rfl, hk, hjl, hlo, hhi, hb⟩ := hrel
    have K := Lib.hid hk; have LO := Lib.hid hlo; have HI := Lib.hid hhi; have B := Lib.hid hb
    have hij : i ≤ j := by omega
    clear hk hlo hhi hb
    by_cases hlt : i < j
    · have e1 : IntKind.i64.wrap ((i : Int) + (j : Int)) = (i : Int) + (j : Int) := IntWalk.i64_in _ (by omega)
      obtain ⟨m, hm⟩ : ∃ m, (i + j) / 2 = m := ⟨_, rfl⟩
      have hm1 : i ≤ m := by omega
      have hm2 : m < j := by omega
      obtain ⟨c1, c2⟩ := (R0.out.grow B.out).cells m (by omega)
      have i1 : (0 : Int) ≤ (m : Int) := by omega
      have i2 : (m : Int) < (l.length : Int) := by omega
      have i3 : (i : Int) < (j : Int) := by omega
      go_wp2_with fail
      refine (byX_any l[m] x _).mono ?_
      rintro e w1 ⟨r, rfl, hr, b1⟩
      have B1 := Lib.hid (B.out.trans (b1.mono B.out.size))
      clear b1
      have hM : ((i : Int) + (j : Int)) / 2 = (m : Int) := by omega
      simp only [hM]
      by_cases hneg : r < 0
      · have lt := hr.1 hneg
        have e2 : IntKind.i64.wrap ((m : Int) + 1) = (m : Int) + 1 := IntWalk.i64_in _ (by omega)
        have UP := Lib.hid (fun t (ht : t < l.length) (htm : t < m + 1) => Int.lt_of_le_of_lt (step_le HC.out (show t ≤ m by omega) (by omega)).1 lt)
        clear hr
        go_wp2_with fail
        go_roundg (gk - (m + 1 - i))
        case measure => have := K.out; omega
        case rel => exact ⟨m + 1, j, by go_num, rfl, by have := K.out; omega, hjl, UP.out, HI.out, B1.out⟩
      · have ge : x ≤ l[m].1 := by
          rcases Int.lt_or_le l[m].1 x with q | q
          · exact absurd (hr.2 q) hneg
          · exact q
        have DN := Lib.hid (fun t (ht : t < l.length) (htm : m ≤ t) => Int.le_trans ge (step_le HC.out htm ht).1)
        clear hr
        go_wp2_with fail
        go_roundg (m - i)
        case measure => have := K.out; omega
        case rel => exact ⟨i, m, rfl, rfl, by omega, by omega, LO.out, DN.out, B1.out⟩
    · obtain rfl : i = j := by omega
      have PL : Hid (Place l x i) := Lib.hid ⟨hjl, LO.out, fun hj => HI.out i hj (Nat.le_refl _)⟩
      by_cases hn : i < l.length
      · obtain ⟨c1, c2⟩ := (R0.out.grow B.out).cells i hn
        have i1 : (0 : Int) ≤ (i : Int) := by omega
        have i2 : (i : Int) < (l.length : Int) := by omega
        go_wp2_with fail
        refine (byX_any l[i] x _).mono ?_
        rintro e w1 ⟨r, rfl, hr, b1⟩
        have B1 := Lib.hid (B.out.trans (b1.mono B.out.size))
        clear b1 hr
        go_wp2_with fail
        go_ret2
        exact ⟨i, _, rfl, PL.out, B1.out⟩
      · have i2 : ¬ (i : Int) < (l.length : Int) := by omega
        go_wp2_with fail
        go_ret2
        exact ⟨i, _, rfl, PL.out, B.out⟩

set_option maxHeartbeats 1600000 in
theorem grow_any (n : Nat) (w : World) (h0 : 0 < n) (hn : n ≤ 1000) :
    Calls Try.prog 63 #[.slice none 0 0, .int .i64 n] w fun e w' => ∃ v, e = .returned v ∧ Own 29 w' w.heap.size v [] ∧ Below w.heap.size w w' := by
  obtain ⟨i0, hi0, hz0, hz1, hz2⟩ := info_parts knotT.info
  have hG := grownCap_ge w n 0 29
  have hG2 := grownCap_le_maxLen w n 0 29 (by unfold maxLen; omega)
  have hrz : ∀ ty, (Builtin.append_ #[23, 3] ty #[.slice none 0 0, .int .i64 n]).run Try.prog w =
      .ok (.slice (some ⟨w.heap.size, 0, none⟩) n (grownCap w n 0 29)) (w.drew.alloc (.cells (#[] ++ Builtin.zeroCells (Value.agg #[.int .i64 0, .int .i64 0]).cells n ++ Builtin.zeroCells (Value.agg #[.int .i64 0, .int .i64 0]).cells (grownCap w n 0 29 - n)) 29)) := fun ty => by
    have h := Lib.run_append_grow_zeros w 23 3 ty 29 i0 (.agg #[.int .i64 0, .int .i64 0]) .i64 .i64 Try.underlying23 Try.underlying3 hi0 hz0 none 0 0 []
      (run_firstCells_none w.drew i0.size 0 0 0) n h0 (by omega) (by omega) (by omega) (by rw [hz2]; omega) (by rw [hz2]; exact growslice_fits (by omega) (by omega))
    rw [Nat.zero_add] at h
    exact h
  obtain ⟨G, hGe⟩ : ∃ G, G = grownCap w n 0 29 := ⟨_, rfl⟩
  rw [← hGe] at hG hG2 hrz
  have hG63 : G ≤ 9223372036854775807 := by unfold maxLen at hG2; omega
  have hsz : (Builtin.zeroCells #[Value.int .i64 0, .int .i64 0] n ++ Builtin.zeroCells #[Value.int .i64 0, .int .i64 0] (G - n)).size = G * 2 := by
    rw [Array.size_append, size_zeroCells, size_zeroCells]
    simp only [Array.size, List.length_cons, List.length_nil]
    omega
  have OW : Hid (Own 29 (w.alloc (.cells (Builtin.zeroCells #[Value.int .i64 0, .int .i64 0] n ++ Builtin.zeroCells #[Value.int .i64 0, .int .i64 0] (G - n)) 29)).drew w.heap.size (.slice (some ⟨w.heap.size, 0, none⟩) 0 G) []) := Lib.hid
    ⟨rfl, .inr ⟨w.heap.size, G, _, rfl, Nat.le_refl _, (by first | exact Array.getElem?_push_size | simp : _ = some (Obj.cells (Builtin.zeroCells #[Value.int .i64 0, .int .i64 0] n ++ Builtin.zeroCells #[Value.int .i64 0, .int .i64 0] (G - n)) 29 (0, 0))), Nat.zero_le _, hG2, hsz, rfl⟩⟩
  have h1 : ¬ ((n : Int) < 0) := by omega
  have h2 : IntKind.i64.wrap ((0 : Int) - 0) = 0 := IntWalk.i64_in _ (by omega)
  have h3 : IntKind.i64.wrap ((n : Int) - 0) = n := by rw [Int.sub_zero]; exact IntWalk.i64_in _ (by omega)
  have h4 : (n : Int) > 0 := by omega
  clear hGe
  go_enter Try.func63, Try.ntmps63
  go_wp2_with (at_builtin; refine Lib.wpList_append_run _ rfl _ _ _ _ rfl _ _ rfl rfl _ _ (hrz _) ?_)
  go_ret
  exact ⟨_, rfl, OW.out, by go_grown⟩

/-- A slice with an address, that holds a list. -/
def News (w : World) (v : Value) (l : List Pc) : Prop := ∃ ad c, v = .slice (some ad) l.length c ∧ ∀ j u, (cells2 l)[j]? = some u → w.cell? (ad.add j) = some u
theorem News.grow {w w' : World} {v : Value} {l : List Pc} (h : News w v l) (k : Below w.heap.size w w') : News w' v l := by
  obtain ⟨ad, c, e, hn⟩ := h
  exact ⟨ad, c, e, fun j u hu => (k.cell (cell_below (hn j u hu))).trans (hn j u hu)⟩
theorem Row.with {w : World} {g o n c : Nat} {l : List Pc} (h : Row w (.slice (some ⟨g, o, none⟩) n c) l) : News w (.slice (some ⟨g, o, none⟩) n c) l := by
  have hn : n = l.length := by obtain ⟨_, n', _, e, h1, _⟩ := h; simp only [Value.slice.injEq] at e; omega
  subst hn
  exact ⟨_, c, rfl, lies_news fun i hi => h.cells i hi⟩
theorem news_nil (w : World) (ad : Addr) (c : Nat) : News w (.slice (some ad) 0 c) [] := ⟨ad, c, rfl, fun j u hu => by simp [cells2] at hu⟩
def sumTo (l0 l1 l2 : List Pc) : Nat → Nat
  | 0 => 0 | 1 => l0.length | 2 => l0.length + l1.length | _ => l0.length + l1.length + l2.length
def allTo (l0 l1 l2 : List Pc) : Nat → List Pc
  | 0 => [] | 1 => l0 | 2 => l0 ++ l1 | _ => l0 ++ l1 ++ l2
theorem allTo_len (l0 l1 l2 : List Pc) (j : Nat) : (allTo l0 l1 l2 j).length ≤ l0.length + l1.length + l2.length := by
  match j with
  | 0 => simp [allTo]
  | 1 => simp [allTo]; omega
  | 2 => simp [allTo]
  | j + 3 => simp [allTo]; omega

set_option maxRecDepth 100000 in
set_option maxHeartbeats 3200000 in
theorem concat_any {w : World} {b : Nat} {v0 v1 v2 : Value} {l0 l1 l2 : List Pc} (c0 : w.cell? ⟨b, 0, none⟩ = some v0) (c1 : w.cell? ⟨b, 1, none⟩ = some v1) (c2 : w.cell? ⟨b, 2, none⟩ = some v2)
    (n0 : News w v0 l0) (n1 : News w v1 l1) (n2 : News w v2 l2) (hpos : 0 < l0.length + l1.length + l2.length) (hle : l0.length + l1.length + l2.length ≤ 1000) :
    Calls Try.prog 48 #[.slice (some ⟨b, 0, none⟩) 3 3] w fun e w' => ∃ v, e = .returned v ∧ Own 29 w' w.heap.size v (l0 ++ l1 ++ l2) ∧ Below w.heap.size w w' := by
  obtain ⟨a0, p0, rfl, d0⟩ := n0
  obtain ⟨a1, p1, rfl, d1⟩ := n1
  obtain ⟨a2, p2, rfl, d2⟩ := n2
  have N0 := Lib.hid d0; have N1 := Lib.hid d1; have N2 := Lib.hid d2
  have hbw := cell_below c0
  clear d0 d1 d2
  go_enter Try.func48, Try.ntmps48
  go_wp2_with fail
  go_loopg [3, 11] 3 (fun k x y wr => ∃ j : Nat, y = .int .i64 j ∧ j + k = 3 ∧ x = .int .i64 (sumTo l0 l1 l2 j : Nat) ∧ w = wr)
  case atStart => exact ⟨0, rfl, rfl, rfl, rfl⟩
  case round =>
    obtain ⟨j, rfl, hk, rfl, rfl⟩ := hrel
    have hj : j = 0 ∨ j = 1 ∨ j = 2 ∨ j = 3 := by omega
    have K := Lib.hid hk
    clear hk
    rcases hj with rfl | rfl | rfl | rfl
    · simp only [sumTo]
      go_wp2_with fail
      go_roundg 2
      case measure => have := K.out; omega
      case rel => exact ⟨1, by go_num, by omega, by first | rfl | (simp [sumTo]; done) | go_num, rfl⟩
    · simp only [sumTo]
      go_wp2_with fail
      go_roundg 1
      case measure => have := K.out; omega
      case rel => exact ⟨2, by go_num, by omega, by first | rfl | (simp [sumTo]; done) | go_num, rfl⟩
    · simp only [sumTo]
      go_wp2_with fail
      go_roundg 0
      case measure => have := K.out; omega
      case rel => exact ⟨3, by go_num, by omega, by first | rfl | (simp [sumTo]; done) | go_num, rfl⟩
    · simp only [sumTo]
      clear K
      go_wp2_with fail
      refine (grow_any _ _ hpos hle).mono ?_
      rintro e w1 ⟨v, rfl, ho, hb⟩
      have O1 := Lib.hid ho; have B1 := Lib.hid hb
      have e0 := (hb.cell (p := ⟨b, 0, none⟩) hbw).trans c0
      have e1 := (hb.cell (p := ⟨b, 1, none⟩) hbw).trans c1
      have e2 := (hb.cell (p := ⟨b, 2, none⟩) hbw).trans c2
      clear ho hb
      go_wp2_with fail
      go_loopg [6, 27] 3 (fun k x y wr => ∃ j : Nat, y = .int .i64 j ∧ j + k = 3 ∧ Own 29 wr w.heap.size x (allTo l0 l1 l2 j) ∧ Below w.heap.size w wr)
      case atStart => exact ⟨0, rfl, rfl, O1.out, B1.out⟩
      case round =>
        obtain ⟨j, rfl, hk, ho, hb⟩ := hrel
        have hj : j = 0 ∨ j = 1 ∨ j = 2 ∨ j = 3 := by omega
        have K := Lib.hid hk; have O := Lib.hid ho; have B := Lib.hid hb
        replace e0 := (hb.cell (p := ⟨b, 0, none⟩) hbw).trans c0
        replace e1 := (hb.cell (p := ⟨b, 1, none⟩) hbw).trans c1
        replace e2 := (hb.cell (p := ⟨b, 2, none⟩) hbw).trans c2
        clear hk ho hb
        rcases hj with rfl | rfl | rfl | rfl
        · simp only [allTo] at O
          go_wp2_with (at_builtin; refine append_list knotT rfl _ _ rfl (B := w.heap.size) _ _ rfl O.out a0 l0.length p0 l0 rfl rfl (fun j u hu => (B.out.cell (cell_below (N0.out j u hu))).trans (N0.out j u hu)) (by first | omega | (simp only [List.length_nil]; omega)) B.out.size ?_; intro v5 w5 hown5 hg5)
          have O5 := Lib.hid hown5
          have B5 := Lib.hid (B.out.trans (O.out.below hg5 B.out.size))
          clear hown5 hg5
          go_wp2_with fail
          go_roundg 2
          case measure => have := K.out; omega
          case rel => exact ⟨1, by go_num, by omega, by first | exact O5.out | (simp only [allTo]; simpa using O5.out), B5.out⟩
        · simp only [allTo] at O
          go_wp2_with (at_builtin; refine append_list knotT rfl _ _ rfl (B := w.heap.size) _ _ rfl O.out a1 l1.length p1 l1 rfl rfl (fun j u hu => (B.out.cell (cell_below (N1.out j u hu))).trans (N1.out j u hu)) (by omega) B.out.size ?_; intro v5 w5 hown5 hg5)
          have O5 := Lib.hid hown5
          have B5 := Lib.hid (B.out.trans (O.out.below hg5 B.out.size))
          clear hown5 hg5
          go_wp2_with fail
          go_roundg 1
          case measure => have := K.out; omega
          case rel => exact ⟨2, by go_num, by omega, by first | exact O5.out | (simp only [allTo]; simpa using O5.out), B5.out⟩
        · simp only [allTo] at O
          go_wp2_with (at_builtin; refine append_list knotT rfl _ _ rfl (B := w.heap.size) _ _ rfl O.out a2 l2.length p2 l2 rfl rfl (fun j u hu => (B.out.cell (cell_below (N2.out j u hu))).trans (N2.out j u hu)) (by first | omega | (simp only [List.length_append]; omega)) B.out.size ?_; intro v5 w5 hown5 hg5)
          have O5 := Lib.hid hown5
          have B5 := Lib.hid (B.out.trans (O.out.below hg5 B.out.size))
          clear hown5 hg5
          go_wp2_with fail
          go_roundg 0
          case measure => have := K.out; omega
          case rel => exact ⟨3, by go_num, by omega, by first | exact O5.out | (simp only [allTo]; simpa using O5.out), B5.out⟩
        · clear K
          go_wp2_with fail
          go_ret
          exact ⟨_, rfl, O.out, B.out⟩

theorem add_place {k : Pc} {l : List Pc} {j : Nat} (h : Place l k.1 j) : l.take j ++ [k] ++ l.drop j = ins k l := by
  rw [List.append_assoc]; exact ins_at j h.le h.low h.high
theorem pair_news {w : World} {b : Nat} {k : Pc} (h0 : w.cell? ⟨b, 0, none⟩ = some (.int .i64 k.1)) (h1 : w.cell? ⟨b, 1, none⟩ = some (.int .i64 k.2)) : News w (.slice (some ⟨b, 0, none⟩) 1 1) [k] := by
  refine ⟨_, 1, rfl, fun j u hu => ?_⟩
  rw [Addr.add_lit, Nat.zero_add]
  match j, hu with
  | 0, hu => cases hu; exact h0
  | 1, hu => cases hu; exact h1

set_option maxRecDepth 100000 in
set_option maxHeartbeats 3200000 in
theorem implCurveAdd_any {w : World} {v : Value} {l : List Pc} (k : Pc) (h : Row w v l) :
    Calls Try.prog 16 #[v, .agg #[.int .i64 k.1, .int .i64 k.2]] w fun e w' => LstB 29 w (addOf k l) e w' := by
  obtain ⟨a, c, rfl, h1, h2⟩ := h.len
  have R0 := Lib.hid h
  unfold maxLen at h2
  clear h
  cases hc : isCurve l
  · have HC := Lib.hid hc
    have HT := Lib.hid (addOf_no (k := k) hc)
    clear hc
    go_enter Try.func16, Try.ntmps16
    go_wp2_with fail
    refine (curve_is (R0.out.grow (by go_grown)) HC.out).mono ?_
    rintro e w1 ⟨rfl, b1⟩
    have B1 : Hid (Below w.heap.size w w1) := Lib.hid (Below.trans (by go_grown) (b1.mono (by go_size)))
    clear b1
    go_wp2_with fail
    go_ret2
    rw [HT.out]
    exact ⟨_, rfl, own_new _ B1.out.size, B1.out.alloc B1.out.size _⟩
  · have HC := Lib.hid hc
    have h12 : l.length ≤ 12 := (isCurve_steps.1 hc).2.1
    have h02 : 2 ≤ l.length := (isCurve_steps.1 hc).1
    clear hc
    obtain ⟨g, o, c', e', _, _⟩ := R0.out.known (by omega)
    simp only [Value.slice.injEq] at e'
    obtain ⟨rfl, -, rfl⟩ := e'
    go_enter Try.func16, Try.ntmps16
    go_wp2_with fail
    refine (curve_is (R0.out.grow (by go_grown)) HC.out).mono ?_
    rintro e w1 ⟨rfl, b1⟩
    obtain ⟨x0, x1, x2, x3⟩ := below_two w.heap.size (.int .i64 k.1) (.int .i64 k.2) b1 (by go_cell) (by go_cell) (by go_simp) (by go_simp)
    have hl1 : w.heap.size < w1.heap.size := by have := b1.size; simp at this; omega
    have B1 : Hid (Below w.heap.size w w1) := Lib.hid (Below.trans (by go_grown) (b1.mono (by go_size)))
    clear b1
    go_wp2_with fail
    refine (place_any k.1 (R0.out.grow B1.out) HC.out).mono ?_
    rintro e w2 ⟨j, b, rfl, hp, b2⟩
    have B2 := Lib.hid (B1.out.trans (b2.mono B1.out.size))
    replace x0 := (b2.cell (p := ⟨w.heap.size, 0, none⟩) hl1).trans x0
    replace x1 := (b2.cell (p := ⟨w.heap.size, 1, none⟩) hl1).trans x1
    have hl2 : w.heap.size < w2.heap.size := by have := b2.size; omega
    have FD := Lib.hid (add_place hp)
    have hjl := hp.le
    clear b2 hp x2 x3
    have T1 := Lib.hid ((R0.out.grow B2.out).take j hjl).with
    by_cases hlt : j < l.length
    · have i1 : (j : Int) < (l.length : Int) := by omega
      have i2 : (0 : Int) ≤ (j : Int) := by omega
      have i3 : (j : Int) ≤ (c : Int) := by omega
      have i4 : (j : Int) ≤ (l.length : Int) := by omega
      have i5 : ¬ c = j := by omega
      have T2 := Lib.hid ((R0.out.grow B2.out).drop j hjl).with
      go_wp2_with fail
      go_region_held3 (fun w' => w'.cell? ⟨w.heap.size, 0, none⟩ = some (.int .i64 k.1) ∧ w'.cell? ⟨w.heap.size, 1, none⟩ = some (.int .i64 k.2))
        (first | go_keep | (go_split_ands; exact held2 hb5 ‹_› ‹_›))
        ((go_at_call 48; refine (concat_any (b := w2.heap.size + 1) (l1 := [k]) (by go_cell) (by go_cell) (by go_cell) (T1.out.grow (by go_grown)) (pair_news (b := w2.heap.size) (by go_cell) (by go_cell)) (T2.out.grow (by go_grown)) (by first | (simp; done) | (simp; omega)) (by simp; omega)).mono ?_; rintro e w5 ⟨v5, rfl, ho5, hb5⟩))
      all_goals
        rw [FD.out] at ho5
        have B5 : Hid (Below w.heap.size w w5) := Lib.hid (B2.out.trans ((Below.trans (by go_grown) (hb5.mono (by go_size)) : Below w2.heap.size w2 w5).mono B2.out.size))
        have O5 := Lib.hid (ho5.mono (show w.heap.size ≤ _ by simp; omega))
        clear ho5 hb5
        cases hc2 : isCurve (ins k l)
        · have HT := Lib.hid (addOf_no2 hc2)
          have HC2 := Lib.hid hc2
          clear hc2
          go_wp2_with fail
          refine (curve_is O5.out.row HC2.out).mono ?_
          rintro e w8 ⟨rfl, b8⟩
          have B8 := Lib.hid (B5.out.trans (b8.mono B5.out.size))
          clear b8
          go_wp2_with fail
          go_ret2
          rw [HT.out]
          exact ⟨_, rfl, own_new _ B8.out.size, B8.out.alloc B8.out.size _⟩
        · have HT := Lib.hid (addOf_is HC.out hc2)
          have HC2 := Lib.hid hc2
          clear hc2
          go_wp2_with fail
          refine (curve_is O5.out.row HC2.out).mono ?_
          rintro e w8 ⟨rfl, b8⟩
          have B8 := Lib.hid (B5.out.trans (b8.mono B5.out.size))
          have O8 := Lib.hid (O5.out.grow b8)
          clear b8
          go_wp2_with fail
          go_ret2
          rw [HT.out]
          exact ⟨_, rfl, O8.out, B8.out⟩
    · obtain rfl : j = l.length := by omega
      rw [List.drop_length] at FD
      by_cases hcc : c = l.length
      · subst hcc
        have T2 := Lib.hid (news_nil w2 ⟨g, o, none⟩ 0)
        go_wp2_with fail
        go_region_held3 (fun w' => w'.cell? ⟨w.heap.size, 0, none⟩ = some (.int .i64 k.1) ∧ w'.cell? ⟨w.heap.size, 1, none⟩ = some (.int .i64 k.2))
          (first | go_keep | (go_split_ands; exact held2 hb5 ‹_› ‹_›))
          ((go_at_call 48; refine (concat_any (b := w2.heap.size + 1) (l1 := [k]) (by go_cell) (by go_cell) (by go_cell) (T1.out.grow (by go_grown)) (pair_news (b := w2.heap.size) (by go_cell) (by go_cell)) (T2.out.grow (by go_grown)) (by first | (simp; done) | (simp; omega)) (by simp; omega)).mono ?_; rintro e w5 ⟨v5, rfl, ho5, hb5⟩))
        all_goals
          rw [FD.out] at ho5
          have B5 : Hid (Below w.heap.size w w5) := Lib.hid (B2.out.trans ((Below.trans (by go_grown) (hb5.mono (by go_size)) : Below w2.heap.size w2 w5).mono B2.out.size))
          have O5 := Lib.hid (ho5.mono (show w.heap.size ≤ _ by simp; omega))
          clear ho5 hb5
          cases hc2 : isCurve (ins k l)
          · have HT := Lib.hid (addOf_no2 hc2)
            have HC2 := Lib.hid hc2
            clear hc2
            go_wp2_with fail
            refine (curve_is O5.out.row HC2.out).mono ?_
            rintro e w8 ⟨rfl, b8⟩
            have B8 := Lib.hid (B5.out.trans (b8.mono B5.out.size))
            clear b8
            go_wp2_with fail
            go_ret2
            rw [HT.out]
            exact ⟨_, rfl, own_new _ B8.out.size, B8.out.alloc B8.out.size _⟩
          · have HT := Lib.hid (addOf_is HC.out hc2)
            have HC2 := Lib.hid hc2
            clear hc2
            go_wp2_with fail
            refine (curve_is O5.out.row HC2.out).mono ?_
            rintro e w8 ⟨rfl, b8⟩
            have B8 := Lib.hid (B5.out.trans (b8.mono B5.out.size))
            have O8 := Lib.hid (O5.out.grow b8)
            clear b8
            go_wp2_with fail
            go_ret2
            rw [HT.out]
            exact ⟨_, rfl, O8.out, B8.out⟩
      · have T2 := Lib.hid (news_nil w2 ⟨g, o + l.length * 2, none⟩ (c - l.length))
        go_wp2_with fail
        go_region_held3 (fun w' => w'.cell? ⟨w.heap.size, 0, none⟩ = some (.int .i64 k.1) ∧ w'.cell? ⟨w.heap.size, 1, none⟩ = some (.int .i64 k.2))
          (first | go_keep | (go_split_ands; exact held2 hb5 ‹_› ‹_›))
          ((go_at_call 48; refine (concat_any (b := w2.heap.size + 1) (l1 := [k]) (by go_cell) (by go_cell) (by go_cell) (T1.out.grow (by go_grown)) (pair_news (b := w2.heap.size) (by go_cell) (by go_cell)) (T2.out.grow (by go_grown)) (by first | (simp; done) | (simp; omega)) (by simp; omega)).mono ?_; rintro e w5 ⟨v5, rfl, ho5, hb5⟩))
        all_goals
          rw [FD.out] at ho5
          have B5 : Hid (Below w.heap.size w w5) := Lib.hid (B2.out.trans ((Below.trans (by go_grown) (hb5.mono (by go_size)) : Below w2.heap.size w2 w5).mono B2.out.size))
          have O5 := Lib.hid (ho5.mono (show w.heap.size ≤ _ by simp; omega))
          clear ho5 hb5
          cases hc2 : isCurve (ins k l)
          · have HT := Lib.hid (addOf_no2 hc2)
            have HC2 := Lib.hid hc2
            clear hc2
            go_wp2_with fail
            refine (curve_is O5.out.row HC2.out).mono ?_
            rintro e w8 ⟨rfl, b8⟩
            have B8 := Lib.hid (B5.out.trans (b8.mono B5.out.size))
            clear b8
            go_wp2_with fail
            go_ret2
            rw [HT.out]
            exact ⟨_, rfl, own_new _ B8.out.size, B8.out.alloc B8.out.size _⟩
          · have HT := Lib.hid (addOf_is HC.out hc2)
            have HC2 := Lib.hid hc2
            clear hc2
            go_wp2_with fail
            refine (curve_is O5.out.row HC2.out).mono ?_
            rintro e w8 ⟨rfl, b8⟩
            have B8 := Lib.hid (B5.out.trans (b8.mono B5.out.size))
            have O8 := Lib.hid (O5.out.grow b8)
            clear b8
            go_wp2_with fail
            go_ret2
            rw [HT.out]
            exact ⟨_, rfl, O8.out, B8.out⟩
end Go.Proofs.Ythpfehjjaamkkac
