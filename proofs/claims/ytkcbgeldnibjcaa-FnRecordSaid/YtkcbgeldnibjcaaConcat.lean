/- slices.Grow and slices.Concat on lists of integers, walked by hand. -/
import Derived.Test.YtkcbgeldnibjcaaInts
import Derived.Test.YtkcbgeldnibjcaaRegion
import Derived.Lib.AppendZerosOnto
import Derived.Lib.SliceRun
import Derived.Lib.Walk
namespace Go.Proofs.Ytkcbgeldnibjcaa
open Go.RowKit

/-- A slice with an address, that holds a list. -/
def INews (w : World) (v : Value) (l : List Int) : Prop := ∃ ad c, v = .slice (some ad) l.length c ∧ ∀ j u, (cells1 l)[j]? = some u → w.cell? (ad.add j) = some u
theorem INews.grow {w w' : World} {v : Value} {l : List Int} (h : INews w v l) (k : Below w.heap.size w w') : INews w' v l := by
  obtain ⟨ad, c, e, hn⟩ := h
  exact ⟨ad, c, e, fun j u hu => (k.cell (cell_below (hn j u hu))).trans (hn j u hu)⟩
theorem IRow.with {w : World} {g o n c : Nat} {l : List Int} (h : IRow w (.slice (some ⟨g, o, none⟩) n c) l) : INews w (.slice (some ⟨g, o, none⟩) n c) l := by
  have hn : n = l.length := by obtain ⟨_, n', _, e, h1, _⟩ := h; simp only [Value.slice.injEq] at e; omega
  subst hn
  exact ⟨_, c, rfl, ilies_news fun i hi => h.cells i hi⟩
theorem inews_nil (w : World) (ad : Addr) (c : Nat) : INews w (.slice (some ad) 0 c) [] := ⟨ad, c, rfl, fun j u hu => by simp [cells1] at hu⟩
theorem inews_one {w : World} {b : Nat} {x : Int} (h0 : w.cell? ⟨b, 0, none⟩ = some (.int .i64 x)) : INews w (.slice (some ⟨b, 0, none⟩) 1 1) [x] := by
  refine ⟨_, 1, rfl, fun j u hu => ?_⟩
  rw [Addr.add_lit, Nat.zero_add]
  match j, hu with
  | 0, hu => cases hu; exact h0
theorem edgesT : IntT 54 := Try.underlying54
theorem intsT2 : IntT 23 := Try.underlying23

set_option maxHeartbeats 1600000 in
theorem growE_any (n : Nat) (w : World) (h0 : 0 < n) (hn : n ≤ 1000) :
    Calls Try.prog 67 #[.slice none 0 0, .int .i64 n] w fun e w' => ∃ v, e = .returned v ∧ IOwn w' w.heap.size v [] ∧ Below w.heap.size w w' := by
  obtain ⟨i0, hi0, hz0, hz1, hz2⟩ := info_parts intInfo
  have hG := grownCap_ge w n 0 3
  have hG2 := grownCap_le_maxLen w n 0 3 (by unfold maxLen; omega)
  have hrz : ∀ ty, (Builtin.append_ #[54, 3] ty #[.slice none 0 0, .int .i64 n]).run Try.prog w =
      .ok (.slice (some ⟨w.heap.size, 0, none⟩) n (grownCap w n 0 3)) (w.drew.alloc (.cells (#[] ++ Builtin.zeroCells (Value.int .i64 0).cells n ++ Builtin.zeroCells (Value.int .i64 0).cells (grownCap w n 0 3 - n)) 3)) := fun ty => by
    have h := Lib.run_append_grow_zeros w 54 3 ty 3 i0 (.int .i64 0) .i64 .i64 Try.underlying54 Try.underlying3 hi0 hz0 none 0 0 []
      (run_firstCells_none w.drew i0.size 0 0 0) n h0 (by omega) (by omega) (by omega) (by rw [hz2]; omega) (by rw [hz2]; exact growslice_fits (by omega) (by omega))
    rw [Nat.zero_add] at h
    exact h
  obtain ⟨G, hGe⟩ : ∃ G, G = grownCap w n 0 3 := ⟨_, rfl⟩
  rw [← hGe] at hG hG2 hrz
  have hG63 : G ≤ 9223372036854775807 := by unfold maxLen at hG2; omega
  have hsz : (Builtin.zeroCells #[Value.int .i64 0] n ++ Builtin.zeroCells #[Value.int .i64 0] (G - n)).size = G * 1 := by
    rw [Array.size_append, size_zeroCells, size_zeroCells]
    simp only [Array.size, List.length_cons, List.length_nil]
    omega
  have OW : Hid (IOwn (w.alloc (.cells (Builtin.zeroCells #[Value.int .i64 0] n ++ Builtin.zeroCells #[Value.int .i64 0] (G - n)) 3)).drew w.heap.size (.slice (some ⟨w.heap.size, 0, none⟩) 0 G) []) := Lib.hid
    ⟨rfl, .inr ⟨w.heap.size, G, _, rfl, Nat.le_refl _, (by first | exact Array.getElem?_push_size | simp : _ = some (Obj.cells (Builtin.zeroCells #[Value.int .i64 0] n ++ Builtin.zeroCells #[Value.int .i64 0] (G - n)) 3 (0, 0))), Nat.zero_le _, hG2, hsz, rfl⟩⟩
  have h1 : ¬ ((n : Int) < 0) := by omega
  have h2 : IntKind.i64.wrap ((0 : Int) - 0) = 0 := IntWalk.i64_in _ (by omega)
  have h3 : IntKind.i64.wrap ((n : Int) - 0) = n := by rw [Int.sub_zero]; exact IntWalk.i64_in _ (by omega)
  have h4 : (n : Int) > 0 := by omega
  clear hGe
  go_enter Try.func67, Try.ntmps67
  go_wp2_with (at_builtin; refine Lib.wpList_append_run _ rfl _ _ _ _ rfl _ _ rfl rfl _ _ (hrz _) ?_)
  go_ret
  exact ⟨_, rfl, OW.out, by go_grown⟩

def sumE (l0 l1 : List Int) : Nat → Nat
  | 0 => 0 | 1 => l0.length | _ => l0.length + l1.length
def allE (l0 l1 : List Int) : Nat → List Int
  | 0 => [] | 1 => l0 | _ => l0 ++ l1

set_option maxRecDepth 100000 in
set_option maxHeartbeats 3200000 in
theorem concatE_any {w : World} {b : Nat} {v0 v1 : Value} {l0 l1 : List Int} (c0 : w.cell? ⟨b, 0, none⟩ = some v0) (c1 : w.cell? ⟨b, 1, none⟩ = some v1)
    (n0 : INews w v0 l0) (n1 : INews w v1 l1) (hpos : 0 < l0.length + l1.length) (hle : l0.length + l1.length ≤ 1000) :
    Calls Try.prog 63 #[.slice (some ⟨b, 0, none⟩) 2 2] w fun e w' => ∃ v, e = .returned v ∧ IOwn w' w.heap.size v (l0 ++ l1) ∧ Below w.heap.size w w' := by
  obtain ⟨a0, p0, rfl, d0⟩ := n0
  obtain ⟨a1, p1, rfl, d1⟩ := n1
  have N0 := Lib.hid d0; have N1 := Lib.hid d1
  have hbw := cell_below c0
  clear d0 d1
  go_enter Try.func63, Try.ntmps63
  go_wp2_with fail
  go_loopg [3, 11] 2 (fun k x y wr => ∃ j : Nat, y = .int .i64 j ∧ j + k = 2 ∧ x = .int .i64 (sumE l0 l1 j : Nat) ∧ w = wr)
  case atStart => exact ⟨0, rfl, rfl, rfl, rfl⟩
  case round =>
    obtain ⟨j, rfl, hk, rfl, rfl⟩ := hrel
    have hj : j = 0 ∨ j = 1 ∨ j = 2 := by omega
    have K := Lib.hid hk
    clear hk
    rcases hj with rfl | rfl | rfl
    · simp only [sumE]
      go_wp2_with fail
      go_roundg 1
      case measure => have := K.out; omega
      case rel => exact ⟨1, by go_num, by omega, by first | rfl | (simp [sumE]; done) | go_num, rfl⟩
    · simp only [sumE]
      go_wp2_with fail
      go_roundg 0
      case measure => have := K.out; omega
      case rel => exact ⟨2, by go_num, by omega, by first | rfl | (simp [sumE]; done) | go_num, rfl⟩
    · simp only [sumE]
      clear K
      go_wp2_with fail
      refine (growE_any _ _ hpos hle).mono ?_
      rintro e w1 ⟨v, rfl, ho, hb⟩
      have O1 := Lib.hid ho; have B1 := Lib.hid hb
      have e0 := (hb.cell (p := ⟨b, 0, none⟩) hbw).trans c0
      have e1 := (hb.cell (p := ⟨b, 1, none⟩) hbw).trans c1
      clear ho hb
      go_wp2_with fail
      go_loopg [6, 27] 2 (fun k x y wr => ∃ j : Nat, y = .int .i64 j ∧ j + k = 2 ∧ IOwn wr w.heap.size x (allE l0 l1 j) ∧ Below w.heap.size w wr)
      case atStart => exact ⟨0, rfl, rfl, O1.out, B1.out⟩
      case round =>
        obtain ⟨j, rfl, hk, ho, hb⟩ := hrel
        have hj : j = 0 ∨ j = 1 ∨ j = 2 := by omega
        have K := Lib.hid hk; have O := Lib.hid ho; have B := Lib.hid hb
        replace e0 := (hb.cell (p := ⟨b, 0, none⟩) hbw).trans c0
        replace e1 := (hb.cell (p := ⟨b, 1, none⟩) hbw).trans c1
        clear hk ho hb
        rcases hj with rfl | rfl | rfl
        · simp only [allE] at O
          go_wp2_with (at_builtin; refine iappend_list edgesT rfl _ _ rfl (B := w.heap.size) _ _ rfl O.out a0 l0.length p0 l0 rfl rfl (fun j u hu => (B.out.cell (cell_below (N0.out j u hu))).trans (N0.out j u hu)) (by first | omega | (simp only [List.length_nil]; omega) | (simp only [List.length_append]; omega)) B.out.size ?_; intro v5 w5 hown5 hg5)
          have O5 := Lib.hid hown5
          have B5 := Lib.hid (B.out.trans (O.out.below hg5 B.out.size))
          clear hown5 hg5
          go_wp2_with fail
          go_roundg 1
          case measure => have := K.out; omega
          case rel => exact ⟨1, by go_num, by omega, by first | exact O5.out | (simp only [allE]; simpa using O5.out), B5.out⟩
        · simp only [allE] at O
          go_wp2_with (at_builtin; refine iappend_list edgesT rfl _ _ rfl (B := w.heap.size) _ _ rfl O.out a1 l1.length p1 l1 rfl rfl (fun j u hu => (B.out.cell (cell_below (N1.out j u hu))).trans (N1.out j u hu)) (by first | omega | (simp only [List.length_nil]; omega) | (simp only [List.length_append]; omega)) B.out.size ?_; intro v5 w5 hown5 hg5)
          have O5 := Lib.hid hown5
          have B5 := Lib.hid (B.out.trans (O.out.below hg5 B.out.size))
          clear hown5 hg5
          go_wp2_with fail
          go_roundg 0
          case measure => have := K.out; omega
          case rel => exact ⟨2, by go_num, by omega, by first | exact O5.out | (simp only [allE]; simpa using O5.out), B5.out⟩
        · clear K
          go_wp2_with fail
          go_ret
          exact ⟨_, rfl, O.out, B.out⟩

set_option maxHeartbeats 1600000 in
theorem growA_any (n : Nat) (w : World) (h0 : 0 < n) (hn : n ≤ 1000) :
    Calls Try.prog 68 #[.slice none 0 0, .int .i64 n] w fun e w' => ∃ v, e = .returned v ∧ IOwn w' w.heap.size v [] ∧ Below w.heap.size w w' := by
  obtain ⟨i0, hi0, hz0, hz1, hz2⟩ := info_parts intInfo
  have hG := grownCap_ge w n 0 3
  have hG2 := grownCap_le_maxLen w n 0 3 (by unfold maxLen; omega)
  have hrz : ∀ ty, (Builtin.append_ #[23, 3] ty #[.slice none 0 0, .int .i64 n]).run Try.prog w =
      .ok (.slice (some ⟨w.heap.size, 0, none⟩) n (grownCap w n 0 3)) (w.drew.alloc (.cells (#[] ++ Builtin.zeroCells (Value.int .i64 0).cells n ++ Builtin.zeroCells (Value.int .i64 0).cells (grownCap w n 0 3 - n)) 3)) := fun ty => by
    have h := Lib.run_append_grow_zeros w 23 3 ty 3 i0 (.int .i64 0) .i64 .i64 Try.underlying23 Try.underlying3 hi0 hz0 none 0 0 []
      (run_firstCells_none w.drew i0.size 0 0 0) n h0 (by omega) (by omega) (by omega) (by rw [hz2]; omega) (by rw [hz2]; exact growslice_fits (by omega) (by omega))
    rw [Nat.zero_add] at h
    exact h
  obtain ⟨G, hGe⟩ : ∃ G, G = grownCap w n 0 3 := ⟨_, rfl⟩
  rw [← hGe] at hG hG2 hrz
  have hG63 : G ≤ 9223372036854775807 := by unfold maxLen at hG2; omega
  have hsz : (Builtin.zeroCells #[Value.int .i64 0] n ++ Builtin.zeroCells #[Value.int .i64 0] (G - n)).size = G * 1 := by
    rw [Array.size_append, size_zeroCells, size_zeroCells]
    simp only [Array.size, List.length_cons, List.length_nil]
    omega
  have OW : Hid (IOwn (w.alloc (.cells (Builtin.zeroCells #[Value.int .i64 0] n ++ Builtin.zeroCells #[Value.int .i64 0] (G - n)) 3)).drew w.heap.size (.slice (some ⟨w.heap.size, 0, none⟩) 0 G) []) := Lib.hid
    ⟨rfl, .inr ⟨w.heap.size, G, _, rfl, Nat.le_refl _, (by first | exact Array.getElem?_push_size | simp : _ = some (Obj.cells (Builtin.zeroCells #[Value.int .i64 0] n ++ Builtin.zeroCells #[Value.int .i64 0] (G - n)) 3 (0, 0))), Nat.zero_le _, hG2, hsz, rfl⟩⟩
  have h1 : ¬ ((n : Int) < 0) := by omega
  have h2 : IntKind.i64.wrap ((0 : Int) - 0) = 0 := IntWalk.i64_in _ (by omega)
  have h3 : IntKind.i64.wrap ((n : Int) - 0) = n := by rw [Int.sub_zero]; exact IntWalk.i64_in _ (by omega)
  have h4 : (n : Int) > 0 := by omega
  clear hGe
  go_enter Try.func68, Try.ntmps68
  go_wp2_with (at_builtin; refine Lib.wpList_append_run _ rfl _ _ _ _ rfl _ _ rfl rfl _ _ (hrz _) ?_)
  go_ret
  exact ⟨_, rfl, OW.out, by go_grown⟩

def sumA (l0 l1 l2 : List Int) : Nat → Nat
  | 0 => 0 | 1 => l0.length | 2 => l0.length + l1.length | _ => l0.length + l1.length + l2.length
def allA (l0 l1 l2 : List Int) : Nat → List Int
  | 0 => [] | 1 => l0 | 2 => l0 ++ l1 | _ => l0 ++ l1 ++ l2

set_option maxRecDepth 100000 in
set_option maxHeartbeats 3200000 in
theorem concatA_any {w : World} {b : Nat} {v0 v1 v2 : Value} {l0 l1 l2 : List Int} (c0 : w.cell? ⟨b, 0, none⟩ = some v0) (c1 : w.cell? ⟨b, 1, none⟩ = some v1) (c2 : w.cell? ⟨b, 2, none⟩ = some v2)
    (n0 : INews w v0 l0) (n1 : INews w v1 l1) (n2 : INews w v2 l2) (hpos : 0 < l0.length + l1.length + l2.length) (hle : l0.length + l1.length + l2.length ≤ 1000) :
    Calls Try.prog 64 #[.slice (some ⟨b, 0, none⟩) 3 3] w fun e w' => ∃ v, e = .returned v ∧ IOwn w' w.heap.size v (l0 ++ l1 ++ l2) ∧ Below w.heap.size w w' := by
  obtain ⟨a0, p0, rfl, d0⟩ := n0
  obtain ⟨a1, p1, rfl, d1⟩ := n1
  obtain ⟨a2, p2, rfl, d2⟩ := n2
  have N0 := Lib.hid d0; have N1 := Lib.hid d1; have N2 := Lib.hid d2
  have hbw := cell_below c0
  clear d0 d1 d2
  go_enter Try.func64, Try.ntmps64
  go_wp2_with fail
  go_loopg [3, 11] 3 (fun k x y wr => ∃ j : Nat, y = .int .i64 j ∧ j + k = 3 ∧ x = .int .i64 (sumA l0 l1 l2 j : Nat) ∧ w = wr)
  case atStart => exact ⟨0, rfl, rfl, rfl, rfl⟩
  case round =>
    obtain ⟨j, rfl, hk, rfl, rfl⟩ := hrel
    have hj : j = 0 ∨ j = 1 ∨ j = 2 ∨ j = 3 := by omega
    have K := Lib.hid hk
    clear hk
    rcases hj with rfl | rfl | rfl | rfl
    · simp only [sumA]
      go_wp2_with fail
      go_roundg 2
      case measure => have := K.out; omega
      case rel => exact ⟨1, by go_num, by omega, by first | rfl | (simp [sumA]; done) | go_num, rfl⟩
    · simp only [sumA]
      go_wp2_with fail
      go_roundg 1
      case measure => have := K.out; omega
      case rel => exact ⟨2, by go_num, by omega, by first | rfl | (simp [sumA]; done) | go_num, rfl⟩
    · simp only [sumA]
      go_wp2_with fail
      go_roundg 0
      case measure => have := K.out; omega
      case rel => exact ⟨3, by go_num, by omega, by first | rfl | (simp [sumA]; done) | go_num, rfl⟩
    · simp only [sumA]
      clear K
      go_wp2_with fail
      refine (growA_any _ _ hpos hle).mono ?_
      rintro e w1 ⟨v, rfl, ho, hb⟩
      have O1 := Lib.hid ho; have B1 := Lib.hid hb
      have e0 := (hb.cell (p := ⟨b, 0, none⟩) hbw).trans c0
      have e1 := (hb.cell (p := ⟨b, 1, none⟩) hbw).trans c1
      have e2 := (hb.cell (p := ⟨b, 2, none⟩) hbw).trans c2
      clear ho hb
      go_wp2_with fail
      go_loopg [6, 27] 3 (fun k x y wr => ∃ j : Nat, y = .int .i64 j ∧ j + k = 3 ∧ IOwn wr w.heap.size x (allA l0 l1 l2 j) ∧ Below w.heap.size w wr)
      case atStart => exact ⟨0, rfl, rfl, O1.out, B1.out⟩
      case round =>
        obtain ⟨j, rfl, hk, ho, hb⟩ := hrel
        have hj : j = 0 ∨ j = 1 ∨ j = 2 ∨ j = 3 := by omega
        have K := Lib.hid hk; have O := Lib.hid ho; have B := Lib.hid hb
        replace e0 := (hb.cell (p := ⟨b, 0, none⟩) hbw).trans c0
        replace e1 := (hb.cell (p := ⟨b, 1, none⟩) hbw).trans c1
        replace e2 := (hb.cell (p := ⟨b, 2, none⟩) hbw).trans c2
        clear hk ho hb
        rcases hj with rfl | rfl | rfl | rfl
        · simp only [allA] at O
          go_wp2_with (at_builtin; refine iappend_list intsT2 rfl _ _ rfl (B := w.heap.size) _ _ rfl O.out a0 l0.length p0 l0 rfl rfl (fun j u hu => (B.out.cell (cell_below (N0.out j u hu))).trans (N0.out j u hu)) (by first | omega | (simp only [List.length_nil]; omega) | (simp only [List.length_append]; omega)) B.out.size ?_; intro v5 w5 hown5 hg5)
          have O5 := Lib.hid hown5
          have B5 := Lib.hid (B.out.trans (O.out.below hg5 B.out.size))
          clear hown5 hg5
          go_wp2_with fail
          go_roundg 2
          case measure => have := K.out; omega
          case rel => exact ⟨1, by go_num, by omega, by first | exact O5.out | (simp only [allA]; simpa using O5.out), B5.out⟩
        · simp only [allA] at O
          go_wp2_with (at_builtin; refine iappend_list intsT2 rfl _ _ rfl (B := w.heap.size) _ _ rfl O.out a1 l1.length p1 l1 rfl rfl (fun j u hu => (B.out.cell (cell_below (N1.out j u hu))).trans (N1.out j u hu)) (by first | omega | (simp only [List.length_nil]; omega) | (simp only [List.length_append]; omega)) B.out.size ?_; intro v5 w5 hown5 hg5)
          have O5 := Lib.hid hown5
          have B5 := Lib.hid (B.out.trans (O.out.below hg5 B.out.size))
          clear hown5 hg5
          go_wp2_with fail
          go_roundg 1
          case measure => have := K.out; omega
          case rel => exact ⟨2, by go_num, by omega, by first | exact O5.out | (simp only [allA]; simpa using O5.out), B5.out⟩
        · simp only [allA] at O
          go_wp2_with (at_builtin; refine iappend_list intsT2 rfl _ _ rfl (B := w.heap.size) _ _ rfl O.out a2 l2.length p2 l2 rfl rfl (fun j u hu => (B.out.cell (cell_below (N2.out j u hu))).trans (N2.out j u hu)) (by first | omega | (simp only [List.length_nil]; omega) | (simp only [List.length_append]; omega)) B.out.size ?_; intro v5 w5 hown5 hg5)
          have O5 := Lib.hid hown5
          have B5 := Lib.hid (B.out.trans (O.out.below hg5 B.out.size))
          clear hown5 hg5
          go_wp2_with fail
          go_roundg 0
          case measure => have := K.out; omega
          case rel => exact ⟨3, by go_num, by omega, by first | exact O5.out | (simp only [allA]; simpa using O5.out), B5.out⟩
        · clear K
          go_wp2_with fail
          go_ret
          exact ⟨_, rfl, O.out, B.out⟩
end Go.Proofs.Ytkcbgeldnibjcaa
