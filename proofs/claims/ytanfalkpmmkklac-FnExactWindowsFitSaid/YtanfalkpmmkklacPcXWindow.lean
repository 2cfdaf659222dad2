/- The exact laws on slices of Windows: what they are copied, compared, marked and looked at again by. -/
import Derived.Test.YtanfalkpmmkklacPcG
namespace Go.Proofs.Ytanfalkpmmkklac
open Go.RowKit

theorem pcTWindow : PairT 34 26 := ⟨by kernel_rfl, Try.underlying26⟩
theorem toWindow_any (p : Pc) (w : World) :
    Calls Try.prog 13 #[.agg #[.int .i64 p.1, .int .i64 p.2]] w fun e w' => e = .returned (.agg #[.int .i64 p.1, .int .i64 p.2]) ∧ Below w.heap.size w w' := by
  go_enter Try.func13, Try.ntmps13
  go_wp2
  go_returns
  exact ⟨rfl, by go_grown⟩
set_option maxRecDepth 100000 in
set_option maxHeartbeats 800000 in
theorem toWindowS_any {w : World} {v : Value} {l : List Pc} (h : Row w v l) (hl20 : l.length ≤ 1048576) :
    Calls Try.prog 6 #[v] w fun e w' => Lst 34 w l e w' := by
  obtain ⟨a, n, c, rfl, hl, h1, h2, hlie⟩ := h
  have hn20 : n ≤ 1048576 := by omega
  obtain ⟨i0, hi0, hz0, hz1, hz2⟩ := info_parts pcTWindow.info
  go_enter Try.func6, Try.ntmps6
  go_wp2_with (refine wpList_make_full _ rfl _ _ 26 rfl w.heap.size 34 i0 _ 2 Try.underlying26 hi0 hz0 hz1 .i64 .i64 _ _ n rfl rfl rfl rfl (by rw [hz2]; omega) (by unfold maxLen; omega) (Nat.le_refl _) ?_; intro w1 hown hg)
  have ow : Own 34 w1 w.heap.size (.slice (some ⟨w.heap.size, 0, none⟩) n n) (l.take 0 ++ List.replicate (n - 0) (0, 0)) := by
    show w1.ownsRow _ _ 2 _ (l.take 0 ++ List.replicate (n - 0) ((0, 0) : Pc)).length (cells2 (l.take 0 ++ List.replicate (n - 0) (0, 0)))
    simp only [List.take_zero, List.nil_append, Nat.sub_zero, List.length_replicate]
    rw [← made2]; exact hown
  have OW := Lib.hid ow
  have B1 := Lib.hid ((Below.refl w.heap.size w).grown hg (Nat.le_refl _) (fun k hk => by simp at hk))
  clear ow hown hg hi0 hz0 hz1 hz2
  clear i0
  go_loopg [4] n (fun k x wr => ∃ i : Nat, x = .int .i64 i ∧ i + k = n ∧ Own 34 wr w.heap.size (.slice (some ⟨w.heap.size, 0, none⟩) n n) (l.take i ++ List.replicate (n - i) (0, 0)) ∧ Below w.heap.size w wr)
  case atStart => exact ⟨0, rfl, by omega, OW.out, B1.out⟩
  case round =>
    obtain ⟨i, rfl, hk, ho, hb⟩ := hrel
    have K := Lib.hid hk; have O := Lib.hid ho; have B := Lib.hid hb
    have hin : i ≤ n := by omega
    clear hk ho hb
    by_cases hlt : i < n
    · obtain ⟨g, o, rfl, c1, c2⟩ := lies_cell hlie i (by omega)
      have d1 := (B.out.cell (cell_below c1)).trans c1
      have d2 := (B.out.cell (cell_below c2)).trans c2
      have HL := Lib.hid hlie
      clear hlie c1 c2
      go_wp2_with fail
      refine (toWindow_any l[i] _).mono ?_
      rintro e w2 ⟨rfl, b2⟩
      have hlen : i < (l.take i ++ List.replicate (n - i) ((0, 0) : Pc)).length := by simp; omega
      obtain ⟨g', cap, e', z1, z2, z3, z4, hp, hs⟩ := (O.out.grow b2).set2 i hlen l[i]
      simp only [Value.slice.injEq, Option.some.injEq, Addr.mk.injEq, and_true] at e'
      obtain ⟨rfl, z5, z6⟩ := e'
      clear z1 z2 z3 z5 z6
      rw [fill_next hl hlt] at hs
      obtain ⟨q, t1, t2, t3, t4⟩ : ∃ q : Pc, w2.cell? ⟨w.heap.size, i * 2, none⟩ = some (.int .i64 q.1) ∧ w2.cell? ⟨w.heap.size, i * 2 + 1, none⟩ = some (.int .i64 q.2) ∧ w2.frozen? ⟨w.heap.size, i * 2, none⟩ = false ∧ w2.frozen? ⟨w.heap.size, i * 2 + 1, none⟩ = false := ⟨_, hp.top, hp.bot, hp.f0, hp.f1⟩
      have HS := Lib.hid hs
      have B2 := Lib.hid (B.out.trans (b2.mono B.out.size))
      clear d1 d2 b2 hp hs hlen
      go_wp2_with fail
      go_roundg (gk - 1)
      case measure => have := K.out; omega
      case rel => exact ⟨i + 1, by go_num, by have := K.out; omega, HS.out, (B2.out.setCell (p := ⟨w.heap.size, i * 2, none⟩) (Nat.le_refl _) _).setCell (p := ⟨w.heap.size, i * 2 + 1, none⟩) (Nat.le_refl _) _⟩
    · go_wp2_with fail
      go_ret
      refine ⟨_, rfl, ?_, B.out⟩
      have := O.out
      rw [List.take_of_length_le (by omega), show n - i = 0 by omega] at this
      simpa using this
theorem eqWindow_any (p q : Pc) (w : World) :
    Calls Try.prog 16 #[.agg #[.int .i64 p.1, .int .i64 p.2], .agg #[.int .i64 q.1, .int .i64 q.2]] w fun e w' => Val w (.bool (decide (p = q))) e w' := by
  by_cases e1 : p.1 = q.1
  · have f1 : (p.1 != q.1) = false := by simpa using e1
    by_cases e2 : p.2 = q.2
    · have f2 : (p.2 != q.2) = false := by simpa using e2
      have R : Hid (decide (p = q) = true) := Lib.hid (decide_eq_true (Prod.ext e1 e2))
      clear e1 e2
      go_enter Try.func16, Try.ntmps16
      go_wp2
      go_ret
      exact ⟨by rw [R.out]; rfl, by go_grown⟩
    · have f2 : (p.2 != q.2) = true := by simpa using e2
      have R : Hid (decide (p = q) = false) := Lib.hid (decide_eq_false (fun e => e2 (by rw [e])))
      clear e1 e2
      go_enter Try.func16, Try.ntmps16
      go_wp2
      go_ret
      exact ⟨by rw [R.out]; rfl, by go_grown⟩
  · have f1 : (p.1 != q.1) = true := by simpa using e1
    have R : Hid (decide (p = q) = false) := Lib.hid (decide_eq_false (fun e => e1 (by rw [e])))
    clear e1
    go_enter Try.func16, Try.ntmps16
    go_wp2
    go_ret
    exact ⟨by rw [R.out]; rfl, by go_grown⟩
theorem eqWindow_is {p q : Pc} {b : Bool} (h : decide (p = q) = b) (w : World) :
    Calls Try.prog 16 #[.agg #[.int .i64 p.1, .int .i64 p.2], .agg #[.int .i64 q.1, .int .i64 q.2]] w fun e w' => Val w (.bool b) e w' := by
  have := eqWindow_any p q w
  rwa [h] at this
set_option maxHeartbeats 800000 in
theorem eqWindowS_any {w : World} {v u : Value} {l m : List Pc} (h : Row w v l) (k : Row w u m) :
    Calls Try.prog 9 #[v, u] w fun e w' => Val w (.bool (decide (l = m))) e w' := by
  obtain ⟨a, n, c, rfl, hl, h1, h2, hlie⟩ := h
  obtain ⟨a', n', c', rfl, hl', h1', h2', hlie'⟩ := k
  have hm : n ≤ maxLen := by omega
  have hm' : n' ≤ maxLen := by omega
  unfold maxLen at hm hm'
  by_cases hnn : n = n'
  rotate_left
  · have hb : ((n : Int) != (n' : Int)) = true := by rw [bne_iff_ne]; omega
    have R : Hid (decide (l = m) = false) := Lib.hid (decide_eq_false (fun e => by subst e; omega))
    clear hnn
    go_enter Try.func9, Try.ntmps9
    go_wp2_with fail
    go_ret
    exact ⟨by rw [R.out]; rfl, Below.refl _ _⟩
  subst hnn
  go_enter Try.func9, Try.ntmps9
  go_wp2_with fail
  go_loopg [5] n (fun k x wr => ∃ j : Nat, x = .int .i64 j ∧ j + k = n ∧ l.take j = m.take j ∧ Below w.heap.size w wr)
  case atStart => exact ⟨0, rfl, by omega, rfl, Below.refl _ _⟩
  case round =>
    obtain ⟨j, rfl, hk, hs, hb⟩ := hrel
    have K := Lib.hid hk; have S := Lib.hid hs; have B := Lib.hid hb
    have hjn : j ≤ n := by omega
    clear hk hs hb
    by_cases hlt : j < n
    · obtain ⟨g, o, rfl, c1, c2⟩ := lies_cell hlie j (by omega)
      obtain ⟨g', o', rfl, c3, c4⟩ := lies_cell hlie' j (by omega)
      have d1 := (B.out.cell (cell_below c1)).trans c1
      have d2 := (B.out.cell (cell_below c2)).trans c2
      have d3 := (B.out.cell (cell_below c3)).trans c3
      have d4 := (B.out.cell (cell_below c4)).trans c4
      clear c1 c2 c3 c4 hlie hlie'
      have s3 : (0 : Int) ≤ (j : Int) := Int.natCast_nonneg _
      have s4 : (j : Int) < (n : Int) := by omega
      cases he : decide (l[j] = m[j])
      · have HE := Lib.hid he
        have R : Hid (decide (l = m) = false) := Lib.hid (decide_eq_false (fun e => by subst e; simp at he))
        clear he
        go_wp2_with fail
        go_region_held3 (fun w' => w'.cell? ⟨g, o + j * 2, none⟩ = some (.int .i64 l[j].1) ∧ w'.cell? ⟨g, o + j * 2 + 1, none⟩ = some (.int .i64 l[j].2) ∧ w'.cell? ⟨g', o' + j * 2, none⟩ = some (.int .i64 m[j].1) ∧ w'.cell? ⟨g', o' + j * 2 + 1, none⟩ = some (.int .i64 m[j].2))
          (first | go_keep | (go_split_ands; exact held4 hb' ‹_› ‹_› ‹_› ‹_›))
          (((go_at_call 16); refine (eqWindow_is HE.out _).mono ?_; rintro e w' ⟨rfl, hb'⟩))
        have B2 := Lib.hid (B.out.drew.trans (hb'.mono B.out.size))
        clear hb'
        go_wp2_with fail
        go_ret
        exact ⟨by rw [R.out]; rfl, B2.out⟩
      · have HE := Lib.hid he
        clear he
        go_wp2_with fail
        go_region_held3 (fun w' => w'.cell? ⟨g, o + j * 2, none⟩ = some (.int .i64 l[j].1) ∧ w'.cell? ⟨g, o + j * 2 + 1, none⟩ = some (.int .i64 l[j].2) ∧ w'.cell? ⟨g', o' + j * 2, none⟩ = some (.int .i64 m[j].1) ∧ w'.cell? ⟨g', o' + j * 2 + 1, none⟩ = some (.int .i64 m[j].2))
          (first | go_keep | (go_split_ands; exact held4 hb' ‹_› ‹_› ‹_› ‹_›))
          (((go_at_call 16); refine (eqWindow_is HE.out _).mono ?_; rintro e w' ⟨rfl, hb'⟩))
        have B2 := Lib.hid (B.out.drew.trans (hb'.mono B.out.size))
        clear hb'
        go_wp2_with fail
        go_roundg (gk - 1)
        case measure => have := K.out; omega
        case rel => exact ⟨j + 1, by go_num, by have := K.out; omega, take_eq S.out (by omega) (by omega) (of_decide_eq_true HE.out), B2.out⟩
    · have R : Hid (decide (l = m) = true) := Lib.hid (decide_eq_true (by have := S.out; rwa [List.take_of_length_le (by omega), List.take_of_length_le (by omega)] at this))
      go_wp2_with fail
      go_ret
      exact ⟨by rw [R.out]; rfl, B.out⟩
theorem eqsWindow_yes {w : World} {v u : Value} {l m : List Pc} (h : Row w v l) (k : Row w u m) (e : l = m) : Calls Try.prog 9 #[v, u] w fun e w' => Val w (.bool true) e w' :=
  val_is (eqWindowS_any h k) (by rw [decide_eq_true e])
def MarkedByWindow (z : Int) (w : World) (B : Nat) (v : Value) (n : Nat) (e : Ending) (w' : World) : Prop := e = .returned (.int .i64 (z + 2 * (n : Int))) ∧ Own 34 w' B v (marks z n) ∧ Chg v w w'
theorem szWindow_any (a : Option Addr) (n c : Nat) (x : Int) (h0 : 0 ≤ x) (h1 : x ≤ 1048576) (hn : n ≤ 9223372036854775807) (w : World) :
    Calls Try.prog 4 #[.slice a n c, .int .i64 x] w fun e w' => e = .returned (.int .i64 (if x - n < 0 then -1 else x - n)) ∧ w = w' := by
  by_cases h : x - (n : Int) < 0
  · have R : Hid ((if x - (n : Int) < 0 then (-1 : Int) else x - n) = -1) := Lib.hid (if_pos h)
    have e1 : IntKind.i64.wrap (x - (n : Int)) = x - n := IntWalk.i64_in _ (by omega)
    go_enter Try.func4, Try.ntmps4
    go_wp2
    go_ret
    exact ⟨by first | rfl | (rw [R.out]; rfl), rfl⟩
  · have R : Hid ((if x - (n : Int) < 0 then (-1 : Int) else x - n) = x - n) := Lib.hid (if_neg h)
    have e1 : IntKind.i64.wrap (x - (n : Int)) = x - n := IntWalk.i64_in _ (by omega)
    go_enter Try.func4, Try.ntmps4
    go_wp2
    go_ret
    exact ⟨by first | rfl | (rw [R.out]; rfl), rfl⟩
theorem szWindow_is {a : Option Addr} {n c : Nat} {x y : Int} (h0 : 0 ≤ x) (h1 : x ≤ 1048576) (hn : n ≤ 9223372036854775807) (h : (if x - (n : Int) < 0 then (-1 : Int) else x - n) = y) (w : World) :
    Calls Try.prog 4 #[.slice a n c, .int .i64 x] w fun e w' => e = .returned (.int .i64 y) ∧ Below w.heap.size w w' :=
  (szWindow_any a n c x h0 h1 hn w).mono fun e w' ⟨he, hw⟩ => ⟨by rw [he, h], by subst hw; exact Below.refl _ _⟩
end Go.Proofs.Ytanfalkpmmkklac
