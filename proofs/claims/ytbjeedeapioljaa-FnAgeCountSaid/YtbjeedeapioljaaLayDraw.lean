/- The draws of layers. -/
import Derived.Test.YtbjeedeapioljaaDraw
import Derived.Test.YtbjeedeapioljaaLayMerge
import Derived.Laws.NewBlocks
namespace Go.Proofs.Ytbjeedeapioljaa
open Go.RowKit

theorem Keep.grow {b : Nat} {w x y : World} (h : Keep b w x) (k : Below w.heap.size x y) : Keep b w y :=
  ⟨k.os.trans h.os, k.tape.trans h.tape, k.output.trans h.output, Nat.le_trans h.size k.size, fun i hi hb => (k.block i hi).trans (h.block i hi hb)⟩
theorem LOwn.keep {w w' : World} {b B : Nat} {v : Value} {l : LL} (h : LOwn 27 w B v l) (k : Keep b w w') (hb : b < B) : LOwn 27 w' B v l :=
  h.same fun g hg => k.block g (h.lt g hg).2 (by have := (h.lt g hg).1; omega)
theorem lit_kept {b : Nat} {w w' : World} {i : Nat} {c : Array Value} {t : TypeId} {v : Value} (k : Keep b (w.alloc (.cells c t)) w') (hb : b < w.heap.size) (hv : c[i]? = some v) : w'.cell? ⟨w.heap.size, i, none⟩ = some v := by
  refine (k.cell (p := ⟨w.heap.size, i, none⟩) ?_ ?_).trans ?_
  · show w.heap.size < (w.alloc _).heap.size
    simp
  · show w.heap.size ≠ b
    omega
  · rw [World.cell?_alloc_new]; exact hv
theorem lit_kept' {b : Nat} {w w' : World} {i : Nat} {c : Array Value} {t : TypeId} {v : Value} (k : Keep b (w.alloc (.cells c t)).drew w') (hb : b < w.heap.size) (hv : c[i]? = some v) : w'.cell? ⟨w.heap.size, i, none⟩ = some v := by
  refine (k.cell (p := ⟨w.heap.size, i, none⟩) ?_ ?_).trans ?_
  · show w.heap.size < (w.alloc _).heap.size
    simp
  · show w.heap.size ≠ b
    omega
  · rw [World.cell?_drew, World.cell?_alloc_new]; exact hv
/-- What l92Layers comes to. -/
def LaysDrawn (w : World) (b m : Nat) (e : Ending) (w' : World) : Prop :=
  ∃ v l, e = .returned v ∧ LOwn 27 w' w.heap.size v l ∧ l.length ≤ 10 ∧ At w' b (m + 30) ∧ Keep b w w'

set_option maxRecDepth 100000 in
set_option maxHeartbeats 3200000 in
theorem l92Layers_any {w : World} {b m : Nat} (h : At w b m) (hm : m ≤ 900000) :
    Calls Try.prog 30 #[.pointer (some ⟨b, 0, none⟩)] w fun e w' => LaysDrawn w b m e w' := by
  have hbw := h.lt
  have A0 := Lib.hid (h.alloc (.cells #[] 27))
  have O0 := Lib.hid (lown_new 27 (Nat.le_refl w.heap.size))
  have K0 := Lib.hid (Keep.alloc b w (.cells #[] 27))
  clear h
  go_enter Try.func30, Try.ntmps30
  go_wp2_with fail
  refine (pick_at 12 A0.out (by omega)).mono ?_
  rintro e w3 ⟨r0, rfl, p3, q3, _, a3, k3⟩
  replace q3 := q3 (by decide)
  have O3 := Lib.hid (O0.out.keep k3 hbw)
  have A3 := Lib.hid a3; have K3 := Lib.hid (K0.out.trans k3)
  clear a3 k3 O0 A0 K0
  go_wp2_with fail
  refine (pick_at 9 A3.out (by omega)).mono ?_
  rintro e w4 ⟨r, rfl, p4, q4, _, a4, k4⟩
  replace q4 := q4 (by decide)
  obtain ⟨n, rfl⟩ : ∃ n : Nat, r = n := ⟨r.toNat, by omega⟩
  have O4 := Lib.hid (O3.out.keep k4 hbw)
  have A4 := Lib.hid a4; have K4 := Lib.hid (K3.out.trans k4)
  clear a4 k4 O3 A3 K3
  go_wp2_with fail
  go_loopg [3, 4, 6] n (fun k v d i wr => ∃ (j : Nat) (x : Int) (l : LL), i = .int .i64 j ∧ d = .int .i64 x ∧ j + k = n ∧ l.length = j ∧ (0 ≤ x ∧ x ≤ 12 + 20 * j) ∧ LOwn 27 wr w.heap.size v l ∧ At wr b (m + 2 + 2 * j) ∧ Keep b w wr)
  case atStart => exact ⟨0, r0, [], rfl, rfl, by omega, rfl, ⟨p3, by omega⟩, O4.out, A4.out, K4.out⟩
  case round =>
    obtain ⟨j, x, l, rfl, rfl, hk, hl, hx, ho, hat, hke⟩ := hrel
    have K := Lib.hid hk; have O5 := Lib.hid ho; have A5 := Lib.hid hat; have K5 := Lib.hid hke; have HL := Lib.hid hl
    obtain ⟨x0, x1⟩ := hx
    have hw4 : w.heap.size ≤ wr.heap.size := hke.size
    have hj5 : j ≤ n := by omega
    clear hk ho hat hke hl O4
    by_cases hlt : (j : Int) < (n : Int)
    · go_wp2_with fail
      refine (pick_at 3 A5.out (by omega)).mono ?_
      rintro e w6 ⟨q, rfl, p6, q6, _, a6, k6⟩
      have A6 := Lib.hid a6
      have K6 := Lib.hid (K5.out.trans k6)
      have O6 := Lib.hid (O5.out.keep k6 hbw)
      have hs6 := K6.out.size
      clear a6 k6 q6
      have n1 := new_two w6 (.int .i64 x) (.bool (decide (0 < q))) 27
      have N1 := Lib.hid n1
      have BW := Lib.hid ((Below.refl w6.heap.size w6).alloc (Nat.le_refl _) (.cells #[.int .i64 x, .bool (decide (0 < q))] 27))
      clear n1
      go_wp2_with (at_builtin; refine lappend_lay layI rfl _ _ rfl (B := w.heap.size) _ l rfl (O6.out.grow BW.out) ⟨w6.heap.size, 0, none⟩ (x, decide (0 < q)) rfl N1.out.1 N1.out.2 (by have := HL.out; omega) (by simp; omega) ?_; intro v8 w8 hown8 hg8)
      have O8 := Lib.hid hown8
      have B8 := Lib.hid ((BW.out.mono hs6).trans ((O6.out.grow BW.out).below hg8 (by simp; omega)))
      have A8 := Lib.hid (A6.out.below (B8.out.mono hbw))
      have K8 := Lib.hid (K6.out.grow B8.out)
      clear hown8 hg8
      go_wp2_with fail
      refine (pick_at 20 A8.out (by omega)).mono ?_
      rintro e w9 ⟨q9, rfl, p9, q9', _, a9, k9⟩
      replace q9' := q9' (by decide)
      have A9 := Lib.hid a9
      have K9 := Lib.hid (K8.out.trans k9)
      have O9 := Lib.hid (O8.out.keep k9 hbw)
      clear a9 k9
      go_wp2_with fail
      go_roundg (gk - 1)
      case measure => have := K.out; omega
      case rel => exact ⟨j + 1, x + 1 + q9, _, by go_num, by go_num, by have := K.out; omega, by have := HL.out; simp; omega, ⟨by omega, by omega⟩, O9.out, A9.out.mono (by omega), K9.out⟩
    · have hjn : j = n := by omega
      subst hjn
      by_cases n0 : j = 0
      · subst n0
        go_wp2_with fail
        go_ret
        exact ⟨_, l, rfl, O5.out, by have := HL.out; omega, A5.out.mono (by omega), K5.out⟩
      have n1 : (0 : Int) < (j : Int) := by omega
      go_wp2_with fail
      refine (pick_at 40 A5.out (by omega)).mono ?_
      rintro e w6 ⟨q, rfl, p6, q6, _, a6, k6⟩
      have A6 := Lib.hid (a6.mono (show m + 2 + 2 * j + 1 ≤ m + 30 by omega))
      have K6 := Lib.hid (K5.out.trans k6)
      have O6 := Lib.hid (O5.out.keep k6 hbw)
      have hs6 := K6.out.size
      clear a6 k6 q6
      obtain ⟨i, rfl⟩ : ∃ i, j = i + 1 := ⟨j - 1, by omega⟩
      have hli : i < l.length := by have := HL.out; omega
      obtain ⟨g, cap, hu, hcap, hcapm, hBg, hgw, hp⟩ := O6.out.at (by omega)
      unfold maxLen at hcapm
      have s1 : IntKind.i64.wrap (((i + 1 : Nat) : Int) - 1) = (i : Int) := by rw [show ((i + 1 : Nat) : Int) - 1 = i by omega]; exact IntWalk.i64_in _ (by omega)
      have s2 : IntKind.i64.wrap ((i : Int) + 1 - 1) = (i : Int) := by rw [show (i : Int) + 1 - 1 = i by omega]; exact IntWalk.i64_in _ (by omega)
      have s3 : IntKind.i64.wrap (i : Int) = (i : Int) := IntWalk.i64_in _ (by omega)
      have i0 : (0 : Int) ≤ (i : Int) := by omega
      have i1 : (i : Int) < (l.length : Int) := by omega
      subst hu
      by_cases e0 : q = 0
      · subst e0
        have t0 := (hp i hli).top; have t1 := (hp i hli).bot
        have n1 := new_two w6 (.int .i64 l[i].1) (.bool l[i].2) 27
        have N1 := Lib.hid n1
        have BW := Lib.hid ((Below.refl w6.heap.size w6).alloc (Nat.le_refl _) (.cells #[.int .i64 l[i].1, .bool l[i].2] 27))
        clear n1 hp
        go_wp2_with (at_builtin; refine lappend_lay layI rfl _ _ rfl (B := w.heap.size) _ l rfl (O6.out.grow BW.out) ⟨w6.heap.size, 0, none⟩ l[i] rfl N1.out.1 N1.out.2 (by have := HL.out; omega) (by simp; omega) ?_; intro v8 w8 hown8 hg8)
        have O8 := Lib.hid hown8
        have B8 := Lib.hid ((BW.out.mono hs6).trans ((O6.out.grow BW.out).below hg8 (by simp; omega)))
        have A8 := Lib.hid (A6.out.below (B8.out.mono hbw))
        have K8 := Lib.hid (K6.out.grow B8.out)
        clear hown8 hg8
        go_wp2_with fail
        go_ret
        exact ⟨_, _, rfl, O8.out, by have := HL.out; simp; omega, A8.out, K8.out⟩
      · by_cases e1 : q = 1
        · subst e1
          clear e0
          have t0 := (hp i hli).top; have f0 := (hp i hli).f0
          have S1 := Lib.hid ((hp i hli).setTop 30001)
          clear hp
          go_wp2_with fail
          go_ret
          exact ⟨_, _, rfl, S1.out, by have := HL.out; simp; omega, A6.out.below (((Below.refl _ _).setCell (p := ⟨g, i * 2, none⟩) hBg _).mono hbw), K6.out.grow ((Below.refl _ _).setCell (p := ⟨g, i * 2, none⟩) hBg _)⟩
        · have f0 : (q == 0) = false := by simpa using e0
          have f1 : (q == 1) = false := by simpa using e1
          clear e0 e1 hp
          go_wp2_with fail
          go_ret
          exact ⟨_, l, rfl, O6.out, by have := HL.out; omega, A6.out, K6.out⟩
/-- Drawn layers in a slice of the draw's own. -/
def DrewO (w : World) (e : Ending) (w' : World) : Prop := ∃ v l, e = .returned v ∧ LOwn 27 w' w.heap.size v l ∧ Below w.heap.size w w'
/-- Drawn layers; .. and a number; .. and two. -/
def DrewL (w : World) (e : Ending) (w' : World) : Prop := ∃ v l, e = .returned v ∧ LRow w' v l ∧ Below w.heap.size w w'
def DrewLI (w : World) (e : Ending) (w' : World) : Prop := ∃ v l, ∃ x : Int, e = .returned (.tuple #[v, .int .i64 x]) ∧ LRow w' v l ∧ Below w.heap.size w w'
def DrewLII (w : World) (e : Ending) (w' : World) : Prop := ∃ v l, ∃ x y : Int, e = .returned (.tuple #[v, .int .i64 x, .int .i64 y]) ∧ LRow w' v l ∧ Below w.heap.size w w'
def DrewLL (w : World) (e : Ending) (w' : World) : Prop := ∃ v u l m, e = .returned (.tuple #[v, u]) ∧ LRow w' v l ∧ LRow w' u m ∧ Below w.heap.size w w'
set_option maxHeartbeats 1600000 in
theorem DrawLayersValid_any {w : World} {a : Option Addr} {len cap : Nat} (h : Bytes w a len cap) :
    Calls Try.prog 12 #[.slice a len cap] w fun e w' => DrewO w e w' := by
  go_enter Try.func12, Try.ntmps12
  go_wp2_with fail
  refine (open_any h).mono ?_
  rintro e w1 ⟨rfl, a1, b1, s1⟩
  have hbw := a1.lt
  go_wp2_with fail
  refine (l92Layers_any a1 (by omega)).mono ?_
  rintro e w2 ⟨v, l, rfl, o2, l10, a2, k2⟩
  have O := Lib.hid o2; have A2 := Lib.hid a2; have K2 := Lib.hid k2
  obtain ⟨av, cv, rfl, hc1, hc2⟩ := o2.row.len
  clear o2 a2 k2
  have hb1 : w.heap.size ≤ w1.heap.size := by omega
  by_cases l1 : 1 < l.length
  · have i0 : (1 : Int) < (l.length : Int) := by omega
    go_wp2_with fail
    refine (pick_at 6 A2.out (by omega)).mono ?_
    rintro e w3 ⟨r3, rfl, p3, q3, _, a3, k3⟩
    have O3 := Lib.hid (O.out.keep k3 hbw); have A3 := Lib.hid a3; have K3 := Lib.hid (K2.out.trans k3)
    clear a3 k3
    by_cases e0 : r3 = 0
    rotate_left
    · have f0 : (r3 == 0) = false := by simpa using e0
      clear e0
      go_wp2_with fail
      go_ret
      exact ⟨_, l, rfl, O3.out.mono hb1, K3.out.below b1 (Nat.le_refl _) hb1⟩
    subst e0
    obtain ⟨g, cap, hu, hcap, hcapm, hBg, hgw, hp⟩ := O3.out.at (by omega)
    simp only [Value.slice.injEq, true_and] at hu
    obtain ⟨rfl, rfl⟩ := hu
    have t0 := (hp 0 (by omega)).top; have f0 := (hp 0 (by omega)).f0
    simp only [Nat.zero_mul] at t0 f0
    have hgb : g ≠ w.heap.size := by omega
    have hl0 : (0 : Int) < (l.length : Int) := by omega
    clear hp
    go_wp2_with fail
    go_region_with (go_at_call 31; refine (pick_at (b := w.heap.size) (m := 40) 20 ?_ (by omega)).mono ?_; exact (A3.out.mono (by omega)).drew; rintro e w5 ⟨r5, rfl, p5, q5, _, a5, k5⟩; have c5 := (k5.cell (p := ⟨g, 0, none⟩) hgw hgb).trans t0; have f5 := (k5.frozen (p := ⟨g, 0, none⟩) hgw hgb).trans f0)
    all_goals
      have K5 := Lib.hid (K3.out.trans (Keep.trans (Keep.drew _ w3) k5))
      have O5 : Hid (LOwn 27 w5 w1.heap.size _ l) := Lib.hid ((O3.out.grow (Below.refl _ _).drew).keep k5 (by omega))
      clear k5 a5
      go_wp2_with fail
      go_ret
      obtain ⟨_, _, e5, _, _, _, _, hp5⟩ := O5.out.at (by omega)
      simp only [Value.slice.injEq, Option.some.injEq, Addr.mk.injEq, and_true, true_and] at e5
      obtain ⟨rfl, rfl⟩ := e5
      have S5 := (hp5 0 (by omega)).setTop (IntKind.i64.wrap (l[0].1 + r5))
      simp only [Nat.zero_mul] at S5
      have b5 := K5.out.below b1 (Nat.le_refl _) hb1
      exact ⟨_, _, rfl, S5.mono hb1, b5.setCell (p := ⟨g, 0, none⟩) (by show _ ≤ g; omega) _⟩
  · have i0 : ¬ (1 : Int) < (l.length : Int) := by omega
    have i1 : decide ((1 : Int) < (l.length : Int)) = false := by simpa using i0
    go_wp2_with fail
    go_ret
    exact ⟨_, l, rfl, O.out.mono hb1, K2.out.below b1 (Nat.le_refl _) hb1⟩
theorem span_list {q : Nat} {v a b c : Value} (h : q < [a, b, c].length) (hv : (#[a, b, c] : Array Value)[q]? = some v) : [a, b, c][q] = v := by simpa [List.getElem?_eq_getElem h] using hv
theorem span_cells (x q : Int) (hx : 0 ≤ x ∧ x ≤ 1000) (h0 : 0 ≤ q) (h1 : q < 3) : ∃ v : Int, -400000 ≤ v ∧ v ≤ 400000 ∧ (#[Value.int .i64 (x - 1), Value.int .i64 30001, Value.int .i64 30000] : Array Value)[q.toNat]? = some (.int .i64 v) := by
  have h : q = 0 ∨ q = 1 ∨ q = 2 := by omega
  rcases h with rfl | rfl | rfl
  · exact ⟨x - 1, by omega, by omega, rfl⟩
  · exact ⟨30001, by decide, by decide, rfl⟩
  · exact ⟨30000, by decide, by decide, rfl⟩
theorem span_kept {b : Nat} {w w' : World} {i : Nat} {c : Array Value} {t : TypeId} {v : Value} (k : Keep b (w.alloc (.cells c t)).drew w') (hb : b < w.heap.size) (hv : c[i]? = some v) : w'.cell? ⟨w.heap.size, i, none⟩ = some v := by
  refine (k.cell (p := ⟨w.heap.size, i, none⟩) ?_ ?_).trans ?_
  · show w.heap.size < (w.alloc _).heap.size
    simp
  · show w.heap.size ≠ b
    omega
  · rw [World.cell?_drew, World.cell?_alloc_new]; exact hv
/-- What l91Span comes to. -/
def SpanDrawn (w : World) (b m : Nat) (e : Ending) (w' : World) : Prop :=
  ∃ t u : Int, e = .returned (.tuple #[.int .i64 t, .int .i64 u]) ∧ (-400000 ≤ t ∧ t ≤ 400000) ∧ (-400000 ≤ u ∧ u ≤ 400000) ∧ At w' b (m + 5) ∧ Keep b w w'
theorem l91Span_any {w : World} {b m : Nat} (h : At w b m) (hm : m ≤ 800000) :
    Calls Try.prog 33 #[.pointer (some ⟨b, 0, none⟩)] w fun e w' => SpanDrawn w b m e w' := by
  have hbw := h.lt
  go_enter Try.func33, Try.ntmps33
  go_wp2_with fail
  refine (pick_at 150 h (by omega)).mono ?_
  rintro e w1 ⟨x, rfl, p1, q1, _, a1, k1⟩
  replace q1 := q1 (by decide)
  go_wp2_with fail
  refine (pick_at 16 a1 (by omega)).mono ?_
  rintro e w2 ⟨r, rfl, p2, q2, _, a2, k2⟩
  replace q2 := q2 (by decide)
  by_cases z : r = 0
  · subst z
    have z0 : IntKind.i64.wrap (x - 1) = x - 1 := IntWalk.i64_in _ (by omega)
    go_wp2_with fail
    go_region_with (go_at_call 31; refine (pick_at (m := m + 3) (b := b) _ ?_ (by omega)).mono ?_; (first | exact (a2.mono (by omega)).drew | exact ((a2.mono (by omega)).alloc _).drew); rintro e w5 ⟨q, rfl, q0, q1, _, a5, k5⟩; replace q1 := q1 (by decide); obtain ⟨v, v0, v1, hv⟩ := span_cells x q (by omega) q0 q1; have hl := span_list (by simp; omega) hv; try have c := span_kept k5 a2.lt hv)
    all_goals
      go_wp2
      go_ret2
      refine ⟨x, v, rfl, by omega, by omega, ?_, ?_⟩
      · first | exact a5.mono (by omega) | exact (a5.mono (by omega)).alloc _
      · first
          | exact (k1.trans k2).trans ((Keep.trans (Keep.alloc b w2 _) (Keep.drew b _)).trans k5)
          | exact ((k1.trans k2).trans ((Keep.drew b _).trans k5)).trans (Keep.alloc b w5 _)
  · have e0 : (r == 0) = false := by simpa using z
    go_wp2_with fail
    refine (pick_at 120 a2 (by omega)).mono ?_
    rintro e w3 ⟨y, rfl, p3, q3, _, a3, k3⟩
    replace q3 := q3 (by decide)
    go_wp2_with fail
    go_ret2
    exact ⟨x, x + y, rfl, by omega, by omega, a3.mono (by omega), (k1.trans k2).trans k3⟩

theorem DrawLayersCount_any {w : World} {a : Option Addr} {len cap : Nat} (h : Bytes w a len cap) :
    Calls Try.prog 16 #[.slice a len cap] w fun e w' => DrewLII w e w' := by
  go_enter Try.func16, Try.ntmps16
  go_wp2_with fail
  refine (open_any h).mono ?_
  rintro e w1 ⟨rfl, a1, b1, s1⟩
  have hbw := a1.lt
  go_wp2_with fail
  refine (l92Layers_any a1 (by omega)).mono ?_
  rintro e w2 ⟨v, l, rfl, o2, _, a2, k2⟩
  have O := Lib.hid o2
  clear o2
  go_wp2_with fail
  refine (l91Span_any a2 (by omega)).mono ?_
  rintro e w3 ⟨t, u, rfl, ht, hu, a3, k3⟩
  have O3 := Lib.hid (O.out.keep k3 hbw)
  go_wp2_with fail
  go_ret3
  exact ⟨_, l, _, _, rfl, O3.out.row, (k2.trans k3).below b1 (Nat.le_refl _) (by omega)⟩
theorem DrawLayersHalf_any {w : World} {a : Option Addr} {len cap : Nat} (h : Bytes w a len cap) :
    Calls Try.prog 19 #[.slice a len cap] w fun e w' => DrewLII w e w' := by
  go_enter Try.func19, Try.ntmps19
  go_wp2_with fail
  refine (DrawLayersCount_any h).mono ?_
  rintro e w1 ⟨v, l, x, y, rfl, h1, h2⟩
  obtain ⟨av, cv, rfl, _⟩ := h1.len
  have H1 := Lib.hid h1
  clear h1
  go_wp2_with fail
  go_ret3
  exact ⟨_, l, x, y, rfl, H1.out, h2⟩
theorem two_words (x y q : Int) (h0 : 0 ≤ q) (h1 : q < 2) : ∃ v : Int, (#[Value.int .i64 x, .int .i64 y] : Array Value)[q.toNat]? = some (.int .i64 v) := by
  have h : q = 0 ∨ q = 1 := by omega
  rcases h with rfl | rfl
  · exact ⟨x, rfl⟩
  · exact ⟨y, rfl⟩
theorem pair_list {q : Nat} {v a b : Value} (h : q < [a, b].length) (hv : (#[a, b] : Array Value)[q]? = some v) : [a, b][q] = v := by simpa [List.getElem?_eq_getElem h] using hv
set_option maxHeartbeats 1600000 in
theorem DrawLayersAge_any {w : World} {a : Option Addr} {len cap : Nat} (h : Bytes w a len cap) :
    Calls Try.prog 22 #[.slice a len cap] w fun e w' => DrewLII w e w' := by
  go_enter Try.func22, Try.ntmps22
  go_wp2_with fail
  refine (open_any h).mono ?_
  rintro e w1 ⟨rfl, a1, b1, s1⟩
  have hbw := a1.lt
  go_wp2_with fail
  refine (l92Layers_any a1 (by omega)).mono ?_
  rintro e w2 ⟨v, l, rfl, o2, _, a2, k2⟩
  have O := Lib.hid o2; have A2 := Lib.hid a2; have K2 := Lib.hid k2
  clear o2 a2 k2
  go_wp2_with fail
  refine (pick_at 16 A2.out (by omega)).mono ?_
  rintro e w3 ⟨q, rfl, p3, q3, _, a3, k3⟩
  have A3 := Lib.hid a3; have K3 := Lib.hid (K2.out.trans k3); have O3 := Lib.hid (O.out.keep k3 hbw)
  have hs3 : w1.heap.size ≤ w3.heap.size := K3.out.size
  clear a3 k3
  by_cases z : q = 0
  · subst z
    go_wp2_with fail
    go_region_with (go_at_call 31; refine (pick_at (m := 40) (b := w.heap.size) _ ?_ (by omega)).mono ?_; (first | exact (A3.out.mono (by omega)).drew | exact ((A3.out.mono (by omega)).alloc _).drew); rintro e w5 ⟨q, rfl, q0, q1, _, a5, k5⟩; replace q1 := q1 (by decide); obtain ⟨y, hv⟩ := two_words (-400001) 400001 q q0 q1; have hl := pair_list (by simp; omega) hv; try have c := lit_kept' k5 A3.out.lt hv)
    all_goals
      go_wp2
      go_ret3
      first
        | exact ⟨_, l, y, _, rfl, ((O3.out.grow ((Below.refl _ _).alloc (Nat.le_refl _) _).drew).keep k5 hbw).row, ((K3.out.trans (Keep.made ((Below.refl _ _).alloc (Nat.le_refl _) _).drew)).trans k5).below b1 (Nat.le_refl _) (by omega)⟩
        | exact ⟨_, l, y, _, rfl, ((O3.out.grow (Below.refl _ _).drew).keep k5 hbw).row.grow ((Below.refl _ _).alloc (Nat.le_refl _) _), (((K3.out.trans (Keep.drew _ _)).trans k5).below b1 (Nat.le_refl _) (by omega)).alloc (by have := k5.size; simp at *; omega) _⟩
  · have e0 : (q == 0) = false := by simpa using z
    clear z
    go_wp2_with fail
    refine (pick_at 200 A3.out (by omega)).mono ?_
    rintro e w4 ⟨y, rfl, p4, q4, _, a4, k4⟩
    have A4 := Lib.hid a4; have K4 := Lib.hid (K3.out.trans k4); have O4 := Lib.hid (O3.out.keep k4 hbw)
    clear a4 k4
    go_wp2_with fail
    refine (pick_at 120 A4.out (by omega)).mono ?_
    rintro e w5 ⟨y5, rfl, p5, q5, _, a5, k5⟩
    have A5 := Lib.hid a5; have K5 := Lib.hid (K4.out.trans k5); have O5 := Lib.hid (O4.out.keep k5 hbw)
    clear a5 k5
    go_wp2_with fail
    refine (pick_at 20 A5.out (by omega)).mono ?_
    rintro e w6 ⟨y6, rfl, p6, q6, _, a6, k6⟩
    have K6 := Lib.hid (K5.out.trans k6); have O6 := Lib.hid (O5.out.keep k6 hbw)
    clear a6 k6
    go_wp2_with fail
    go_ret3
    exact ⟨_, l, _, _, rfl, O6.out.row, K6.out.below b1 (Nat.le_refl _) (by omega)⟩
set_option maxHeartbeats 3200000 in
theorem DrawLayersMerge_any {w : World} {a : Option Addr} {len cap : Nat} (h : Bytes w a len cap) :
    Calls Try.prog 25 #[.slice a len cap] w fun e w' => DrewLL w e w' := by
  go_enter Try.func25, Try.ntmps25
  go_wp2_with fail
  refine (open_any h).mono ?_
  rintro e w1 ⟨rfl, a1, b1, s1⟩
  have hbw := a1.lt
  have hb1 : w.heap.size ≤ w1.heap.size := by omega
  go_wp2_with fail
  refine (l92Layers_any a1 (by omega)).mono ?_
  rintro e w2 ⟨v, l, rfl, o2, l10, a2, k2⟩
  have O2 := Lib.hid o2; have A2 := Lib.hid a2; have K2 := Lib.hid k2
  obtain ⟨av, cv, rfl, hc1, hc2⟩ := o2.row.len
  unfold maxLen at hc2
  clear o2 a2 k2
  go_wp2_with fail
  refine (l92Layers_any A2.out (by omega)).mono ?_
  rintro e w3 ⟨u, m, rfl, o3, m10, a3, k3⟩
  have O3 := Lib.hid (O2.out.keep k3 hbw); have P3 := Lib.hid (o3.mono K2.out.size); have A3 := Lib.hid a3; have K3 := Lib.hid (K2.out.trans k3)
  clear o3 a3 k3
  go_wp2_with fail
  refine (pick_at 2 A3.out (by omega)).mono ?_
  rintro e w4 ⟨q, rfl, p4, q4, _, a4, k4⟩
  have O4 := Lib.hid (O3.out.keep k4 hbw); have P4 := Lib.hid (P3.out.keep k4 hbw); have A4 := Lib.hid a4; have K4 := Lib.hid (K3.out.trans k4)
  clear a4 k4
  by_cases e0 : q = 0
  rotate_left
  · have f0 : (q == 0) = false := by simpa using e0
    clear e0
    go_wp2_with fail
    go_ret2
    exact ⟨_, _, l, m, rfl, O4.out.row, P4.out.row, K4.out.below b1 (Nat.le_refl _) hb1⟩
  subst e0
  have hs4 : w1.heap.size ≤ w4.heap.size := K4.out.size
  have Q4 := Lib.hid (lown_new 27 hs4)
  have BN := Lib.hid ((Below.refl w4.heap.size w4).alloc (Nat.le_refl _) (.cells #[] 27))
  have O5 := Lib.hid (O4.out.grow BN.out)
  have A5 := Lib.hid (A4.out.alloc (.cells #[] 27))
  have K5 := Lib.hid (K4.out.grow (BN.out.mono hs4))
  go_wp2_with fail
  go_loopg [6, 7] l.length (fun k u i wr => ∃ (j : Nat) (m : LL), i = .int .i64 j ∧ j + k = l.length ∧ m.length ≤ j ∧ LOwn 27 wr w1.heap.size (.slice av l.length cv) l ∧ (LOwn 27 wr w4.heap.size u m) ∧ At wr w.heap.size (70 + 3 * j) ∧ Keep w.heap.size w1 wr ∧ w4.heap.size ≤ wr.heap.size ∧ (∀ b, (Value.slice av l.length cv).ownBlock = some b → b < w4.heap.size))
  case atStart => exact ⟨0, [], rfl, by omega, Nat.le_refl _, O5.out, lown_new _ (Nat.le_refl _), A5.out.mono (by omega), K5.out, by simp, fun b hb => (O4.out.lt b hb).2⟩
  case round =>
    obtain ⟨j, m, rfl, hk, hm, hl, hu, hat, hke, hs, hbl⟩ := hrel
    have K := Lib.hid hk; have OL := Lib.hid hl; have OU := Lib.hid hu; have A6 := Lib.hid hat; have K6 := Lib.hid hke; have BL := Lib.hid hbl
    have hjl : j ≤ l.length := by omega
    clear hk hl hu hat hke hbl
    by_cases hlt : j < l.length
    · go_wp2_with fail
      refine (pick_at 2 A6.out (by omega)).mono ?_
      rintro e w7 ⟨q, rfl, p7, q7, _, a7, k7⟩
      have OL7 := Lib.hid (OL.out.keep k7 hbw); have OU7 := Lib.hid (OU.out.keep k7 (by omega)); have A7 := Lib.hid a7; have K7 := Lib.hid (K6.out.trans k7)
      have hs7 : w4.heap.size ≤ w7.heap.size := Nat.le_trans hs k7.size
      clear a7 k7
      by_cases e0 : q = 0
      · subst e0
        obtain ⟨g, cap, hg, hcap, hcapm, hBg, hgw, hp⟩ := OL7.out.at (by omega)
        simp only [Value.slice.injEq, true_and] at hg
        obtain ⟨rfl, rfl⟩ := hg
        have t0 := (hp j hlt).top
        have hg4 := BL.out g rfl
        have hgb : g ≠ w.heap.size := by omega
        have i0 : (0 : Int) ≤ (j : Int) := by omega
        have i1 : (j : Int) < (l.length : Int) := by omega
        have nb : u6.ownBlock ≠ some g := fun e => by have := (OU7.out.lt g e).1; omega
        clear hp
        have hgw7 : g < w7.heap.size := by omega
        go_wp2_with fail
        go_region_held3 (fun w' => w'.cell? ⟨g, j * 2, none⟩ = some (.int .i64 l[j].1))
          (first | go_keep | exact (hg3.cell_far _ (by simp; have := k8.size; have := k9.size; simp at *; omega) (Ne.symm nb)).trans ‹_› | exact (k9.cell (p := ⟨g, j * 2, none⟩) (by have := k8.size; simp at *; omega) (by simp; omega)).trans ‹_› | exact (k8.cell (p := ⟨g, j * 2, none⟩) (by simp; omega) (by simp; omega)).trans ‹_›)
          (first
            | (go_at_call 31; refine (pick_at (b := w.heap.size) (m := 71 + 3 * j + 1) 2 (by exact a8) (by omega)).mono ?_; rintro e w9 ⟨r9, rfl, p9, q9, _, a9, k9⟩)
            | (go_at_call 31; refine (pick_at (b := w.heap.size) (m := 71 + 3 * j) 2 (A7.out.mono (by omega)).drew (by omega)).mono ?_; rintro e w8 ⟨r8, rfl, p8, q8, _, a8, k8⟩)
            | (refine step_append_lay layI (by rfl) _ _ (by rfl) (B := w4.heap.size) _ m (by rfl) ((((OU7.out.grow (Below.refl _ _).drew).keep k8 (by omega)).keep k9 (by omega)).grow ((Below.refl _ _).alloc (Nat.le_refl _) _)) ⟨w9.heap.size, 0, none⟩ (IntKind.i64.wrap (l[j].1 + r8), r9 == 0) (by rfl) (new_two w9 _ _ _).1 (new_two w9 _ _ _).2 (by omega) (by have := k8.size; have := k9.size; simp at *; omega) ?_; intro v3 w3 hown3 hg3))
        have hs8 : w7.heap.size ≤ w8.heap.size := k8.size
        have hs9 := k9.size
        have OL9 := ((OL7.out.grow (Below.refl _ _).drew).keep k8 hbw).keep k9 hbw
        have BA := (Below.refl w9.heap.size w9).alloc (Nat.le_refl _) (.cells #[.int .i64 (IntKind.i64.wrap (l[j].1 + r8)), .bool (r9 == 0)] 27)
        have OL3 := Lib.hid ((OL9.grow BA).same fun b hb => by cases hb; exact hg3.block g (by simp; omega) (fun e => nb e.symm))
        have B3 := (BA.mono (show w4.heap.size ≤ w9.heap.size by omega)).grown hg3 (by simp; omega) (fun k hk => (OU7.out.lt k hk).1)
        have AA := Lib.hid (a9.below (B3.mono (show w.heap.size + 1 ≤ w4.heap.size by omega)))
        have KA := Lib.hid ((((K7.out.trans (Keep.drew _ _)).trans k8).trans k9).grow (B3.mono hs4))
        have OU3 := Lib.hid hown3
        have hs3 := B3.size
        clear k8 k9 a8 a9 hg3 hown3 OL9 BA B3
        go_wp2_with fail
        go_roundg (gk - 1)
        case measure => have := K.out; omega
        case rel => exact ⟨j + 1, _, by go_num, by have := K.out; omega, by simp; omega, OL3.out, OU3.out, AA.out.mono (by omega), KA.out, by omega, BL.out⟩
      · have f0 : (q == 0) = false := by simpa using e0
        clear e0
        go_wp2_with fail
        go_roundg (gk - 1)
        case measure => have := K.out; omega
        case rel => exact ⟨j + 1, m, by go_num, by have := K.out; omega, by omega, OL7.out, OU7.out, A7.out.mono (by omega), K7.out, hs7, BL.out⟩
    · go_wp2_with fail
      go_ret2
      exact ⟨_, _, l, m, rfl, OL.out.row, OU.out.row, K6.out.below b1 (Nat.le_refl _) hb1⟩
end Go.Proofs.Ytbjeedeapioljaa
