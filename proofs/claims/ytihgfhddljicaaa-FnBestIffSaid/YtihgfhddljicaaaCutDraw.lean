/- The draws of signals, distances and cuts. -/
import Derived.Test.YtihgfhddljicaaaDraw
import Derived.Laws.NewBlocks
import Derived.Test.YtihgfhddljicaaaCutSpec3
import Derived.Test.YtihgfhddljicaaaLate
namespace Go.Proofs.Ytihgfhddljicaaa
open Go.RowKit

theorem Keep.grow {b : Nat} {w x y : World} (h : Keep b w x) (k : Below w.heap.size x y) : Keep b w y :=
  ⟨k.os.trans h.os, k.tape.trans h.tape, k.output.trans h.output, Nat.le_trans h.size k.size, fun i hi hb => (k.block i hi).trans (h.block i hi hb)⟩
theorem IOwn.keep {w w' : World} {b B : Nat} {v : Value} {l : List Int} (h : IOwn w B v l) (k : Keep b w w') (hb : b < B) : IOwn w' B v l :=
  h.same fun g hg => k.block g (h.lt g hg).2 (by have := (h.lt g hg).1; omega)
theorem lit_kept {b : Nat} {w w' : World} {i : Nat} {c : Array Value} {t : TypeId} {v : Value} (k : Keep b (w.alloc (.cells c t)) w') (hb : b < w.heap.size) (hv : c[i]? = some v) : w'.cell? ⟨w.heap.size, i, none⟩ = some v := by
  refine (k.cell (p := ⟨w.heap.size, i, none⟩) ?_ ?_).trans ?_
  · show w.heap.size < (w.alloc _).heap.size
    simp
  · show w.heap.size ≠ b
    omega
  · rw [World.cell?_alloc_new]; exact hv
theorem lit_kept' {b : Nat} {w w' : World} {i : Nat} {c : Array Value} {t : TypeId} {v : Value} (k : Keep b (w.alloc (.cells c t)).drew w') (hb : b < w.heap.size) (hv : c[i]? = some v) : w'.cell? ⟨w.heap.size, i, none⟩ = some v := by
  refine (k.cell (p := ⟨w.heap.size, i, none⟩) ?_ ?_).trans ?_
  · show w.heap.size < (w.alloc _).heap.size
    simp
  · show w.heap.size ≠ b
    omega
  · rw [World.cell?_drew, World.cell?_alloc_new]; exact hv
theorem two_words (x y q : Int) (h0 : 0 ≤ q) (h1 : q < 2) : ∃ v : Int, (#[Value.int .i64 x, .int .i64 y] : Array Value)[q.toNat]? = some (.int .i64 v) := by
  have h : q = 0 ∨ q = 1 := by omega
  rcases h with rfl | rfl
  · exact ⟨x, rfl⟩
  · exact ⟨y, rfl⟩
theorem pair_list {q : Nat} {v a b : Value} (h : q < [a, b].length) (hv : (#[a, b] : Array Value)[q]? = some v) : [a, b][q] = v := by simpa [List.getElem?_eq_getElem h] using hv
/-- What l92Signal comes to. -/
def SigDrawn (w : World) (b m : Nat) (e : Ending) (w' : World) : Prop :=
  ∃ v l, e = .returned v ∧ IOwn w' w.heap.size v l ∧ l.length ≤ 20 ∧ At w' b (m + 20) ∧ Keep b w w'
set_option maxRecDepth 100000 in
set_option maxHeartbeats 3200000 in
theorem l92Signal_any {w : World} {b m : Nat} (h : At w b m) (hm : m ≤ 900000) :
    Calls Try.prog 27 #[.pointer (some ⟨b, 0, none⟩)] w fun e w' => SigDrawn w b m e w' := by
  have hbw := h.lt
  have A0 := Lib.hid (h.alloc (.cells #[] 3))
  have O0 := Lib.hid (iown_new (Nat.le_refl w.heap.size))
  have K0 := Lib.hid (Keep.alloc b w (.cells #[] 3))
  clear h
  go_enter Try.func27, Try.ntmps27
  go_wp2_with fail
  refine (pick_at 9 A0.out (by omega)).mono ?_
  rintro e w3 ⟨r, rfl, p3, q3, _, a3, k3⟩
  replace q3 := q3 (by decide)
  obtain ⟨n, rfl⟩ : ∃ n : Nat, r = n := ⟨r.toNat, by omega⟩
  have z0 : IntKind.i64.wrap (1 + (n : Int)) = ((n + 1 : Nat) : Int) := by rw [show 1 + (n : Int) = ((n + 1 : Nat) : Int) by omega]; exact IntWalk.i64_in _ (by omega)
  have O3 := Lib.hid (O0.out.keep k3 hbw)
  have A3 := Lib.hid a3; have K3 := Lib.hid (K0.out.trans k3)
  clear a3 k3 O0 A0 K0
  go_wp2_with fail
  go_loopg [3, 5] (n + 1) (fun k v i wr => ∃ (j : Nat) (l : List Int), i = .int .i64 j ∧ j + k = n + 1 ∧ l.length = j ∧ IOwn wr w.heap.size v l ∧ At wr b (m + 1 + j) ∧ Keep b w wr)
  case atStart => exact ⟨0, [], rfl, by omega, rfl, O3.out, A3.out, K3.out⟩
  case round =>
    obtain ⟨j, l, rfl, hk, hl, ho, hat, hke⟩ := hrel
    have K := Lib.hid hk; have O4 := Lib.hid ho; have A4 := Lib.hid hat; have K4 := Lib.hid hke; have HL := Lib.hid hl
    have hw4 : w.heap.size ≤ wr.heap.size := hke.size
    have hj5 : j ≤ n + 1 := by omega
    clear hk ho hat hke hl O3
    by_cases hlt : (j : Int) < ((n + 1 : Nat) : Int)
    · go_wp2_with fail
      refine (pick_at 9 A4.out (by omega)).mono ?_
      rintro e w5 ⟨q, rfl, p5, q5, _, a5, k5⟩
      replace q5 := q5 (by decide)
      have A5 := Lib.hid a5
      have K5 := Lib.hid (K4.out.trans k5)
      have O5 := Lib.hid (O4.out.keep k5 hbw)
      have hs5 := K5.out.size
      clear a5 k5
      have n1 := new_one w5 (.int .i64 q) 3
      have N1 := Lib.hid n1
      have BW := Lib.hid ((Below.refl w5.heap.size w5).alloc (Nat.le_refl _) (.cells #[.int .i64 q] 3))
      have z1 : IntKind.i64.wrap ((j : Int) + 1) = ((j + 1 : Nat) : Int) := by rw [show (j : Int) + 1 = ((j + 1 : Nat) : Int) by omega]; exact IntWalk.i64_in _ (by omega)
      clear n1
      go_wp2_with (at_builtin; refine iappend_one intT rfl _ _ rfl (B := w.heap.size) _ l rfl (O5.out.grow BW.out) ⟨w5.heap.size, 0, none⟩ q rfl N1.out (by have := HL.out; omega) (by simp; omega) ?_; intro v8 w8 hown8 hg8)
      have O8 := Lib.hid hown8
      have B8 := Lib.hid ((BW.out.mono hs5).trans ((O5.out.grow BW.out).below hg8 (by simp; omega)))
      have A8 := Lib.hid (A5.out.below (B8.out.mono hbw))
      have K8 := Lib.hid (K5.out.grow B8.out)
      clear hown8 hg8
      go_wp2_with fail
      go_roundg (gk - 1)
      case measure => have := K.out; omega
      case rel => exact ⟨j + 1, _, by first | rfl | (rw [z1]), by have := K.out; omega, by have := HL.out; simp; omega, O8.out, A8.out.mono (by omega), K8.out⟩
    · have hjn : j = n + 1 := by omega
      go_wp2_with fail
      refine (pick_at 40 A4.out (by omega)).mono ?_
      rintro e w5 ⟨q, rfl, p5, q5, _, a5, k5⟩
      replace q5 := q5 (by decide)
      have A5 := Lib.hid (a5.mono (show m + 1 + j + 1 ≤ m + 15 by omega))
      have K5 := Lib.hid (K4.out.trans k5)
      have O5 := Lib.hid (O4.out.keep k5 hbw)
      have hs5 := K5.out.size
      clear a5 k5
      have hl1 : 1 ≤ l.length ∧ l.length ≤ 20 := by have := HL.out; omega
      by_cases e0 : q = 0
      · subst e0
        go_wp2_with fail
        refine (pick_at 2 (A5.out.alloc _) (by omega)).mono ?_
        rintro e w6 ⟨q6, rfl, p6, q6', _, a6, k6⟩
        replace q6' := q6' (by decide)
        obtain ⟨y, hy⟩ := two_words (-1) 1001 q6 p6 q6'
        have c6 := lit_kept k6 A5.out.lt hy
        have A6 := Lib.hid a6
        have K6 := Lib.hid ((K5.out.trans (Keep.alloc b w5 _)).trans k6)
        have O6 := Lib.hid ((O5.out.grow ((Below.refl _ _).alloc (Nat.le_refl _) _)).keep k6 hbw)
        clear a6 k6 hy
        obtain ⟨g, cap, hu, hcap, hcapm, hBg, hgw, hp⟩ := O6.out.at (by omega)
        unfold maxLen at hcapm
        have h0 := (hp 0 (by omega)).cell
        have f0 := (hp 0 (by omega)).froz
        have S1 := Lib.hid ((hp 0 (by omega)).set y)
        have i0 : (0 : Int) < (l.length : Int) := by omega
        have j0 : 0 < l.length := by omega
        clear hp
        subst hu
        go_wp2_with fail
        go_ret
        exact ⟨_, l.set 0 y, rfl, S1.out, by rw [List.length_set]; exact hl1.2, A6.out.below (((Below.refl _ _).setCell (p := ⟨g, 0, none⟩) hBg _).mono hbw) |>.mono (by omega), K6.out.grow ((Below.refl _ _).setCell (p := ⟨g, 0, none⟩) hBg _)⟩
      · by_cases e1 : q = 1
        · subst e1
          clear e0
          have BN := Lib.hid ((Below.refl w.heap.size w5).alloc hs5 (.cells #[] 3))
          go_wp2_with fail
          go_ret
          exact ⟨_, [], rfl, iown_new hs5, by simp, A5.out.below (BN.out.mono hbw) |>.mono (by omega), K5.out.grow BN.out⟩
        · have f0 : (q == 0) = false := by simpa using e0
          have f1 : (q == 1) = false := by simpa using e1
          clear e0 e1
          go_wp2_with fail
          go_ret
          exact ⟨_, l, rfl, O5.out, hl1.2, A5.out.mono (by omega), K5.out⟩
/-- What l92Limits comes to. -/
def LimDrawn (w : World) (b m : Nat) (e : Ending) (w' : World) : Prop :=
  ∃ x y : Int, e = .returned (.tuple #[.int .i64 x, .int .i64 y]) ∧ At w' b (m + 5) ∧ Keep b w w'
set_option maxRecDepth 100000 in
set_option maxHeartbeats 3200000 in
theorem l92Limits_any {w : World} {b m : Nat} (h : At w b m) (hm : m ≤ 900000) :
    Calls Try.prog 28 #[.pointer (some ⟨b, 0, none⟩)] w fun e w' => LimDrawn w b m e w' := by
  have hbw := h.lt
  have A0 := Lib.hid h
  clear h
  go_enter Try.func28, Try.ntmps28
  go_wp2_with fail
  refine (pick_at 3 A0.out (by omega)).mono ?_
  rintro e w1 ⟨r, rfl, p1, q1, _, a1, k1⟩
  replace q1 := q1 (by decide)
  have A1 := Lib.hid a1; have K1 := Lib.hid k1
  obtain ⟨x, hx⟩ : ∃ x : Int, IntKind.i64.wrap (1 + r) = x := ⟨_, rfl⟩
  have z1 : IntKind.i64.wrap (1 + r) = 1 + r := IntWalk.i64_in _ (by omega)
  clear a1 k1 hx
  go_wp2_with fail
  refine (pick_at 24 A1.out (by omega)).mono ?_
  rintro e w2 ⟨q, rfl, p2, q2, _, a2, k2⟩
  replace q2 := q2 (by decide)
  have A3 := Lib.hid a2; have K3 := Lib.hid (K1.out.trans k2)
  clear a2 k2
  by_cases z : q = 0
  · subst z
    have z2 : IntKind.i64.wrap (1 + r - 1) = r := by rw [show 1 + r - 1 = r by omega]; exact IntWalk.i64_in _ (by omega)
    go_wp2_with fail
    refine wp_region_held_drew (S := (fun w' => True)) (by kernel_rfl) (by all_goals trivial) (fun hHeld => ?_)
    refine take_h 0 11 rfl rfl (by kernel_rfl) (by kernel_rfl) (by kernel_rfl) (fun _ _ _ h => h) (by kernel_rfl) (by intro w hSw; (try dsimp only at hSw); go_simp; try with_reducible rfl) (by assumption) ?_
    refine take_h 1 12 rfl rfl (by kernel_rfl) (by kernel_rfl) (by kernel_rfl) (fun _ _ _ h => h) (by kernel_rfl) (by intro w hSw; (try dsimp only at hSw); go_simp; try with_reducible rfl) (by assumption) ?_
    refine take_h 2 13 rfl rfl (by kernel_rfl) (by kernel_rfl) (by kernel_rfl) (fun _ _ _ h => h) (by kernel_rfl) (by intro w hSw; (try dsimp only at hSw); go_simp; try with_reducible rfl) (by assumption) ?_
    refine take_h 4 15 rfl rfl (by kernel_rfl) (by kernel_rfl) (by kernel_rfl) (fun _ _ _ h => h) (by kernel_rfl) (by intro w hSw; (try dsimp only at hSw); go_simp; try with_reducible rfl) (by assumption) ?_
    refine wpAnyH_ready (rs := [3, 5]) (by kernel_rfl) (by simp) (AllReadyH.cons rfl (fun K hK => ?_) (AllReadyH.cons rfl (fun K hK => ?_) AllReadyH.nil))
    go_simp
    refine hK.out _ _ (by (try dsimp only); all_goals trivial) (fun hHeld => ?_)
    clear hK K
    refine wpAnyH_ready (rs := [5]) (by kernel_rfl) (by simp) (AllReadyH.cons rfl (fun K hK => ?_) AllReadyH.nil)
    go_simp
    go_wp2_with ((go_at_call 29; refine (pick_at _ (by first | exact (A3.out.alloc _).drew | exact A3.out.drew.alloc _) (by omega)).mono ?_; rintro e w5 ⟨q, rfl, q0, q1, _, a5, k5⟩; replace q1 := q1 (by decide); obtain ⟨y, hv⟩ := two_words r 17 q q0 q1; have c5 : w5.cell? ⟨w2.heap.size, q.toNat, none⟩ = some (.int .i64 y) := by first | exact lit_kept k5 A3.out.lt hv | exact lit_kept' k5 A3.out.lt hv))
    refine hK.out _ _ (by (try dsimp only); all_goals trivial) (fun hHeld => ?_)
    clear hK K
    refine take_h 8 2 rfl rfl (by kernel_rfl) (by kernel_rfl) (by kernel_rfl) (fun _ _ _ h => h) (by kernel_rfl) (by intro w hSw; (try dsimp only at hSw); go_simp; try with_reducible rfl) (by assumption) ?_
    refine take_h 6 17 rfl rfl (by kernel_rfl) (by kernel_rfl) (by kernel_rfl) (fun _ _ _ h => h) (by kernel_rfl) (by intro w hSw; (try dsimp only at hSw); go_simp; try with_reducible rfl) (by assumption) ?_
    refine wpAnyH_ready (rs := [7]) (by kernel_rfl) (by simp) (AllReadyH.cons rfl (fun K hK => ?_) AllReadyH.nil)
    go_simp
    refine hK.out _ _ (by (try dsimp only); all_goals trivial) (fun hHeld => ?_)
    clear hK K
    refine take_h 9 3 rfl rfl (by kernel_rfl) (by kernel_rfl) (by kernel_rfl) (fun _ _ _ h => h) (by kernel_rfl) (by intro w hSw; (try dsimp only at hSw); go_simp; try with_reducible rfl) (by assumption) ?_
    refine wpAnyH_done (by kernel_rfl) ?_ _
    simp only [Exit.then]
    simp only [Act.put, List.setIfInBounds_toArray, List.set_cons_succ, List.set_cons_zero]
    rotate_left 1
    go_simp
    go_wp2_with ((go_at_call 29; refine (pick_at _ A3.out.drew (by omega)).mono ?_; rintro e w5 ⟨q, rfl, q0, q1, _, a5, k5⟩; replace q1 := q1 (by decide); obtain ⟨y, hv⟩ := two_words r 17 q q0 q1; have hl := pair_list (by simp; omega) hv))
    refine hK.out _ _ (by (try dsimp only); all_goals trivial) (fun hHeld => ?_)
    clear hK K
    refine take_h 8 2 rfl rfl (by kernel_rfl) (by kernel_rfl) (by kernel_rfl) (fun _ _ _ h => h) (by kernel_rfl) (by intro w hSw; (try dsimp only at hSw); go_simp; try with_reducible rfl) (by assumption) ?_
    refine wpAnyH_ready (rs := [3]) (by kernel_rfl) (by simp) (AllReadyH.cons rfl (fun K hK => ?_) AllReadyH.nil)
    go_simp
    refine hK.out _ _ (by (try dsimp only); all_goals trivial) (fun hHeld => ?_)
    clear hK K
    refine take_h 6 17 rfl rfl (by kernel_rfl) (by kernel_rfl) (by kernel_rfl) (fun _ _ _ h => h) (by kernel_rfl) (by intro w hSw; (try dsimp only at hSw); go_simp; try with_reducible rfl) (by assumption) ?_
    refine wpAnyH_ready (rs := [7]) (by kernel_rfl) (by simp) (AllReadyH.cons rfl (fun K hK => ?_) AllReadyH.nil)
    go_simp
    refine hK.out _ _ (by (try dsimp only); all_goals trivial) (fun hHeld => ?_)
    clear hK K
    refine take_h 9 3 rfl rfl (by kernel_rfl) (by kernel_rfl) (by kernel_rfl) (fun _ _ _ h => h) (by kernel_rfl) (by intro w hSw; (try dsimp only at hSw); go_simp; try with_reducible rfl) (by assumption) ?_
    refine wpAnyH_done (by kernel_rfl) ?_ _
    simp only [Exit.then]
    simp only [Act.put, List.setIfInBounds_toArray, List.set_cons_succ, List.set_cons_zero]
    rotate_left 1
    all_goals
      go_wp2
      go_ret2
      first
        | exact ⟨_, y, rfl, a5.mono (by omega), ((K3.out.trans (Keep.made ((Below.refl _ _).alloc (Nat.le_refl _) _).drew)).trans k5)⟩
        | exact ⟨_, y, rfl, (a5.alloc _).mono (by omega), ((K3.out.trans (Keep.drew _ _)).trans k5).trans (Keep.alloc _ _ _)⟩
  · have e0 : (q == 0) = false := by simpa using z
    clear z
    go_wp2_with fail
    refine (pick_at 4 A3.out (by omega)).mono ?_
    rintro e w4 ⟨y, rfl, p4, q4, _, a4, k4⟩
    have K4 := Lib.hid (K3.out.trans k4); have A4 := Lib.hid a4
    clear a4 k4
    go_wp2_with fail
    go_ret2
    exact ⟨_, _, rfl, A4.out.mono (by omega), K4.out⟩
/-! What the draws come to. -/
def DrewSig (w : World) (e : Ending) (w' : World) : Prop := ∃ v c, ∃ lo mo : Int, e = .returned (.tuple #[v, .int .i64 lo, .int .i64 mo]) ∧ IRow w' v c ∧ c.length ≤ 20 ∧ Below w.heap.size w w'
def DrewCuts (w : World) (e : Ending) (w' : World) : Prop := ∃ v u c l, ∃ lo mo : Int, e = .returned (.tuple #[v, .int .i64 lo, .int .i64 mo, u]) ∧ IRow w' v c ∧ IRow w' u l ∧ c.length ≤ 20 ∧ l.length ≤ 100 ∧ Below w.heap.size w w'
def DrewMany (w : World) (e : Ending) (w' : World) : Prop := ∃ n lo mo : Int, e = .returned (.tuple #[.int .i64 n, .int .i64 lo, .int .i64 mo]) ∧ Below w.heap.size w w'
theorem DrawCutsBest_any {w : World} {a : Option Addr} {len cap : Nat} (h : Bytes w a len cap) :
    Calls Try.prog 23 #[.slice a len cap] w fun e w' => DrewSig w e w' := by
  go_enter Try.func23, Try.ntmps23
  go_wp2_with fail
  refine (open_any h).mono ?_
  rintro e w1 ⟨rfl, a1, b1, s1⟩
  go_wp2_with fail
  refine (l92Signal_any a1 (by omega)).mono ?_
  rintro e w2 ⟨v, l, rfl, o2, hl, a2, k2⟩
  go_wp2_with fail
  refine (l92Limits_any a2 (by omega)).mono ?_
  rintro e w3 ⟨x, y, rfl, a3, k3⟩
  have O := Lib.hid (o2.keep k3 a1.lt)
  have BB := Lib.hid ((k2.trans k3).below b1 (Nat.le_refl _) (by omega))
  clear o2 a2 k2 a3 k3
  go_wp2_with fail
  go_ret3
  exact ⟨_, l, x, y, rfl, O.out.row, hl, BB.out⟩
theorem DrawCutsMany_any {w : World} {a : Option Addr} {len cap : Nat} (h : Bytes w a len cap) :
    Calls Try.prog 21 #[.slice a len cap] w fun e w' => DrewMany w e w' := by
  go_enter Try.func21, Try.ntmps21
  go_wp2_with fail
  refine (open_any h).mono ?_
  rintro e w1 ⟨rfl, a1, b1, s1⟩
  go_wp2_with fail
  refine (l92Limits_any a1 (by omega)).mono ?_
  rintro e w3 ⟨x, y, rfl, a3, k3⟩
  have A3 := Lib.hid a3; have K3 := Lib.hid k3
  clear a3 k3
  go_wp2_with fail
  refine (pick_at 16 A3.out (by omega)).mono ?_
  rintro e w4 ⟨q, rfl, p4, q4, _, a4, k4⟩
  have A4 := Lib.hid a4; have K4 := Lib.hid (K3.out.trans k4)
  clear a4 k4
  by_cases z : q = 0
  · subst z
    go_wp2_with fail
    refine (pick_at 2 (A4.out.alloc _) (by omega)).mono ?_
    rintro e w6 ⟨q6, rfl, p6, q6', _, a6, k6⟩
    replace q6' := q6' (by decide)
    obtain ⟨n, hy⟩ := two_words 0 17 q6 p6 q6'
    have c6 := lit_kept k6 A4.out.lt hy
    have BB := Lib.hid (((K4.out.trans (Keep.alloc _ w4 _)).trans k6).below b1 (Nat.le_refl _) (by omega))
    clear a6 k6 hy
    go_wp2_with fail
    go_ret3
    exact ⟨n, x, y, rfl, BB.out⟩
  · have e0 : (q == 0) = false := by simpa using z
    clear z
    go_wp2_with fail
    refine (pick_at 16 A4.out (by omega)).mono ?_
    rintro e w6 ⟨q6, rfl, p6, q6', _, a6, k6⟩
    have BB := Lib.hid ((K4.out.trans k6).below b1 (Nat.le_refl _) (by omega))
    clear a6 k6
    go_wp2_with fail
    go_ret3
    exact ⟨_, x, y, rfl, BB.out⟩
end Go.Proofs.Ytihgfhddljicaaa
