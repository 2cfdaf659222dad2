/- The draws of events: l92Events, l92Pair. -/
import Derived.Test.YthhdpjkmjebjhabDraw
import Derived.Laws.NewBlocks
import Derived.Deep.AppendLies
import Derived.Test.YthhdpjkmjebjhabLate
import Derived.Test.YthhdpjkmjebjhabInts
namespace Go.Proofs.Ythhdpjkmjebjhab
open Go.RowKit

theorem evT' : PairT 77 46 := ⟨by kernel_rfl, Try.underlying46⟩
theorem intT' : IntT 47 := Try.underlying47
theorem Keep.grow {b : Nat} {w x y : World} (h : Keep b w x) (k : Below w.heap.size x y) : Keep b w y :=
  ⟨k.os.trans h.os, k.tape.trans h.tape, k.output.trans h.output, Nat.le_trans h.size k.size, fun i hi hb => (k.block i hi).trans (h.block i hi hb)⟩
theorem Own.keep {T : TypeId} {w w' : World} {b B : Nat} {v : Value} {l : List Pc} (h : Own T w B v l) (k : Keep b w w') (hb : b < B) : Own T w' B v l :=
  h.same fun g hg => k.block g (h.lt g hg).2 (by have := (h.lt g hg).1; omega)
theorem IOwn.keep {w w' : World} {b B : Nat} {v : Value} {l : List Int} (h : IOwn w B v l) (k : Keep b w w') (hb : b < B) : IOwn w' B v l :=
  h.same fun g hg => k.block g (h.lt g hg).2 (by have := (h.lt g hg).1; omega)
theorem lit_kept {b : Nat} {w w' : World} {i : Nat} {c : Array Value} {t : TypeId} {v : Value} (k : Keep b (w.alloc (.cells c t)) w') (hb : b < w.heap.size) (hv : c[i]? = some v) : w'.cell? ⟨w.heap.size, i, none⟩ = some v := by
  refine (k.cell (p := ⟨w.heap.size, i, none⟩) ?_ ?_).trans ?_
  · show w.heap.size < (w.alloc _).heap.size
    simp
  · show w.heap.size ≠ b
    omega
  · rw [World.cell?_alloc_new]; exact hv
theorem lit_kept' {b : Nat} {w w' : World} {i : Nat} {c : Array Value} {t : TypeId} {v : Value} (k : Keep b (w.alloc (.cells c t)).drew w') (hb : b < w.heap.size) (hv : c[i]? = some v) : w'.cell? ⟨w.heap.size, i, none⟩ = some v := by
  refine (k.cell (p := ⟨w.heap.size, i, none⟩) ?_ ?_).trans ?_
  · show w.heap.size < (w.alloc _).heap.size
    simp
  · show w.heap.size ≠ b
    omega
  · rw [World.cell?_drew, World.cell?_alloc_new]; exact hv
theorem two_words (x y q : Int) (h0 : 0 ≤ q) (h1 : q < 2) : ∃ v : Int, (#[Value.int .i64 x, .int .i64 y] : Array Value)[q.toNat]? = some (.int .i64 v) ∧ (v = x ∨ v = y) := by
  have h : q = 0 ∨ q = 1 := by omega
  rcases h with rfl | rfl
  · exact ⟨x, rfl, .inl rfl⟩
  · exact ⟨y, rfl, .inr rfl⟩
/-- What l92Events comes to. -/
def EvDrawn (w : World) (b m : Nat) (e : Ending) (w' : World) : Prop :=
  ∃ v l, e = .returned v ∧ Own 77 w' w.heap.size v l ∧ Bd 100000 6 l ∧ At w' b (m + 20) ∧ Keep b w w'
set_option maxRecDepth 100000 in
set_option maxHeartbeats 3200000 in
theorem l92Events_any {w : World} {b m : Nat} (h : At w b m) (hm : m ≤ 900000) :
    Calls Try.prog 82 #[.pointer (some ⟨b, 0, none⟩)] w fun e w' => EvDrawn w b m e w' := by
  have hbw := h.lt
  have A0 := Lib.hid (h.alloc (.cells #[] 77))
  have O0 := Lib.hid (own_new 77 (Nat.le_refl w.heap.size))
  have K0 := Lib.hid (Keep.alloc b w (.cells #[] 77))
  clear h
  go_enter Try.func82, Try.ntmps82
  go_wp2_with fail
  refine (pick_at 20 A0.out (by omega)).mono ?_
  rintro e w1 ⟨d, rfl, p1, q1, _, a1, k1⟩
  replace q1 := q1 (by decide)
  have O1 := Lib.hid (O0.out.keep k1 hbw)
  have A1 := Lib.hid a1; have K1 := Lib.hid (K0.out.trans k1)
  clear a1 k1
  go_wp2_with fail
  refine (pick_at 6 A1.out (by omega)).mono ?_
  rintro e w3 ⟨r, rfl, p3, q3, _, a3, k3⟩
  replace q3 := q3 (by decide)
  obtain ⟨n, rfl⟩ : ∃ n : Nat, r = n := ⟨r.toNat, by omega⟩
  have O3 := Lib.hid (O1.out.keep k3 hbw)
  have A3 := Lib.hid a3; have K3 := Lib.hid (K1.out.trans k3)
  clear a3 k3
  go_wp2_with fail
  go_loopg [3, 4, 6] n (fun k v x i wr => ∃ (j : Nat) (l : List Pc) (dd : Int), x = .int .i64 dd ∧ 0 ≤ dd ∧ dd ≤ 20 + 21 * (j : Int) ∧ i = .int .i64 j ∧ j + k = n ∧ l.length = j ∧ Bd 100000 j l ∧ Own 77 wr w.heap.size v l ∧ At wr b (m + 2 + 2 * j) ∧ Keep b w wr)
  case atStart => exact ⟨0, [], d, rfl, p1, by omega, rfl, by omega, rfl, ⟨by simp, fun p hp => by simp at hp⟩, O3.out, A3.out, K3.out⟩
  case round =>
    obtain ⟨j, l, dd, rfl, d0, d1, rfl, hk, hl, hbd, ho, hat, hke⟩ := hrel
    have K := Lib.hid hk; have O4 := Lib.hid ho; have A4 := Lib.hid hat; have K4 := Lib.hid hke; have HL := Lib.hid hl; have BD := Lib.hid hbd
    have hw4 : w.heap.size ≤ wr.heap.size := hke.size
    have hj5 : j ≤ n := by omega
    clear hk ho hat hke hl hbd O0 O1 O3
    by_cases hlt : (j : Int) < (n : Int)
    · go_wp2_with fail
      refine (pick_at 8 A4.out (by omega)).mono ?_
      rintro e w5 ⟨q, rfl, p5, q5, _, a5, k5⟩
      replace q5 := q5 (by decide)
      have z1 : IntKind.i64.wrap (1 + q) = 1 + q := IntWalk.i64_in _ (by omega)
      have A5 := Lib.hid a5
      have K5 := Lib.hid (K4.out.trans k5)
      have O5 := Lib.hid (O4.out.keep k5 hbw)
      have hs5 := K5.out.size
      clear a5 k5
      obtain ⟨n1, n2⟩ := new_two w5 (.int .i64 dd) (.int .i64 (1 + q)) 77
      have N1 := Lib.hid n1; have N2 := Lib.hid n2
      have BW := Lib.hid ((Below.refl w5.heap.size w5).alloc (Nat.le_refl _) (.cells #[.int .i64 dd, .int .i64 (1 + q)] 77))
      clear n1 n2
      go_wp2_with (at_builtin; refine append_pair evT' rfl _ _ rfl (B := w.heap.size) _ l rfl (O5.out.grow BW.out) ⟨w5.heap.size, 0, none⟩ (dd, 1 + q) rfl N1.out N2.out (by have := HL.out; omega) (by simp; omega) ?_; intro v8 w8 hown8 hg8)
      have O8 := Lib.hid hown8
      have B8 := Lib.hid ((BW.out.mono hs5).trans ((O5.out.grow BW.out).below hg8 (by simp; omega)))
      have A8 := Lib.hid (A5.out.below (B8.out.mono hbw))
      have K8 := Lib.hid (K5.out.grow B8.out)
      have BD8 := Lib.hid (BD.out.snoc (dd, 1 + q) ⟨⟨by show -100000 ≤ dd; omega, by show dd ≤ 100000; omega⟩, by show -100000 ≤ 1 + q; omega, by show 1 + q ≤ 100000; omega⟩)
      have hs8 : w.heap.size ≤ w8.heap.size := K8.out.size
      clear hown8 hg8
      go_wp2_with fail
      refine (pick_at 20 A8.out (by omega)).mono ?_
      rintro e w9 ⟨q', rfl, p9, q9, _, a9, k9⟩
      replace q9 := q9 (by decide)
      have z2 : IntKind.i64.wrap (dd + 1) = dd + 1 := IntWalk.i64_in _ (by omega)
      have z3 : IntKind.i64.wrap (dd + 1 + q') = dd + 1 + q' := IntWalk.i64_in _ (by omega)
      have A9 := Lib.hid a9
      have K9 := Lib.hid (K8.out.trans k9)
      have O9 := Lib.hid (O8.out.keep k9 hbw)
      clear a9 k9
      go_wp2_with fail
      go_roundg (gk - 1)
      case measure => have := K.out; omega
      case rel => exact ⟨j + 1, _, dd + 1 + q', rfl, by omega, by omega, by go_num, by have := K.out; omega, by have := HL.out; simp; omega, BD8.out, O9.out, A9.out.mono (by omega), K9.out⟩
    · have hjn : j = n := by omega
      by_cases hn : (n : Int) > 0
      · have hn0 : (0 : Int) < (n : Int) := hn
        go_wp2_with fail
        refine (pick_at 50 A4.out (by omega)).mono ?_
        rintro e w5 ⟨q, rfl, p5, q5, _, a5, k5⟩
        replace q5 := q5 (by decide)
        have A5 := Lib.hid (a5.mono (show m + 2 + 2 * j + 1 ≤ m + 13 by omega))
        have K5 := Lib.hid (K4.out.trans k5)
        have O5 := Lib.hid (O4.out.keep k5 hbw)
        have hs5 := K5.out.size
        clear a5 k5
        have hl1 : 1 ≤ l.length := by have := HL.out; omega
        have hl5 : l.length ≤ 5 := by have := HL.out; omega
        by_cases e0 : q = 0
        · subst e0
          go_wp2_with fail
          refine (pick_at 2 (A5.out.alloc _) (by omega)).mono ?_
          rintro e w6 ⟨q6, rfl, p6, q6', _, a6, k6⟩
          replace q6' := q6' (by decide)
          obtain ⟨y, hy, hy2⟩ := two_words 0 1001 q6 p6 q6'
          have c6 := lit_kept k6 A5.out.lt hy
          have A6 := Lib.hid a6
          have K6 := Lib.hid ((K5.out.trans (Keep.alloc b w5 _)).trans k6)
          have O6 := Lib.hid ((O5.out.grow ((Below.refl _ _).alloc (Nat.le_refl _) _)).keep k6 hbw)
          have Y : Hid (0 ≤ y ∧ y ≤ 1001) := Lib.hid (by omega)
          clear a6 k6 hy hy2
          obtain ⟨g, cap, hu, hcap, hcapm, hBg, hgw, hp⟩ := O6.out.at (by omega)
          unfold maxLen at hcapm
          have h0 := (hp 0 (by omega)).bot
          have f0 := (hp 0 (by omega)).f1
          have S0 := (hp 0 (by omega)).setBot y
          simp only [Nat.zero_mul, Nat.zero_add] at h0 f0 S0
          have S1 := Lib.hid S0
          have b0 := BD.out.get 0 (by omega)
          have i0 : (0 : Int) < (l.length : Int) := by omega
          clear hp S0
          subst hu
          go_wp2_with fail
          go_ret
          exact ⟨_, l.set 0 (l[0].1, y), rfl, S1.out, (BD.out.set 0 (l[0].1, y) ⟨b0.1, by have := Y.out; show -100000 ≤ y ∧ y ≤ 100000; omega⟩).mono (by omega) (by omega), A6.out.below (((Below.refl _ _).setCell (p := ⟨g, 1, none⟩) hBg _).mono hbw) |>.mono (by omega), K6.out.grow ((Below.refl _ _).setCell (p := ⟨g, 1, none⟩) (by omega) _)⟩
        · by_cases e1 : q = 1
          · subst e1
            clear e0
            obtain ⟨g, cap, hu, hcap, hcapm, hBg, hgw, hp⟩ := O5.out.at (by omega)
            unfold maxLen at hcapm
            have h0 := (hp 0 (by omega)).top
            have h1 := (hp 0 (by omega)).bot
            simp only [Nat.zero_mul, Nat.zero_add] at h0 h1
            have i0 : (0 : Int) < (l.length : Int) := by omega
            have b0 := BD.out.get 0 (by omega)
            obtain ⟨n1, n2⟩ := new_two w5 (.int .i64 l[0].1) (.int .i64 l[0].2) 77
            have N1 := Lib.hid n1; have N2 := Lib.hid n2
            have BW := Lib.hid ((Below.refl w5.heap.size w5).alloc (Nat.le_refl _) (.cells #[.int .i64 l[0].1, .int .i64 l[0].2] 77))
            clear hp n1 n2
            subst hu
            go_wp2_with (at_builtin; refine append_pair evT' rfl _ _ rfl (B := w.heap.size) _ l rfl (O5.out.grow BW.out) ⟨w5.heap.size, 0, none⟩ l[0] rfl N1.out N2.out (by omega) (by simp; omega) ?_; intro v8 w8 hown8 hg8)
            have O8 := Lib.hid hown8
            have B8 := Lib.hid ((BW.out.mono hs5).trans ((O5.out.grow BW.out).below hg8 (by simp; omega)))
            have A8 := Lib.hid (A5.out.below (B8.out.mono hbw))
            clear hown8 hg8
            go_wp2_with fail
            go_ret
            exact ⟨_, l ++ [l[0]], rfl, O8.out, (BD.out.snoc l[0] b0).mono (by omega) (by omega), A8.out.mono (by omega), K5.out.grow B8.out⟩
          · have f0 : (q == 0) = false := by simpa using e0
            have f1 : (q == 1) = false := by simpa using e1
            clear e0 e1
            go_wp2_with fail
            go_ret
            exact ⟨_, l, rfl, O5.out, BD.out.mono (by omega) (by omega), A5.out.mono (by omega), K5.out⟩
      · have hn0 : ¬ (0 : Int) < (n : Int) := hn
        go_wp2_with fail
        go_ret
        exact ⟨_, l, rfl, O4.out, BD.out.mono (by omega) (by omega), A4.out.mono (by omega), K4.out⟩
theorem pair_list {q : Nat} {v a b : Value} (h : q < [a, b].length) (hv : (#[a, b] : Array Value)[q]? = some v) : [a, b][q] = v := by simpa [List.getElem?_eq_getElem h] using hv
/-- What l92Pair comes to. -/
def PairDrawn (w : World) (b m : Nat) (e : Ending) (w' : World) : Prop :=
  ∃ (v u : Value) (l k : List Pc) (t : Int), e = .returned (.tuple #[v, u, .int .i64 t]) ∧ Own 77 w' w.heap.size v l ∧ Own 77 w' w.heap.size u k ∧ Bd 100000 6 l ∧ Bd 100000 6 k ∧ (-1 ≤ t ∧ t ≤ 1001) ∧ At w' b (m + 50) ∧ Keep b w w'
set_option maxRecDepth 100000 in
set_option maxHeartbeats 3200000 in
theorem l92Pair_any {w : World} {b m : Nat} (h : At w b m) (hm : m ≤ 800000) :
    Calls Try.prog 67 #[.pointer (some ⟨b, 0, none⟩)] w fun e w' => PairDrawn w b m e w' := by
  have hbw := h.lt
  have A0 := Lib.hid h
  clear h
  go_enter Try.func67, Try.ntmps67
  go_wp2_with fail
  refine (l92Events_any A0.out (by omega)).mono ?_
  rintro e w1 ⟨v, l, rfl, o1, d1, a1, k1⟩
  have A1 := Lib.hid a1; have K1 := Lib.hid k1; have O1 := Lib.hid o1; have D1 := Lib.hid d1
  clear a1 k1 o1 d1
  go_wp2_with fail
  refine (l92Events_any A1.out (by omega)).mono ?_
  rintro e w2 ⟨u, k, rfl, o2, d2, a2, k2⟩
  have A2 := Lib.hid a2; have K2 := Lib.hid (K1.out.trans k2); have O2 := Lib.hid (o2.mono K1.out.size); have D2 := Lib.hid d2
  have P2 := Lib.hid (O1.out.keep k2 hbw)
  clear a2 k2 o2 d2 O1
  go_wp2_with fail
  refine (pick_at 24 A2.out (by omega)).mono ?_
  rintro e w3 ⟨q, rfl, p3, q3, _, a3, k3⟩
  replace q3 := q3 (by decide)
  have A3 := Lib.hid a3; have K3 := Lib.hid (K2.out.trans k3); have O3 := Lib.hid (O2.out.keep k3 hbw); have P3 := Lib.hid (P2.out.keep k3 hbw)
  clear a3 k3 O2 P2
  by_cases z : q = 0
  · subst z
    go_wp2_with fail
    refine wp_region_held_drew (S := (fun w' => True)) (by kernel_rfl) (by all_goals trivial) (fun hHeld => ?_)
    refine take_h 0 14 rfl rfl (by kernel_rfl) (by kernel_rfl) (by kernel_rfl) (fun _ _ _ h => h) (by kernel_rfl) (by intro w hSw; (try dsimp only at hSw); go_simp; try with_reducible rfl) (by assumption) ?_
    refine take_h 1 15 rfl rfl (by kernel_rfl) (by kernel_rfl) (by kernel_rfl) (fun _ _ _ h => h) (by kernel_rfl) (by intro w hSw; (try dsimp only at hSw); go_simp; try with_reducible rfl) (by assumption) ?_
    refine take_h 3 17 rfl rfl (by kernel_rfl) (by kernel_rfl) (by kernel_rfl) (fun _ _ _ h => h) (by kernel_rfl) (by intro w hSw; (try dsimp only at hSw); go_simp; try with_reducible rfl) (by assumption) ?_
    refine wpAnyH_ready (rs := [2, 4]) (by kernel_rfl) (by simp) (AllReadyH.cons rfl (fun K hK => ?_) (AllReadyH.cons rfl (fun K hK => ?_) AllReadyH.nil))
    go_simp
    refine hK.out _ _ (by (try dsimp only); all_goals trivial) (fun hHeld => ?_)
    clear hK K
    refine wpAnyH_ready (rs := [4]) (by kernel_rfl) (by simp) (AllReadyH.cons rfl (fun K hK => ?_) AllReadyH.nil)
    go_simp
    go_wp2_with ((go_at_call 41; refine (pick_at _ (by first | exact (A3.out.alloc _).drew | exact A3.out.drew.alloc _) (by omega)).mono ?_; rintro e w5 ⟨q, rfl, q0, q1, _, a5, k5⟩; replace q1 := q1 (by decide); obtain ⟨y, hv, hy⟩ := two_words (-1) 1001 q q0 q1; have c5 : w5.cell? ⟨w3.heap.size, q.toNat, none⟩ = some (.int .i64 y) := by first | exact lit_kept k5 A3.out.lt hv | exact lit_kept' k5 A3.out.lt hv))
    refine hK.out _ _ (by (try dsimp only); all_goals trivial) (fun hHeld => ?_)
    clear hK K
    refine take_h 7 2 rfl rfl (by kernel_rfl) (by kernel_rfl) (by kernel_rfl) (fun _ _ _ h => h) (by kernel_rfl) (by intro w hSw; (try dsimp only at hSw); go_simp; try with_reducible rfl) (by assumption) ?_
    refine take_h 8 3 rfl rfl (by kernel_rfl) (by kernel_rfl) (by kernel_rfl) (fun _ _ _ h => h) (by kernel_rfl) (by intro w hSw; (try dsimp only at hSw); go_simp; try with_reducible rfl) (by assumption) ?_
    refine take_h 5 19 rfl rfl (by kernel_rfl) (by kernel_rfl) (by kernel_rfl) (fun _ _ _ h => h) (by kernel_rfl) (by intro w hSw; (try dsimp only at hSw); go_simp; try with_reducible rfl) (by assumption) ?_
    refine wpAnyH_ready (rs := [6]) (by kernel_rfl) (by simp) (AllReadyH.cons rfl (fun K hK => ?_) AllReadyH.nil)
    go_simp
    refine hK.out _ _ (by (try dsimp only); all_goals trivial) (fun hHeld => ?_)
    clear hK K
    refine take_h 9 4 rfl rfl (by kernel_rfl) (by kernel_rfl) (by kernel_rfl) (fun _ _ _ h => h) (by kernel_rfl) (by intro w hSw; (try dsimp only at hSw); go_simp; try with_reducible rfl) (by assumption) ?_
    refine wpAnyH_done (by kernel_rfl) ?_ _
    simp only [Exit.then]
    simp only [Act.put, List.setIfInBounds_toArray, List.set_cons_succ, List.set_cons_zero]
    rotate_left 1
    go_simp
    go_wp2_with ((go_at_call 41; refine (pick_at _ A3.out.drew (by omega)).mono ?_; rintro e w5 ⟨q, rfl, q0, q1, _, a5, k5⟩; replace q1 := q1 (by decide); obtain ⟨y, hv, hy⟩ := two_words (-1) 1001 q q0 q1; have hl := pair_list (by simp; omega) hv))
    refine hK.out _ _ (by (try dsimp only); all_goals trivial) (fun hHeld => ?_)
    clear hK K
    refine take_h 7 2 rfl rfl (by kernel_rfl) (by kernel_rfl) (by kernel_rfl) (fun _ _ _ h => h) (by kernel_rfl) (by intro w hSw; (try dsimp only at hSw); go_simp; try with_reducible rfl) (by assumption) ?_
    refine take_h 8 3 rfl rfl (by kernel_rfl) (by kernel_rfl) (by kernel_rfl) (fun _ _ _ h => h) (by kernel_rfl) (by intro w hSw; (try dsimp only at hSw); go_simp; try with_reducible rfl) (by assumption) ?_
    refine wpAnyH_ready (rs := [2]) (by kernel_rfl) (by simp) (AllReadyH.cons rfl (fun K hK => ?_) AllReadyH.nil)
    go_simp
    refine hK.out _ _ (by (try dsimp only); all_goals trivial) (fun hHeld => ?_)
    clear hK K
    refine take_h 5 19 rfl rfl (by kernel_rfl) (by kernel_rfl) (by kernel_rfl) (fun _ _ _ h => h) (by kernel_rfl) (by intro w hSw; (try dsimp only at hSw); go_simp; try with_reducible rfl) (by assumption) ?_
    refine wpAnyH_ready (rs := [6]) (by kernel_rfl) (by simp) (AllReadyH.cons rfl (fun K hK => ?_) AllReadyH.nil)
    go_simp
    refine hK.out _ _ (by (try dsimp only); all_goals trivial) (fun hHeld => ?_)
    clear hK K
    refine take_h 9 4 rfl rfl (by kernel_rfl) (by kernel_rfl) (by kernel_rfl) (fun _ _ _ h => h) (by kernel_rfl) (by intro w hSw; (try dsimp only at hSw); go_simp; try with_reducible rfl) (by assumption) ?_
    refine wpAnyH_done (by kernel_rfl) ?_ _
    simp only [Exit.then]
    simp only [Act.put, List.setIfInBounds_toArray, List.set_cons_succ, List.set_cons_zero]
    rotate_left 1
    all_goals
      go_wp2
      go_returns
      first
        | exact ⟨_, _, l, k, y, rfl, (P3.out.grow ((Below.refl _ _).alloc (Nat.le_refl _) _).drew).keep k5 hbw, (O3.out.grow ((Below.refl _ _).alloc (Nat.le_refl _) _).drew).keep k5 hbw, D1.out, D2.out, by omega, a5.mono (by omega), (K3.out.trans (Keep.made ((Below.refl _ _).alloc (Nat.le_refl _) _).drew)).trans k5⟩
        | exact ⟨_, _, l, k, y, rfl, ((P3.out.grow (Below.refl _ _).drew).keep k5 hbw).grow ((Below.refl _ _).alloc (Nat.le_refl _) _), ((O3.out.grow (Below.refl _ _).drew).keep k5 hbw).grow ((Below.refl _ _).alloc (Nat.le_refl _) _), D1.out, D2.out, by omega, (a5.alloc _).mono (by omega), ((K3.out.trans (Keep.drew _ _)).trans k5).trans (Keep.alloc _ _ _)⟩
  · have e0 : (q == 0) = false := by simpa using z
    clear z
    go_wp2_with fail
    refine (pick_at 4 A3.out (by omega)).mono ?_
    rintro e w4 ⟨y, rfl, p4, q4, _, a4, k4⟩
    replace q4 := q4 (by decide)
    have K4 := Lib.hid (K3.out.trans k4); have A4 := Lib.hid a4; have O4 := Lib.hid (O3.out.keep k4 hbw); have P4 := Lib.hid (P3.out.keep k4 hbw)
    clear a4 k4
    go_wp2_with fail
    go_returns
    exact ⟨_, _, l, k, y, rfl, P4.out, O4.out, D1.out, D2.out, by omega, A4.out.mono (by omega), K4.out⟩
end Go.Proofs.Ythhdpjkmjebjhab
