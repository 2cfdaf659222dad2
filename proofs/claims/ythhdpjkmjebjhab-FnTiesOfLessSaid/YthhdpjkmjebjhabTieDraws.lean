/- What the draws of ties come to. -/
import Derived.Test.YthhdpjkmjebjhabTieDraw
namespace Go.Proofs.Ythhdpjkmjebjhab
open Go.RowKit

def DrewT (w : World) (e : Ending) (w' : World) : Prop := ∃ v l, e = .returned v ∧ Own 39 w' w.heap.size v l ∧ Bd 200000 8 l ∧ Below w.heap.size w w'
def DrewT2 (w : World) (e : Ending) (w' : World) : Prop := ∃ (v u : Value) (l k : List Pc), e = .returned (.tuple #[v, u]) ∧ Own 39 w' w.heap.size v l ∧ Own 39 w' w.heap.size u k ∧ Bd 200000 8 l ∧ Bd 200000 8 k ∧ Below w.heap.size w w'
theorem DrawTiesCurve_any {w : World} {a : Option Addr} {len cap : Nat} (h : Bytes w a len cap) :
    Calls Try.prog 17 #[.slice a len cap] w fun e w' => DrewT w e w' := by
  go_enter Try.func17, Try.ntmps17
  go_wp2_with fail
  refine (open_any h).mono ?_
  rintro e w1 ⟨rfl, a1, b1, s1⟩
  go_wp2_with fail
  refine (l92Ties_any a1 (by omega)).mono ?_
  rintro e w2 ⟨v, l, rfl, o1, d1, a2, k2⟩
  have BB := Lib.hid (k2.below b1 (Nat.le_refl _) (by omega))
  have O1 := Lib.hid (o1.mono (B' := w.heap.size) (by omega)); have D1 := Lib.hid (d1.mono (c' := 200000) (n' := 8) (by omega) (by omega))
  clear o1 d1 a2 k2
  go_wp2_with fail
  go_ret
  exact ⟨_, l, rfl, O1.out, D1.out, BB.out⟩
set_option maxRecDepth 100000 in
set_option maxHeartbeats 3200000 in
theorem DrawTiesValid_any {w : World} {a : Option Addr} {len cap : Nat} (h : Bytes w a len cap) :
    Calls Try.prog 33 #[.slice a len cap] w fun e w' => DrewT w e w' := by
  go_enter Try.func33, Try.ntmps33
  go_wp2_with fail
  refine (open_any h).mono ?_
  rintro e w1 ⟨rfl, a1, b1, s1⟩
  go_wp2_with fail
  refine (l92Ties_any a1 (by omega)).mono ?_
  rintro e w2 ⟨v, l, rfl, o1, d1, a2, k2⟩
  have A2 := Lib.hid a2; have K2 := Lib.hid k2; have O2 := Lib.hid o1; have D2 := Lib.hid d1; have B1 := Lib.hid b1
  have hl6 := d1.1
  obtain ⟨pl, cl, rfl, cl1, cl2⟩ := o1.row.len
  unfold maxLen at cl2
  clear o1 d1 a2 k2 b1
  by_cases h1 : (l.length : Int) > 1
  · have h1' : (1 : Int) < (l.length : Int) := h1
    go_wp2_with fail
    refine (pick_at 6 A2.out (by omega)).mono ?_
    rintro e w3 ⟨q, rfl, p3, q3, _, a3, k3⟩
    replace q3 := q3 (by decide)
    have K3 := Lib.hid (K2.out.trans k3); have O3 := Lib.hid (O2.out.keep k3 (by omega)); have A3 := Lib.hid a3
    have hs3 := K3.out.size
    clear a3 k3
    by_cases z : q = 0
    · subst z
      obtain ⟨g, cap, hu, hcap, hcapm, hBg, hgw, hp⟩ := O3.out.at (by omega)
      simp only [Value.slice.injEq, true_and] at hu
      obtain ⟨rfl, rfl⟩ := hu
      have t0 := (hp 0 (by omega)).bot
      have f0 := (hp 0 (by omega)).f1
      have t1 := (hp 1 (by omega)).bot
      simp only [Nat.zero_mul, Nat.one_mul, Nat.zero_add] at t0 f0 t1
      obtain ⟨y0, hy0⟩ : ∃ y, l[0].2 = y := ⟨_, rfl⟩
      obtain ⟨y1, hy1⟩ : ∃ y, l[1].2 = y := ⟨_, rfl⟩
      rw [hy0] at t0
      rw [hy1] at t1
      have b1 := D2.out.get 1 (by omega)
      rw [hy1] at b1
      have hgb : w.heap.size ≠ g := by omega
      have i0 : (0 : Int) < (l.length : Int) := by omega
      have i1 : (1 : Int) < (l.length : Int) := h1'
      have i2 : 0 < l.length := by omega
      have i3 : 1 < l.length := by omega
      clear hp hy0 hy1
      go_wp2_with fail
      refine calm_region 10 (fun w' => w'.cell? ⟨g, 1, none⟩ = some (.int .i64 y0) ∧ w'.cell? ⟨g, 2 + 1, none⟩ = some (.int .i64 y1) ∧ w'.frozen? ⟨g, 1, none⟩ = false) (by kernel_rfl) (by exact ⟨t0, t1, f0⟩) (fun hHeld => ?_)
      refine take_l 0 17 rfl rfl (by kernel_rfl) (by kernel_rfl) (by kernel_rfl) (by kernel_rfl) (fun _ _ _ h => h) (by kernel_rfl) (by intro w hSw; (try dsimp only at hSw); go_simp; try with_reducible rfl) (by assumption) ?_
      refine take_l 1 18 rfl rfl (by kernel_rfl) (by kernel_rfl) (by kernel_rfl) (by kernel_rfl) (fun _ _ _ h => h) (by kernel_rfl) (by intro w hSw; (try dsimp only at hSw); go_simp; try with_reducible rfl) (by assumption) ?_
      refine take_l 2 19 rfl rfl (by kernel_rfl) (by kernel_rfl) (by kernel_rfl) (by kernel_rfl) (fun _ _ _ h => h) (by kernel_rfl) (by intro w hSw; (try dsimp only at hSw); go_simp; try with_reducible rfl) (by assumption) ?_
      refine take_l 3 20 rfl rfl (by kernel_rfl) (by kernel_rfl) (by kernel_rfl) (by kernel_rfl) (fun _ _ _ h => h) (by kernel_rfl) (by intro w hSw; (try dsimp only at hSw); go_simp; try with_reducible rfl) (by assumption) ?_
      refine take_l 4 21 rfl rfl (by kernel_rfl) (by kernel_rfl) (by kernel_rfl) (by kernel_rfl) (fun _ _ _ h => h) (by kernel_rfl) (by intro w hSw; (try dsimp only at hSw); go_simp; try with_reducible rfl) (by assumption) ?_
      refine take_l 5 22 rfl rfl (by kernel_rfl) (by kernel_rfl) (by kernel_rfl) (by kernel_rfl) (fun _ _ _ h => h) (by kernel_rfl) (by intro w hSw; (try dsimp only at hSw); go_simp; try with_reducible rfl) (by assumption) ?_
      refine step_l 6 (by kernel_rfl) rfl (fun K hK => ?_)
      go_simp
      go_wp2_with ((go_at_call 41; refine (pick_at (b := w.heap.size) 2 A3.out.drew (by omega)).mono ?_; rintro e w5 ⟨q5, rfl, p5, r5, _, a5, k5⟩; replace r5 := r5 (by decide); have z5 : IntKind.i64.wrap (y1 + q5) = y1 + q5 := IntWalk.i64_in _ (by omega); have f5 := (k5.frozen (p := ⟨g, 1, none⟩) hgw (Ne.symm hgb)).trans (show w3.drew.frozen? _ = false from f0)))
      refine hK.out _ _ (by (try dsimp only); (exact ⟨(k5.cell (p := ⟨g, 1, none⟩) hgw (Ne.symm hgb)).trans hHeld.1, (k5.cell (p := ⟨g, 2 + 1, none⟩) hgw (Ne.symm hgb)).trans hHeld.2.1, (k5.frozen (p := ⟨g, 1, none⟩) hgw (Ne.symm hgb)).trans hHeld.2.2⟩)) (fun hHeld => ?_)
      clear hK K
      refine take_l 7 24 rfl rfl (by kernel_rfl) (by kernel_rfl) (by kernel_rfl) (by kernel_rfl) (fun _ _ _ h => h) (by kernel_rfl) (by intro w hSw; (try dsimp only at hSw); go_simp; try with_reducible rfl) (by assumption) ?_
      refine step_l 8 (by kernel_rfl) rfl (fun K hK => ?_)
      go_simp
      refine hK.out _ _ hHeld (fun hHeld => ?_)
      clear hK K
      refine step_l 9 (by kernel_rfl) rfl (fun K hK => ?_)
      go_simp
      refine hK.out _ _ hHeld (fun hHeld => ?_)
      clear hK K
      refine last_l (by kernel_rfl) rfl (by kernel_rfl) (fun K hK => ?_)
      go_simp
      refine hK.out _ _ ?_
      clear hK K
      try simp only [Exit.then]
      try simp only [Act.put, List.setIfInBounds_toArray, List.set_cons_succ, List.set_cons_zero]
      have K5 := Lib.hid ((K3.out.trans (Keep.drew _ _)).trans k5)
      have O5 := Lib.hid ((O3.out.grow (Below.refl _ _).drew).keep k5 (by omega))
      obtain ⟨g', cap', hu', _, _, _, _, hp'⟩ := O5.out.at (by omega)
      simp only [Value.slice.injEq, Option.some.injEq, Addr.mk.injEq, and_true, true_and] at hu'
      obtain ⟨rfl, rfl⟩ := hu'
      have S1 := (hp' 0 (by omega)).setBot (y1 + q5)
      simp only [Nat.zero_mul, Nat.zero_add] at S1
      have S1 := Lib.hid S1
      have b0 := D2.out.get 0 (by omega)
      clear hp' hHeld a5 k5
      go_wp2_with fail
      go_ret
      exact ⟨_, l.set 0 (l[0].1, y1 + q5), rfl, S1.out.mono (by omega), (D2.out.mono (by omega) (by omega) : Bd 200000 8 l) |>.set 0 (l[0].1, y1 + q5) (by show (-200000 ≤ l[0].1 ∧ l[0].1 ≤ 200000) ∧ -200000 ≤ y1 + q5 ∧ y1 + q5 ≤ 200000; omega), ((K5.out.grow ((Below.refl _ _).setCell (p := ⟨g, 1, none⟩) hBg (.int .i64 (y1 + q5)))).below B1.out (Nat.le_refl _) (by omega))⟩
    · have e0 : (q == 0) = false := by simpa using z
      clear z
      go_wp2_with fail
      go_ret
      exact ⟨_, l, rfl, O3.out.mono (by omega), D2.out.mono (by omega) (by omega), K3.out.below B1.out (Nat.le_refl _) (by omega)⟩
  · have h1' : ¬ (1 : Int) < (l.length : Int) := h1
    go_wp2_with fail
    go_ret
    exact ⟨_, l, rfl, O2.out.mono (by omega), D2.out.mono (by omega) (by omega), K2.out.below B1.out (Nat.le_refl _) (by omega)⟩
set_option maxHeartbeats 1600000 in
theorem DrawTiesFit_any {w : World} {a : Option Addr} {len cap : Nat} (h : Bytes w a len cap) :
    Calls Try.prog 51 #[.slice a len cap] w fun e w' => DrewT2 w e w' := by
  go_enter Try.func51, Try.ntmps51
  go_wp2_with fail
  refine (open_any h).mono ?_
  rintro e w1 ⟨rfl, a1, b1, s1⟩
  go_wp2_with fail
  refine (l92Ties_any a1 (by omega)).mono ?_
  rintro e w2 ⟨v, l, rfl, o2, d2, a2, k2⟩
  have A2 := Lib.hid a2; have K2 := Lib.hid k2; have O2 := Lib.hid o2; have D2 := Lib.hid d2; have B1 := Lib.hid b1
  clear o2 d2 a2 k2 b1
  go_wp2_with fail
  refine (pick_at 4 A2.out (by omega)).mono ?_
  rintro e w3 ⟨q, rfl, p3, q3, _, a3, k3⟩
  replace q3 := q3 (by decide)
  have K3 := Lib.hid (K2.out.trans k3); have O3 := Lib.hid (O2.out.keep k3 (by omega)); have A3 := Lib.hid a3
  have hs3 := K3.out.size
  clear a3 k3
  by_cases z : q = 0
  · subst z
    go_wp2_with fail
    refine (l92Ties_any A3.out (by omega)).mono ?_
    rintro e w4 ⟨u, k, rfl, o4, d4, a4, k4⟩
    have O4 := Lib.hid (o4.mono (B' := w.heap.size) (by omega)); have D4 := Lib.hid d4
    have P4 := Lib.hid ((O3.out.keep k4 (by omega)).mono (B' := w.heap.size) (by omega))
    have BB := Lib.hid ((K3.out.trans k4).below B1.out (Nat.le_refl _) (by omega))
    clear o4 d4 a4 k4
    go_wp2_with fail
    go_returns
    exact ⟨_, _, l, k, rfl, P4.out, O4.out, D2.out.mono (by omega) (by omega), D4.out.mono (by omega) (by omega), BB.out⟩
  · have e0 : (q == 0) = false := by simpa using z
    clear z
    go_wp2_with fail
    refine (l92Some_any (n := 6) A3.out (by omega) O3.out (by omega) D2.out (by omega)).mono ?_
    rintro e w4 ⟨u, k, rfl, o4, d4, a4, k4⟩
    have O4 := Lib.hid o4; have D4 := Lib.hid d4; have A4 := Lib.hid a4
    have P4 := Lib.hid (O3.out.keep k4 (by omega))
    have K4 := Lib.hid (K3.out.trans k4)
    have hs4 := K4.out.size
    have hw3 : w.heap.size < w3.heap.size := by omega
    clear o4 d4 a4 k4
    go_wp2_with fail
    refine (l92Some_any (n := 6) A4.out (by omega) P4.out (by omega) D2.out (by omega)).mono ?_
    rintro e w5 ⟨x, r, rfl, o5, d5, a5, k5⟩
    have O5 := Lib.hid (o5.mono (B' := w.heap.size) (by omega)); have D5 := Lib.hid d5
    have Q5 := Lib.hid ((O4.out.keep k5 (by omega)).mono (B' := w.heap.size) (by omega))
    have BB := Lib.hid ((K4.out.trans k5).below B1.out (Nat.le_refl _) (by omega))
    clear o5 d5 a5 k5
    go_wp2_with fail
    go_returns
    exact ⟨_, _, r, k, rfl, O5.out, Q5.out, D5.out.mono (by omega) (by omega), D4.out.mono (by omega) (by omega), BB.out⟩
set_option maxHeartbeats 1600000 in
theorem DrawTiesThrough_any {w : World} {a : Option Addr} {len cap : Nat} (h : Bytes w a len cap) :
    Calls Try.prog 12 #[.slice a len cap] w fun e w' => DrewT2 w e w' := by
  go_enter Try.func12, Try.ntmps12
  go_wp2_with fail
  refine (open_any h).mono ?_
  rintro e w1 ⟨rfl, a1, b1, s1⟩
  go_wp2_with fail
  refine (l92Ties_any a1 (by omega)).mono ?_
  rintro e w2 ⟨v, l, rfl, o2, d2, a2, k2⟩
  have hs2 := k2.size
  have A2 := Lib.hid a2; have K2 := Lib.hid k2; have O2 := Lib.hid o2; have D2 := Lib.hid d2; have B1 := Lib.hid b1
  clear o2 d2 a2 k2 b1
  go_wp2_with fail
  refine (l92Ties_any A2.out (by omega)).mono ?_
  rintro e w3 ⟨u, k, rfl, o3, d3, a3, k3⟩
  have A3 := Lib.hid a3; have K3 := Lib.hid (K2.out.trans k3); have P3 := Lib.hid o3; have D3 := Lib.hid d3
  have O3 := Lib.hid (O2.out.keep k3 (by omega))
  have hs3 := K3.out.size
  clear o3 d3 a3 k3
  go_wp2_with fail
  refine (pick_at 2 A3.out (by omega)).mono ?_
  rintro e w4 ⟨q, rfl, p4, q4, _, a4, k4⟩
  replace q4 := q4 (by decide)
  have K4 := Lib.hid (K3.out.trans k4); have O4 := Lib.hid (O3.out.keep k4 (by omega)); have P4 := Lib.hid (P3.out.keep k4 (by omega)); have A4 := Lib.hid a4
  have hs4 := K4.out.size
  clear a4 k4
  by_cases z : q = 0
  · subst z
    go_wp2_with fail
    refine (pick_at 6 (A4.out.alloc (.cells #[] 39)) (by omega)).mono ?_
    rintro e w5 ⟨q0, rfl, p5, q5, _, a5, k5⟩
    replace q5 := q5 (by decide)
    have A5 := Lib.hid a5
    have k45 := Keep.trans (Keep.alloc w.heap.size w4 (.cells #[] 39)) k5
    have U5 := Lib.hid ((own_new 39 (Nat.le_refl w4.heap.size)).keep k5 (by omega))
    have K5 := Lib.hid k45
    have K14 := Lib.hid K4.out
    have hs5 := K5.out.size
    clear a5 k5 k45
    obtain ⟨pl, cl, rfl, cl1, cl2⟩ := O4.out.row.len
    unfold maxLen at cl2
    have hl6 := D2.out.1
    clear O2 O3 P3 P4 A2 A3 A4 K2 K3 K4 D3 a1
    go_wp2_with fail
    go_loopg [6, 7, 8] l.length (fun k x ag i wr => ∃ (j : Nat) (at_ : Int) (L : List Pc), i = .int .i64 j ∧ ag = .int .i64 at_ ∧ 0 ≤ at_ ∧ at_ ≤ 6 + 5 * (j : Int) ∧ j + k = l.length ∧ Bd 100000 j L ∧ Own 39 wr w4.heap.size x L ∧ At wr w.heap.size (61 + 1 + 2 * j) ∧ Keep w.heap.size w4 wr)
    case atStart => exact ⟨0, q0, [], rfl, rfl, by omega, by omega, by omega, ⟨by simp, fun p hp => by simp at hp⟩, U5.out, A5.out.mono (by omega), K5.out⟩
    case round =>
      obtain ⟨j, at_, L, rfl, rfl, ha0, ha1, hk, hbd, ho, hat, hke⟩ := hrel
      have K := Lib.hid hk; have T4 := Lib.hid ho; have A4 := Lib.hid hat; have K4 := Lib.hid hke; have BD := Lib.hid hbd; have V4 := Lib.hid (O4.out.keep hke (by omega))
      have hs4w := hke.size
      have hjl : j ≤ l.length := by omega
      clear hk ho hat hke hbd U5 A5 K5
      by_cases hlt : j < l.length
      · have j1 : (j : Int) < (l.length : Int) := by omega
        have j0 : (0 : Int) ≤ (j : Int) := by omega
        go_wp2_with fail
        refine (pick_at 3 A4.out (by omega)).mono ?_
        rintro e w6 ⟨q, rfl, p6, q6, _, a6, k6⟩
        replace q6 := q6 (by decide)
        have A6 := Lib.hid a6; have K6 := Lib.hid (K4.out.trans k6); have T6 := Lib.hid (T4.out.keep k6 (by omega))
        have V6 := Lib.hid (V4.out.keep k6 (by omega))
        have hs6 := K6.out.size
        have hst := k6.size
        clear a6 k6
        by_cases z : q > 0
        · have z' : 0 < q := z
          obtain ⟨g, cap, hu, hcap, hcapm, hBg, hgw, hp⟩ := V6.out.at (by omega)
          simp only [Value.slice.injEq, true_and] at hu
          obtain ⟨rfl, rfl⟩ := hu
          have h1 := (hp j hlt).bot
          have bj := D2.out.get j hlt
          obtain ⟨y, hy⟩ : ∃ y, l[j].2 = y := ⟨_, rfl⟩
          rw [hy] at h1 bj
          obtain ⟨n1, n2⟩ := new_two w6 (.int .i64 y) (.int .i64 at_) 39
          have N1 := Lib.hid n1; have N2 := Lib.hid n2
          have BW := Lib.hid ((Below.refl w6.heap.size w6).alloc (Nat.le_refl _) (.cells #[.int .i64 y, .int .i64 at_] 39))
          have BL8 := BD.out.1
          clear hp n1 n2
          go_wp2_with (at_builtin; refine append_pair tieT' rfl _ _ rfl (B := w4.heap.size) _ L rfl (T6.out.grow BW.out) ⟨w6.heap.size, 0, none⟩ (y, at_) rfl N1.out N2.out (by omega) (by simp; omega) ?_; intro v8 w8 hown8 hg8)
          have O8 := Lib.hid hown8
          have B8 := Lib.hid ((BW.out.mono hs6).trans ((T6.out.grow BW.out).below hg8 (by simp; omega)))
          have A8 := Lib.hid (A6.out.below (B8.out.mono (by omega)))
          have K8 := Lib.hid (K6.out.grow (B8.out.mono (by omega)))
          have BD8 := Lib.hid (BD.out.snoc (y, at_) (by show (-100000 ≤ y ∧ y ≤ 100000) ∧ -100000 ≤ at_ ∧ at_ ≤ 100000; omega))
          clear hown8 hg8
          go_wp2_with fail
          refine (pick_at 4 A8.out (by omega)).mono ?_
          rintro e w9 ⟨q9, rfl, p9, r9, _, a9, k9⟩
          replace r9 := r9 (by decide)
          have A9 := Lib.hid a9; have K9 := Lib.hid (K8.out.trans k9); have T9 := Lib.hid (O8.out.keep k9 (by omega))
          clear a9 k9
          go_wp2_with fail
          go_roundg (gk - 1)
          case measure => have := K.out; omega
          case rel => exact ⟨j + 1, at_ + 1 + q9, _, by go_num, by go_num, by omega, by omega, by have := K.out; omega, BD8.out, T9.out, A9.out.mono (by omega), K9.out⟩
        · have z' : ¬ (0 : Int) < q := z
          go_wp2_with fail
          refine (pick_at 4 A6.out (by omega)).mono ?_
          rintro e w9 ⟨q9, rfl, p9, r9, _, a9, k9⟩
          replace r9 := r9 (by decide)
          have A9 := Lib.hid a9; have K9 := Lib.hid (K6.out.trans k9); have T9 := Lib.hid (T6.out.keep k9 (by omega))
          clear a9 k9
          go_wp2_with fail
          go_roundg (gk - 1)
          case measure => have := K.out; omega
          case rel => exact ⟨j + 1, at_ + 1 + q9, _, by go_num, by go_num, by omega, by omega, by have := K.out; omega, BD.out.mono (by omega) (by omega), T9.out, A9.out.mono (by omega), K9.out⟩
      · go_wp2_with fail
        go_returns
        exact ⟨_, _, l, L, rfl, V4.out.mono (by omega), T4.out.mono (by omega), D2.out.mono (by omega) (by omega), BD.out.mono (by omega) (by omega), (K14.out.trans K4.out).below B1.out (Nat.le_refl _) (by omega)⟩
  · have e0 : (q == 0) = false := by simpa using z
    clear z
    go_wp2_with fail
    go_returns
    exact ⟨_, _, l, k, rfl, O4.out.mono (by omega), P4.out.mono (by omega), D2.out.mono (by omega) (by omega), D3.out.mono (by omega) (by omega), K4.out.below B1.out (Nat.le_refl _) (by omega)⟩
theorem bytes_below {w w' : World} {a : Option Addr} {len cap : Nat} (h : Bytes w a len cap) (b : Below w.heap.size w w') : Bytes w' a len cap := by
  rcases h with h | ⟨x, h1, h2, h3, h4, h5⟩
  · exact .inl h
  · refine .inr ⟨x, h1, h2, h3, ?_, fun i hi => ?_⟩
    · rcases h4 with h4 | h4
      · exact .inl h4
      · exact .inr (Nat.lt_of_lt_of_le h4 b.size)
    · obtain ⟨z, hz, hz'⟩ := h5 i hi
      exact ⟨z, (b.cell (cell_below hz)).trans hz, hz'⟩
theorem own_apart {T : TypeId} {w : World} {B C : Nat} {v u : Value} {l k : List Pc} (h : Own T w B v l) (h' : Own T w C u k) (l0 : 0 < l.length) (k0 : 0 < k.length) (hne : l[0].1 ≠ k[0].1) : ∀ b, v.ownBlock = some b → u.ownBlock ≠ some b := by
  obtain ⟨g, c, rfl, -, -, -, -, hp⟩ := h.at l0
  obtain ⟨g', c', rfl, -, -, -, -, hp'⟩ := h'.at k0
  have t := (hp 0 l0).top
  have t' := (hp' 0 k0).top
  rintro b hb hb'
  cases hb
  cases hb'
  simp only [Nat.zero_mul] at t t'
  rw [t] at t'
  simp only [Option.some.injEq, Value.int.injEq, true_and] at t'
  exact hne t'
theorem own_grown {T : TypeId} {w w' : World} {B : Nat} {v : Value} {l : List Pc} (h : Own T w B v l) {o : Option Nat} (k : w.grownBy w' o) (hne : ∀ b, v.ownBlock = some b → o ≠ some b) : Own T w' B v l :=
  h.same fun b hb => k.block b (h.lt b hb).2 (fun e => hne b hb e.symm)
set_option maxHeartbeats 3200000 in
theorem DrawTiesJoin_any {w : World} {a : Option Addr} {len cap : Nat} (h : Bytes w a len cap) :
    Calls Try.prog 30 #[.slice a len cap] w fun e w' => DrewT2 w e w' := by
  go_enter Try.func30, Try.ntmps30
  go_wp2_with fail
  refine (open_any h).mono ?_
  rintro e w1 ⟨rfl, a1, b1, s1⟩
  go_wp2_with fail
  refine (pick_at 12 a1 (by omega)).mono ?_
  rintro e w2 ⟨q, rfl, p2, q2, _, a2, k2⟩
  have BB := Lib.hid (k2.below b1 (Nat.le_refl _) (by omega))
  have hs2 := BB.out.size
  clear a1 b1 a2 k2
  by_cases z : q = 0
  · subst z
    have C0 := Lib.hid (cb_new 39 w2 [])
    have C1 := Lib.hid ((cb_new 39 w2 []).alloc (.cells #[] 39))
    have D0 := Lib.hid (cb_new 39 (w2.alloc (.cells #[] 39)) [])
    have B2 := Lib.hid (((Below.refl w2.heap.size w2).alloc (Nat.le_refl _) (.cells #[] 39)).alloc (by simp) (.cells #[] 39))
    go_wp2_with fail
    go_loopg [5, 6, 7] 8 (fun k x y i wr => ∃ (j : Nat) (L M : List Pc), i = .int .i64 j ∧ j + k = 8 ∧ L.length = j ∧ M.length = j ∧ (∀ p ∈ L, Sm 200000 p) ∧ (∀ p ∈ M, Sm 200000 p) ∧ Below w2.heap.size w2 wr ∧
      ((j = 0 ∧ L = [] ∧ M = [] ∧ x = .slice (some ⟨w2.heap.size, 0, none⟩) 0 0 ∧ y = .slice (some ⟨w2.heap.size + 1, 0, none⟩) 0 0 ∧ CB 39 wr w2.heap.size [] ∧ CB 39 wr (w2.heap.size + 1) []) ∨
       (∃ p r, L = (0, 0) :: p ∧ M = (1, 1) :: r ∧ Own 39 wr w2.heap.size x L ∧ Own 39 wr w2.heap.size y M)))
    case atStart => exact ⟨0, [], [], rfl, rfl, rfl, rfl, by simp, by simp, B2.out, .inl ⟨rfl, rfl, rfl, rfl, by simp, C1.out, by simpa using D0.out⟩⟩
    case round =>
      obtain ⟨j, L, M, rfl, hk, hl, hm, bl, bm, hb, hor⟩ := hrel
      have K := Lib.hid hk; have BW := Lib.hid hb; have BL := Lib.hid bl; have BM := Lib.hid bm
      have hj8 : j ≤ 8 := by omega
      clear hk hb bl bm C0 C1 D0 B2
      by_cases hlt : j < 8
      · have j1 : (j : Int) < 8 := by omega
        have z1 : IntKind.i64.wrap (2 * (j : Int)) = 2 * j := IntWalk.i64_in _ (by omega)
        have z2 : IntKind.i64.wrap (2 * (j : Int) + 1) = 2 * j + 1 := IntWalk.i64_in _ (by omega)
        have hwr := BW.out.size
        have HOR := Lib.hid hor
        clear hor
        rcases HOR.out with ⟨rfl, rfl, rfl, rfl, rfl, c0, c1⟩ | ⟨p, r, rfl, rfl, ol, om⟩
        · clear HOR
          obtain ⟨n1, n2⟩ := new_two wr (.int .i64 0) (.int .i64 0) 39
          have N1 := Lib.hid n1; have N2 := Lib.hid n2
          have BN := Lib.hid ((Below.refl wr.heap.size wr).alloc (Nat.le_refl _) (.cells #[.int .i64 0, .int .i64 0] 39))
          have C0 := Lib.hid (c0.same (BN.out.block _ c0.lt)); have C1 := Lib.hid (c1.same (BN.out.block _ c1.lt))
          have hc1 := c1.lt
          clear c0 c1 n1 n2
          go_wp2_with (first
            | (at_builtin; refine lse_append tieT' rfl _ _ rfl (g := w2.heap.size) (B := wr.heap.size) _ [] rfl (.inl ⟨rfl, rfl, C0.out⟩) ⟨wr.heap.size, 0, none⟩ (0, 0) rfl N1.out N2.out (by simp) (by simp) ?_; intro v8 w8 hown8 hb8; have O8 := Lib.hid hown8; have B8 := Lib.hid (BN.out.trans hb8); have hs8 := B8.out.size; have D8 := Lib.hid (C1.out.same (hb8.block _ hc1)); obtain ⟨n3, n4⟩ := new_two w8 (.int .i64 1) (.int .i64 1) 39; have N3 := Lib.hid n3; have N4 := Lib.hid n4; have BM8 := Lib.hid ((Below.refl w8.heap.size w8).alloc (Nat.le_refl _) (.cells #[.int .i64 1, .int .i64 1] 39)); have D9 := Lib.hid (D8.out.same (BM8.out.block _ D8.out.lt)); clear hown8 hb8 n3 n4)
            | (at_builtin; refine lse_append tieT' rfl _ _ rfl (g := w2.heap.size + 1) (B := w8.heap.size) _ [] rfl (.inl ⟨rfl, rfl, D9.out⟩) ⟨w8.heap.size, 0, none⟩ (1, 1) rfl N3.out N4.out (by simp) (by simp) ?_; intro v9 w9 hown9 hb9; have O9 := Lib.hid hown9; have B9 := Lib.hid (BM8.out.trans hb9); clear hown9 hb9))
          go_roundg (gk - 1)
          case measure => have := K.out; omega
          case rel =>
            have hs8' := B8.out.size
            exact ⟨1, [(0, 0)], [(1, 1)], by go_num, by have := K.out; omega, rfl, rfl, by simp [Sm], by simp [Sm], (BW.out.trans (B8.out.mono hwr)).trans (B9.out.mono (by omega)), .inr ⟨[], [], rfl, rfl, ((by simpa using O8.out : Own 39 w8 wr.heap.size v8 [(0, 0)]).grow B9.out).mono hwr, (by simpa using O9.out : Own 39 w9 w8.heap.size v9 [(1, 1)]).mono (by omega)⟩⟩
        · clear HOR
          have OL := Lib.hid ol; have OM := Lib.hid om
          have l1 := hl; have l2 := hm
          simp only [List.length_cons] at l1 l2
          have AP := Lib.hid (own_apart om ol (by simp) (by simp) (by simp))
          obtain ⟨n1, n2⟩ := new_two wr (.int .i64 (2 * (j : Int))) (.int .i64 (2 * (j : Int))) 39
          have N1 := Lib.hid n1; have N2 := Lib.hid n2
          have BN := Lib.hid ((Below.refl wr.heap.size wr).alloc (Nat.le_refl _) (.cells #[.int .i64 (2 * (j : Int)), .int .i64 (2 * (j : Int))] 39))
          clear n1 n2 ol om
          go_wp2_with (first
            | (at_builtin; refine append_pair tieT' rfl _ _ rfl (B := w2.heap.size) _ ((0, 0) :: p) rfl (OL.out.grow BN.out) ⟨wr.heap.size, 0, none⟩ (2 * (j : Int), 2 * (j : Int)) rfl N1.out N2.out (by simp; omega) (by simp; omega) ?_; intro v8 w8 hown8 hg8; have O8 := Lib.hid hown8; have B8 := Lib.hid ((BN.out.mono hwr).trans ((OL.out.grow BN.out).below hg8 (by simp; omega))); have hs8 := B8.out.size; have M8 := Lib.hid (own_grown (OM.out.grow BN.out) hg8 AP.out); obtain ⟨n3, n4⟩ := new_two w8 (.int .i64 (2 * (j : Int) + 1)) (.int .i64 (2 * (j : Int) + 1)) 39; have N3 := Lib.hid n3; have N4 := Lib.hid n4; have BM8 := Lib.hid ((Below.refl w8.heap.size w8).alloc (Nat.le_refl _) (.cells #[.int .i64 (2 * (j : Int) + 1), .int .i64 (2 * (j : Int) + 1)] 39)); have hs88 : w2.heap.size ≤ w8.heap.size := Nat.le_trans hwr (by have := hg8.size; simp at this; omega); have AP8 := Lib.hid (own_apart O8.out M8.out (by simp) (by simp) (by simp)); clear hown8 hg8 n3 n4)
            | (at_builtin; refine append_pair tieT' rfl _ _ rfl (B := w2.heap.size) _ ((1, 1) :: r) rfl (M8.out.grow BM8.out) ⟨w8.heap.size, 0, none⟩ (2 * (j : Int) + 1, 2 * (j : Int) + 1) rfl N3.out N4.out (by simp; omega) (by simp; omega) ?_; intro v9 w9 hown9 hg9; have O9 := Lib.hid hown9; have B9 := Lib.hid ((BM8.out.mono hs88).trans ((M8.out.grow BM8.out).below hg9 (by simp; omega))); have L9 := Lib.hid (own_grown (O8.out.grow BM8.out) hg9 AP8.out); clear hown9 hg9))
          go_roundg (gk - 1)
          case measure => have := K.out; omega
          case rel =>
            have hj1 : (0 : Int) ≤ (j : Int) := by omega
            exact ⟨j + 1, _, _, by go_num, by have := K.out; omega, by simp; omega, by simp; omega, fun q hq => by
              rcases List.mem_append.1 (show q ∈ ((0, 0) :: p) ++ [(2 * (j : Int), 2 * (j : Int))] from hq) with hq | hq
              · exact BL.out q hq
              · obtain rfl := List.mem_singleton.1 hq
                show (-200000 ≤ 2 * (j : Int) ∧ 2 * (j : Int) ≤ 200000) ∧ -200000 ≤ 2 * (j : Int) ∧ 2 * (j : Int) ≤ 200000
                omega, fun q hq => by
              rcases List.mem_append.1 (show q ∈ ((1, 1) :: r) ++ [(2 * (j : Int) + 1, 2 * (j : Int) + 1)] from hq) with hq | hq
              · exact BM.out q hq
              · obtain rfl := List.mem_singleton.1 hq
                show (-200000 ≤ 2 * (j : Int) + 1 ∧ 2 * (j : Int) + 1 ≤ 200000) ∧ -200000 ≤ 2 * (j : Int) + 1 ∧ 2 * (j : Int) + 1 ≤ 200000
                omega, (BW.out.trans B8.out).trans B9.out, .inr ⟨_, _, rfl, rfl, L9.out, O9.out⟩⟩
      · have j1 : ¬ (j : Int) < 8 := by omega
        have hj : j = 8 := by omega
        rcases hor with ⟨rfl, _⟩ | ⟨p, r, rfl, rfl, ol, om⟩
        · omega
        · have OL := Lib.hid ol; have OM := Lib.hid om
          clear ol om
          go_wp2_with fail
          go_returns
          exact ⟨_, _, _, _, rfl, OL.out.mono hs2, OM.out.mono hs2, ⟨by omega, BL.out⟩, ⟨by omega, BM.out⟩, BB.out.trans (BW.out.mono hs2)⟩
  · have e0 : (q == 0) = false := by simpa using z
    clear z
    go_wp2_with fail
    refine (DrawTiesFit_any (bytes_below h (BB.out.mono (by omega)))).mono ?_
    rintro e w3 ⟨v, u, l, k, rfl, o1, o2, d1, d2, b3⟩
    have O1 := Lib.hid (o1.mono (B' := w.heap.size) (by omega)); have O2 := Lib.hid (o2.mono (B' := w.heap.size) (by omega)); have D1 := Lib.hid d1; have D2 := Lib.hid d2
    have B3 := Lib.hid (BB.out.trans (b3.mono hs2))
    clear o1 o2 d1 d2 b3
    go_wp2_with fail
    go_returns
    exact ⟨_, _, l, k, rfl, O1.out, O2.out, D1.out, D2.out, B3.out⟩
end Go.Proofs.Ythhdpjkmjebjhab
