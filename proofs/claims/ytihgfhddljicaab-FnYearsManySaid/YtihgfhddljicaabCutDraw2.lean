/- The draw of cuts. -/
import Derived.Test.YtihgfhddljicaabCutDraw
namespace Go.Proofs.Ytihgfhddljicaab
open Go.RowKit

/-- Behind what leaves all alone that was there. -/
theorem Keep.app {b : Nat} {w w1 w2 : World} (h : Keep b w w1) (k : Below w.heap.size w1 w2) : Keep b w w2 :=
  ⟨k.os.trans h.os, k.tape.trans h.tape, k.output.trans h.output, Nat.le_trans h.size k.size, fun i hi hb => (k.block i hi).trans (h.block i hi hb)⟩
theorem best_len {c l : List Int} {lo mo : Int} (h : bestB c lo mo = some l) : 1 ≤ l.length ∧ l.length ≤ 16 := by
  obtain ⟨a, b, _, _, k⟩ := bestB_some h
  have := k.toAllowed.size; have := k.toAllowed.len; omega
set_option maxRecDepth 100000 in
set_option maxHeartbeats 3200000 in
theorem DrawCutsAllowed_any {w : World} {a : Option Addr} {len cap : Nat} (h : Bytes w a len cap) :
    Calls Try.prog 23 #[.slice a len cap] w fun e w' => DrewCuts w e w' := by
  go_enter Try.func23, Try.ntmps23
  go_wp2_with fail
  refine (open_any h).mono ?_
  rintro e w1 ⟨rfl, a1, b1, s1⟩
  go_wp2_with fail
  refine (l92Signal_any a1 (by omega)).mono ?_
  rintro e w2 ⟨v, c, rfl, o2, hl, a2, k2⟩
  go_wp2_with fail
  refine (l92Limits_any a2 (by omega)).mono ?_
  rintro e w3 ⟨x, y, rfl, a3, k3⟩
  have hbw := a1.lt
  have O3 := Lib.hid (o2.keep k3 a1.lt)
  have A3 := Lib.hid a3
  have K3 := Lib.hid (k2.trans k3)
  clear o2 a2 k2 a3 k3
  obtain ⟨ac, cc, rfl, hc1, hc2⟩ := O3.out.row.len
  unfold maxLen at hc2
  go_wp2_with fail
  refine (specCutsBest_any x y O3.out.row).mono ?_
  rintro e w4 ⟨u, rfl, o4, b4⟩
  have hs3 := K3.out.size
  have R4 := Lib.hid (O3.out.grow b4)
  have A4 := Lib.hid (A3.out.below (b4.mono A3.out.lt))
  have K4 := Lib.hid (K3.out.grow (b4.mono hs3))
  have hs4 := b4.size
  clear b4
  cases hb : bestB c x y with
  | none =>
    have RL := R4; have AL : Hid (At w4 w.heap.size 300) := Lib.hid (A4.out.mono (by omega)); have KL := K4
    rw [hb] at o4
    clear o4 hb R4 A4 K4
    simp only [Option.isSome_none]
    obtain ⟨wl, hwl⟩ : ∃ x, x = w4 := ⟨_, rfl⟩
    subst hwl
    obtain ⟨WL, hWL⟩ : ∃ x, x = wl := ⟨_, rfl⟩
    subst hWL
    have hbL := AL.out.lt
    have OA := Lib.hid (AL.out.alloc (.cells #[] 3))
    have OO := Lib.hid (iown_new (Nat.le_refl WL.heap.size))
    have OK := Lib.hid (Keep.alloc w.heap.size WL (.cells #[] 3))
    go_wp2_with fail
    go_loopg [13, 14] c.length (fun k y x wr => ∃ (i : Nat) (l : List Int), x = .int .i64 i ∧ i + k = c.length ∧ l.length ≤ i ∧ IOwn wr WL.heap.size y l ∧ At wr w.heap.size (300 + i) ∧ Keep w.heap.size WL wr)
    case atStart => exact ⟨0, [], rfl, by omega, by simp, OO.out, OA.out, OK.out⟩
    case round =>
      obtain ⟨i, l, rfl, hk, hll, ho, hat, hke⟩ := hrel
      have K := Lib.hid hk; have O5 := Lib.hid ho; have A5 := Lib.hid hat; have K5 := Lib.hid hke
      have hi5 : i ≤ c.length := by omega
      clear hk ho hat hke OA OO OK
      by_cases hlt : i < c.length
      · have i1 : (i : Int) < (c.length : Int) := by omega
        have e1 : IntKind.i64.wrap ((c.length : Int) - 1) = (c.length : Int) - 1 := IntWalk.i64_in _ (by omega)
        have zi : IntKind.i64.wrap ((i : Int) + 1) = ((i + 1 : Nat) : Int) := by rw [show (i : Int) + 1 = ((i + 1 : Nat) : Int) by omega]; exact IntWalk.i64_in _ (by omega)
        by_cases hend : (i : Int) = (c.length : Int) - 1
        · have he : ((i : Int) == (c.length : Int) - 1) = true := by simpa using hend
          clear hend
          have n1 := new_one wr (.int .i64 (i : Int)) 3
          have N1 := Lib.hid n1
          have BW := Lib.hid ((Below.refl wr.heap.size wr).alloc (Nat.le_refl _) (.cells #[.int .i64 (i : Int)] 3))
          have hsW := K5.out.size
          clear n1
          go_wp2_with (at_builtin; refine iappend_one intT rfl _ _ rfl (B := WL.heap.size) _ l rfl (O5.out.grow BW.out) ⟨wr.heap.size, 0, none⟩ (i : Int) rfl N1.out (by omega) (by simp; omega) ?_; intro v8 w8 hown8 hg8)
          have O8 := Lib.hid hown8
          have B8 := Lib.hid ((BW.out.mono hsW).trans ((O5.out.grow BW.out).below hg8 (by simp; omega)))
          have A8 := Lib.hid (A5.out.below (B8.out.mono hbL))
          clear hown8 hg8
          have K8 : Hid (Keep w.heap.size WL w8) := Lib.hid (Keep.app K5.out B8.out)
          go_wp2_with fail
          go_roundg (gk - 1)
          case measure => have := K.out; omega
          case rel => exact ⟨i + 1, _, by first | rfl | (rw [zi]), by have := K.out; omega, by simp; omega, O8.out, A8.out.mono (by omega), K8.out⟩
        · have he : ((i : Int) == (c.length : Int) - 1) = false := by simpa using hend
          clear hend
          go_wp2_with fail
          refine (pick_at 2 A5.out (by omega)).mono ?_
          rintro e w6 ⟨q, rfl, p6, q6, _, a6, k6⟩
          replace q6 := q6 (by decide)
          have A6 := Lib.hid a6; have K6 := Lib.hid (K5.out.trans k6); have O6 := Lib.hid (O5.out.keep k6 hbL)
          clear a6 k6
          by_cases z : q = 0
          · subst z
            have n1 := new_one w6 (.int .i64 (i : Int)) 3
            have N1 := Lib.hid n1
            have BW := Lib.hid ((Below.refl w6.heap.size w6).alloc (Nat.le_refl _) (.cells #[.int .i64 (i : Int)] 3))
            have hsW := K6.out.size
            clear n1
            go_wp2_with (at_builtin; refine iappend_one intT rfl _ _ rfl (B := WL.heap.size) _ l rfl (O6.out.grow BW.out) ⟨w6.heap.size, 0, none⟩ (i : Int) rfl N1.out (by omega) (by simp; omega) ?_; intro v8 w8 hown8 hg8)
            have O8 := Lib.hid hown8
            have B8 := Lib.hid ((BW.out.mono hsW).trans ((O6.out.grow BW.out).below hg8 (by simp; omega)))
            have A8 := Lib.hid (A6.out.below (B8.out.mono hbL))
            clear hown8 hg8
            have K8 : Hid (Keep w.heap.size WL w8) := Lib.hid (Keep.app K6.out B8.out)
            go_wp2_with fail
            go_roundg (gk - 1)
            case measure => have := K.out; omega
            case rel => exact ⟨i + 1, _, by first | rfl | (rw [zi]), by have := K.out; omega, by simp; omega, O8.out, A8.out.mono (by omega), K8.out⟩
          · have z0 : (q == 0) = false := by simpa using z
            clear z
            go_wp2_with fail
            go_roundg (gk - 1)
            case measure => have := K.out; omega
            case rel => exact ⟨i + 1, l, by first | rfl | (rw [zi]), by have := K.out; omega, by omega, O6.out, A6.out.mono (by omega), K6.out⟩
      · have hi : i = c.length := by omega
        subst hi
        have RC := Lib.hid (RL.out.keep K5.out (by omega))
        have BB := Lib.hid ((KL.out.trans K5.out).below b1 (Nat.le_refl _) (by omega))
        go_wp2_with fail
        go_returns
        exact ⟨_, _, c, l, x, y, rfl, RC.out.row, O5.out.row, hl, by omega, BB.out⟩
  | some l =>
    obtain ⟨l1, l16⟩ := best_len hb
    rw [hb] at o4
    have o4' : IOwn w4 w3.heap.size u l := o4
    have O4 := Lib.hid o4'
    simp only [Option.isSome_some]
    clear o4 o4' hb
    go_wp2_with fail
    refine (pick_at 3 A4.out (by omega)).mono ?_
    rintro e w5 ⟨q, rfl, p5, q5, _, a5, k5⟩
    replace q5 := q5 (by decide)
    have A5 := Lib.hid a5; have K5 := Lib.hid (K4.out.trans k5); have R5 := Lib.hid (R4.out.keep k5 (by omega)); have O5 := Lib.hid (O4.out.keep k5 (by omega))
    have hs5 := k5.size
    clear a5 k5
    by_cases z : 0 < q
    · go_wp2_with fail
      refine (pick_at 4 A5.out (by omega)).mono ?_
      rintro e w6 ⟨q', rfl, p6, q6, _, a6, k6⟩
      replace q6 := q6 (by decide)
      have A6 := Lib.hid a6; have K6 := Lib.hid (K5.out.trans k6); have R6 := Lib.hid (R5.out.keep k6 (by omega)); have O6 := Lib.hid (O5.out.keep k6 (by omega))
      have hs6 := k6.size
      clear a6 k6
      by_cases z2 : q' = 0
      · subst z2
        obtain ⟨g, cap, hu, hcap, hcapm, hBg, hgw, hp⟩ := O6.out.at (by omega)
        unfold maxLen at hcapm
        subst hu
        clear hp
        go_wp2_with fail
        refine (pick_at (l.length : Int) A6.out (by omega)).mono ?_
        rintro e w7 ⟨q7, rfl, p7, q7', _, a7, k7⟩
        replace q7' := q7' (by omega)
        obtain ⟨k, rfl⟩ : ∃ k : Nat, q7 = k := ⟨q7.toNat, by omega⟩
        have hk : k < l.length := by omega
        have A7 := Lib.hid a7; have K7 := Lib.hid (K6.out.trans k7); have R7 := Lib.hid (R6.out.keep k7 (by omega)); have O7 := Lib.hid (O6.out.keep k7 (by omega))
        have hs7 := k7.size
        obtain ⟨g', cap', hu', _, _, hBg', hgw', hp⟩ := O7.out.at (by omega)
        simp only [Value.slice.injEq, Option.some.injEq, Addr.mk.injEq, and_true, true_and] at hu'
        obtain ⟨rfl, rfl⟩ := hu'
        have c7 := (hp k hk).cell
        have f7 := (hp k hk).froz
        have i0 : (0 : Int) ≤ (k : Int) := by omega
        have hgb : g ≠ w.heap.size := by omega
        obtain ⟨xk, hxk⟩ : ∃ z : Int, l[k] = z := ⟨_, rfl⟩
        rw [hxk] at c7
        clear a7 k7 hp hxk
        go_wp2_with fail
        refine calm_region 11 (fun w' => w'.cell? ⟨g, k, none⟩ = some (.int .i64 xk) ∧ w'.frozen? ⟨g, k, none⟩ = false) (by kernel_rfl) (by exact ⟨c7, f7⟩) (fun hHeld => ?_)
        refine take_l 0 44 rfl rfl (by kernel_rfl) (by kernel_rfl) (by kernel_rfl) (by kernel_rfl) (fun _ _ _ h => h) (by kernel_rfl) (by intro w hSw; (try dsimp only at hSw); go_simp; try with_reducible rfl) (by assumption) ?_
        refine take_l 1 45 rfl rfl (by kernel_rfl) (by kernel_rfl) (by kernel_rfl) (by kernel_rfl) (fun _ _ _ h => h) (by kernel_rfl) (by intro w hSw; (try dsimp only at hSw); go_simp; try with_reducible rfl) (by assumption) ?_
        refine take_l 2 46 rfl rfl (by kernel_rfl) (by kernel_rfl) (by kernel_rfl) (by kernel_rfl) (fun _ _ _ h => h) (by kernel_rfl) (by intro w hSw; (try dsimp only at hSw); go_simp; try with_reducible rfl) (by assumption) ?_
        refine take_l 3 47 rfl rfl (by kernel_rfl) (by kernel_rfl) (by kernel_rfl) (by kernel_rfl) (fun _ _ _ h => h) (by kernel_rfl) (by intro w hSw; (try dsimp only at hSw); go_simp; try with_reducible rfl) (by assumption) ?_
        refine take_l 4 48 rfl rfl (by kernel_rfl) (by kernel_rfl) (by kernel_rfl) (by kernel_rfl) (fun _ _ _ h => h) (by kernel_rfl) (by intro w hSw; (try dsimp only at hSw); go_simp; try with_reducible rfl) (by assumption) ?_
        refine take_l 5 49 rfl rfl (by kernel_rfl) (by kernel_rfl) (by kernel_rfl) (by kernel_rfl) (fun _ _ _ h => h) (by kernel_rfl) (by intro w hSw; (try dsimp only at hSw); go_simp; try with_reducible rfl) (by assumption) ?_
        refine take_l 6 50 rfl rfl (by kernel_rfl) (by kernel_rfl) (by kernel_rfl) (by kernel_rfl) (fun _ _ _ h => h) (by kernel_rfl) (by intro w hSw; (try dsimp only at hSw); go_simp; try with_reducible rfl) (by assumption) ?_
        refine step_l 7 (by kernel_rfl) rfl (fun K hK => ?_)
        go_simp
        go_wp2_with (go_at_call 38; refine (pick_at (b := w.heap.size) 3 A7.out.drew (by omega)).mono ?_; rintro e w8 ⟨q8, rfl, p8, q8', _, a8, k8⟩)
        refine hK.out _ _ (by (try dsimp only); (exact ⟨(k8.cell (p := ⟨g, k, none⟩) hgw' hgb).trans hHeld.1, (k8.frozen (p := ⟨g, k, none⟩) hgw' hgb).trans hHeld.2⟩)) (fun hHeld => ?_)
        clear hK K
        refine take_l 8 52 rfl rfl (by kernel_rfl) (by kernel_rfl) (by kernel_rfl) (by kernel_rfl) (fun _ _ _ h => h) (by kernel_rfl) (by intro w hSw; (try dsimp only at hSw); go_simp; try with_reducible rfl) (by assumption) ?_
        refine take_l 9 53 rfl rfl (by kernel_rfl) (by kernel_rfl) (by kernel_rfl) (by kernel_rfl) (fun _ _ _ h => h) (by kernel_rfl) (by intro w hSw; (try dsimp only at hSw); go_simp; try with_reducible rfl) (by assumption) ?_
        refine take_l 10 54 rfl rfl (by kernel_rfl) (by kernel_rfl) (by kernel_rfl) (by kernel_rfl) (fun _ _ _ h => h) (by kernel_rfl) (by intro w hSw; (try dsimp only at hSw); go_simp; try with_reducible rfl) (by assumption) ?_
        refine last_l (by kernel_rfl) rfl (by kernel_rfl) (fun K hK => ?_)
        go_simp
        refine hK.out _ _ ?_
        clear hK K
        try simp only [Exit.then]
        try simp only [Act.put, List.setIfInBounds_toArray, List.set_cons_succ, List.set_cons_zero]
        have O8 := (O7.out.grow (Below.refl _ _).drew).keep k8 (by omega)
        have R8 := (R7.out.grow (Below.refl _ _).drew).keep k8 (by omega)
        have hs8 := k8.size
        have hs8' : w7.heap.size ≤ w8.heap.size := hs8
        obtain ⟨g', cap', hu', _, _, _, hgw8, hp⟩ := O8.at (by omega)
        simp only [Value.slice.injEq, Option.some.injEq, Addr.mk.injEq, and_true, true_and] at hu'
        obtain ⟨rfl, rfl⟩ := hu'
        have S8 := Lib.hid ((hp k hk).set (IntKind.i64.wrap (IntKind.i64.wrap (xk + q8) - 1)))
        have RC := Lib.hid (R8.same (w' := w8.setCell ⟨g, k, none⟩ (.int .i64 (IntKind.i64.wrap (IntKind.i64.wrap (xk + q8) - 1)))) fun b hb => Below.heap_setCell _ _ _ _ (by have := (O3.out.lt b hb).2; show b ≠ g; omega))
        have K8 := Keep.app ((K7.out.trans (Keep.drew _ w7)).trans k8) ((Below.refl w1.heap.size w8).setCell (p := ⟨g, k, none⟩) (show w1.heap.size ≤ g by omega) (.int .i64 (IntKind.i64.wrap (IntKind.i64.wrap (xk + q8) - 1))))
        have BB := Lib.hid (K8.below b1 (Nat.le_refl _) (by omega))
        clear hp k8 a8 K8 O8 R8 hHeld hgw8
        go_wp2_with fail
        go_returns
        exact ⟨_, _, c, l.set k _, x, y, rfl, RC.out.row, S8.out.row, hl, by rw [List.length_set]; omega, BB.out⟩
      · have z3 : (q' == 0) = false := by simpa using z2
        have BB := Lib.hid (K6.out.below b1 (Nat.le_refl _) (by omega))
        clear z2
        go_wp2_with fail
        go_returns
        exact ⟨_, _, c, l, x, y, rfl, R6.out.row, O6.out.row, hl, by omega, BB.out⟩
    · have RL := R5; have AL : Hid (At w5 w.heap.size 300) := Lib.hid (A5.out.mono (by omega)); have KL := K5
      clear R4 A4 K4 O4 R5 A5 K5 O5 l1 l16
      obtain ⟨wl, hwl⟩ : ∃ x, x = w5 := ⟨_, rfl⟩
      subst hwl
      obtain ⟨WL, hWL⟩ : ∃ x, x = wl := ⟨_, rfl⟩
      subst hWL
      have hbL := AL.out.lt
      have OA := Lib.hid (AL.out.alloc (.cells #[] 3))
      have OO := Lib.hid (iown_new (Nat.le_refl WL.heap.size))
      have OK := Lib.hid (Keep.alloc w.heap.size WL (.cells #[] 3))
      go_wp2_with fail
      go_loopg [13, 14] c.length (fun k y x wr => ∃ (i : Nat) (l : List Int), x = .int .i64 i ∧ i + k = c.length ∧ l.length ≤ i ∧ IOwn wr WL.heap.size y l ∧ At wr w.heap.size (300 + i) ∧ Keep w.heap.size WL wr)
      case atStart => exact ⟨0, [], rfl, by omega, by simp, OO.out, OA.out, OK.out⟩
      case round =>
        obtain ⟨i, l, rfl, hk, hll, ho, hat, hke⟩ := hrel
        have K := Lib.hid hk; have O5 := Lib.hid ho; have A5 := Lib.hid hat; have K5 := Lib.hid hke
        have hi5 : i ≤ c.length := by omega
        clear hk ho hat hke OA OO OK
        by_cases hlt : i < c.length
        · have i1 : (i : Int) < (c.length : Int) := by omega
          have e1 : IntKind.i64.wrap ((c.length : Int) - 1) = (c.length : Int) - 1 := IntWalk.i64_in _ (by omega)
          have zi : IntKind.i64.wrap ((i : Int) + 1) = ((i + 1 : Nat) : Int) := by rw [show (i : Int) + 1 = ((i + 1 : Nat) : Int) by omega]; exact IntWalk.i64_in _ (by omega)
          by_cases hend : (i : Int) = (c.length : Int) - 1
          · have he : ((i : Int) == (c.length : Int) - 1) = true := by simpa using hend
            clear hend
            have n1 := new_one wr (.int .i64 (i : Int)) 3
            have N1 := Lib.hid n1
            have BW := Lib.hid ((Below.refl wr.heap.size wr).alloc (Nat.le_refl _) (.cells #[.int .i64 (i : Int)] 3))
            have hsW := K5.out.size
            clear n1
            go_wp2_with (at_builtin; refine iappend_one intT rfl _ _ rfl (B := WL.heap.size) _ l rfl (O5.out.grow BW.out) ⟨wr.heap.size, 0, none⟩ (i : Int) rfl N1.out (by omega) (by simp; omega) ?_; intro v8 w8 hown8 hg8)
            have O8 := Lib.hid hown8
            have B8 := Lib.hid ((BW.out.mono hsW).trans ((O5.out.grow BW.out).below hg8 (by simp; omega)))
            have A8 := Lib.hid (A5.out.below (B8.out.mono hbL))
            clear hown8 hg8
            have K8 : Hid (Keep w.heap.size WL w8) := Lib.hid (Keep.app K5.out B8.out)
            go_wp2_with fail
            go_roundg (gk - 1)
            case measure => have := K.out; omega
            case rel => exact ⟨i + 1, _, by first | rfl | (rw [zi]), by have := K.out; omega, by simp; omega, O8.out, A8.out.mono (by omega), K8.out⟩
          · have he : ((i : Int) == (c.length : Int) - 1) = false := by simpa using hend
            clear hend
            go_wp2_with fail
            refine (pick_at 2 A5.out (by omega)).mono ?_
            rintro e w6 ⟨q, rfl, p6, q6, _, a6, k6⟩
            replace q6 := q6 (by decide)
            have A6 := Lib.hid a6; have K6 := Lib.hid (K5.out.trans k6); have O6 := Lib.hid (O5.out.keep k6 hbL)
            clear a6 k6
            by_cases z : q = 0
            · subst z
              have n1 := new_one w6 (.int .i64 (i : Int)) 3
              have N1 := Lib.hid n1
              have BW := Lib.hid ((Below.refl w6.heap.size w6).alloc (Nat.le_refl _) (.cells #[.int .i64 (i : Int)] 3))
              have hsW := K6.out.size
              clear n1
              go_wp2_with (at_builtin; refine iappend_one intT rfl _ _ rfl (B := WL.heap.size) _ l rfl (O6.out.grow BW.out) ⟨w6.heap.size, 0, none⟩ (i : Int) rfl N1.out (by omega) (by simp; omega) ?_; intro v8 w8 hown8 hg8)
              have O8 := Lib.hid hown8
              have B8 := Lib.hid ((BW.out.mono hsW).trans ((O6.out.grow BW.out).below hg8 (by simp; omega)))
              have A8 := Lib.hid (A6.out.below (B8.out.mono hbL))
              clear hown8 hg8
              have K8 : Hid (Keep w.heap.size WL w8) := Lib.hid (Keep.app K6.out B8.out)
              go_wp2_with fail
              go_roundg (gk - 1)
              case measure => have := K.out; omega
              case rel => exact ⟨i + 1, _, by first | rfl | (rw [zi]), by have := K.out; omega, by simp; omega, O8.out, A8.out.mono (by omega), K8.out⟩
            · have z0 : (q == 0) = false := by simpa using z
              clear z
              go_wp2_with fail
              go_roundg (gk - 1)
              case measure => have := K.out; omega
              case rel => exact ⟨i + 1, l, by first | rfl | (rw [zi]), by have := K.out; omega, by omega, O6.out, A6.out.mono (by omega), K6.out⟩
        · have hi : i = c.length := by omega
          subst hi
          have RC := Lib.hid (RL.out.keep K5.out (by omega))
          have BB := Lib.hid ((KL.out.trans K5.out).below b1 (Nat.le_refl _) (by omega))
          go_wp2_with fail
          go_returns
          exact ⟨_, _, c, l, x, y, rfl, RC.out.row, O5.out.row, hl, by omega, BB.out⟩
end Go.Proofs.Ytihgfhddljicaab
