/- The iterator over two lists of layers. -/
import Derived.Test.YtbjeedeapioljacLayImpl
import Derived.Test.YtbjeedeapioljacLayMerge
import Derived.Test.YtbjeedeapioljacLate
namespace Go.Proofs.Ytbjeedeapioljac
open Go Go.RowKit Go.Shelf
attribute [local go_sem] Oper.semAt_some

theorem mgd_next {a b out : LL} {x : Int × Bool} {i k : Nat} (h : Mgd a b i k (out ++ [x])) : ∃ hl : out.length < (mg a b).length, (mg a b)[out.length] = x := by
  have e : (mg a b) = out ++ [x] ++ mg (a.drop i) (b.drop k) := h.symm
  have hl : out.length < (mg a b).length := by rw [e]; simp
  have e2 : (mg a b)[out.length]? = some x := by rw [e]; simp
  exact ⟨hl, by rw [List.getElem?_eq_getElem hl] at e2; exact Option.some.inj e2⟩
set_option maxRecDepth 100000 in
set_option maxHeartbeats 4000000 in
theorem merged1 {G : Nat → Prop} (l B1 B2 : Nat) (va vb : Value) (a b : LL) (ha40 : a.length ≤ 40) (hb40 : b.length ≤ 40) (W : World) (hGW : ∀ j, G j → j < W.heap.size) (g1 : G B1) (g2 : G B2) (c1 : W.cell? ⟨B1, 0, none⟩ = some va) (c2 : W.cell? ⟨B2, 0, none⟩ = some vb)
    (ra : LRow W va a) (rb : LRow W vb b) (ga : 0 < a.length → InG G va) (gb : 0 < b.length → InG G vb) (J : Nat → Nat → World → Prop) (Jx : Nat → World → Prop) (hJ : ∀ M k, Stable W.heap.size M (J M k))
    (hY : ∀ (M k : Nat) (hk : k < (mg a b).length) (W1 : World), M ≤ W1.heap.size → J M k W1 → YieldAt Fence.wide 9 Try.prog l (encL (mg a b)[k]) W1 fun e W' =>
      Kept W.heap.size M G W1 W' ∧ ((e = .returned (.bool true) ∧ J M (k + 1) W') ∨ (e = .returned (.bool false) ∧ Jx M W')))
    (h0 : ∀ M, W.heap.size ≤ M → J M 0 W) :
    CallsIn Fence.wide 9 Try.prog 53 #[.func (.yield l) #[] #[], .pointer (some ⟨B1, 0, none⟩), .pointer (some ⟨B2, 0, none⟩)] W fun e W' => (∃ v, e = .returned v) ∧ ∃ M, M ≤ W'.heap.size ∧ (J M (mg a b).length W' ∨ Jx M W') := by
  obtain ⟨aa, ca, rfl, h1, h2, la⟩ := ra.parts
  obtain ⟨ab, cb, rfl, h3, h4, lb⟩ := rb.parts
  have LA := Lib.hid la; have LB := Lib.hid lb; have GA := Lib.hid ga; have GB := Lib.hid gb; have HY := Lib.hid hY; have HJ := Lib.hid hJ; have H0 := Lib.hid h0; have GW := Lib.hid hGW
  unfold maxLen at h2 h4
  have C1 := Lib.hid c1; have C2 := Lib.hid c2
  clear la lb ra rb ga gb hY hJ h0 hGW c1 c2
  refine callsIn_of_wp Try.func53 rfl trivial ?_ rfl
  simp only [Try.ntmps53, List.size_toArray, List.length_cons, List.length_nil, Nat.reduceAdd, Nat.reduceSub, Array.replicate_succ, Array.replicate_zero, List.push_toArray, List.append_toArray, List.nil_append, List.cons_append]
  gi_wp2
  gi_loopw [4, 5] (fun x y wr => ∃ (i k : Nat) (out : LL), x = .int .i64 i ∧ y = .int .i64 k ∧ i ≤ a.length ∧ k ≤ b.length ∧ Mgd a b i k out ∧ J W.heap.size out.length wr ∧ Kept 0 0 G W wr)
    (fun x y _ => (a.length - (intOf x).toNat) + (b.length - (intOf y).toNat))
  case atStart => exact ⟨0, 0, [], rfl, rfl, by omega, by omega, mgd_start a b, H0.out _ (Nat.le_refl _), Kept.refl _ _ _ _⟩
  case round =>
    obtain ⟨i, k, out, rfl, rfl, hi, hk, hm, hj, hkk⟩ := hrel
    have MM := Lib.hid hm; have JJ := Lib.hid hj; have KK := Lib.hid hkk
    have ho80 := MM.out.len ha40 hb40
    have p1 := (KK.out.cell (p := ⟨B1, 0, none⟩) (.inl g1)).trans C1.out
    have p2 := (KK.out.cell (p := ⟨B2, 0, none⟩) (.inl g2)).trans C2.out
    have hsz := KK.out.size
    clear hm hj hkk
    by_cases qi : i < a.length
    · obtain ⟨ga, oa, rfl, x1, x2⟩ := llies_cell LA.out i qi
      have g3 : G ga := GA.out (by omega) ga oa _ _ rfl
      have e1 := (KK.out.cell (p := ⟨ga, oa + i * 2, none⟩) (.inl g3)).trans x1
      have e2 := (KK.out.cell (p := ⟨ga, oa + i * 2 + 1, none⟩) (.inl g3)).trans x2
      have ltI : (i : Int) < (a.length : Int) := by omega
      have i0 : (0 : Int) ≤ (i : Int) := by omega
      have neI : ((i : Int) == (a.length : Int)) = false := by simp; omega
      by_cases qk : k < b.length
      · obtain ⟨gb, ob, rfl, y1, y2⟩ := llies_cell LB.out k qk
        have g4 : G gb := GB.out (by omega) gb ob _ _ rfl
        have f1 := (KK.out.cell (p := ⟨gb, ob + k * 2, none⟩) (.inl g4)).trans y1
        have f2 := (KK.out.cell (p := ⟨gb, ob + k * 2 + 1, none⟩) (.inl g4)).trans y2
        have ltK : (k : Int) < (b.length : Int) := by omega
        have k0 : (0 : Int) ≤ (k : Int) := by omega
        have neK : ((k : Int) == (b.length : Int)) = false := by simp; omega
        clear x1 x2 y1 y2
        by_cases d0 : a[i].1 < b[k].1
        · have d1 : decide (a[i].1 < b[k].1) = true := by simpa using d0
          gi_wp2
          have b0 := (Below.refl wr.heap.size wr).alloc (Nat.le_refl _) (.cells #[.int .i64 0, .bool false] 62)
          have n0 := World.alloc_heap_new wr (.cells #[.int .i64 0, .bool false] 62)
          have s0 : (wr.alloc (.cells #[.int .i64 0, .bool false] 62)).heap.size = wr.heap.size + 1 := by simp
          generalize wr.alloc (.cells #[.int .i64 0, .bool false] 62) = w0 at b0 n0 s0 ⊢
          replace p1 := (b0.cell (cell_below p1)).trans p1
          replace p2 := (b0.cell (cell_below p2)).trans p2
          replace e1 := (b0.cell (cell_below e1)).trans e1
          replace e2 := (b0.cell (cell_below e2)).trans e2
          replace f1 := (b0.cell (cell_below f1)).trans f1
          replace f2 := (b0.cell (cell_below f2)).trans f2
          have q0 : w0.cell? ⟨wr.heap.size, 0, none⟩ = some (.int .i64 0) := by simp [World.cell?, n0]
          have q1 : w0.cell? ⟨wr.heap.size, 1, none⟩ = some (.bool false) := by simp [World.cell?, n0]
          have q2 : w0.frozen? ⟨wr.heap.size, 0, none⟩ = false := by simp [World.frozen?, n0]
          have q3 : w0.frozen? ⟨wr.heap.size, 1, none⟩ = false := by simp [World.frozen?, n0]
          have BB := Lib.hid b0
          clear b0 n0 s0
          refine wpIn_wide.2 ?_
          go_quiet (fail)
          rename Nat => nA
          gi_wp2
          have NX := Lib.hid (MM.out.a2 qi qk d0)
          have b5 : Below wr.heap.size wr (((w0.drewN nA).setCell ⟨wr.heap.size, 0, none⟩ (.int .i64 a[i].1)).setCell ⟨wr.heap.size, 1, none⟩ (.bool a[i].2)) := ((Below.setCell (p := ⟨wr.heap.size, 0, none⟩) (below_drews BB.out nA) (Nat.le_refl _) _).setCell (p := ⟨wr.heap.size, 1, none⟩) (Nat.le_refl _) _)
          clear e1 e2 f1 f2 p1 p2 q0 q1 q2 q3
          generalize (((w0.drewN nA).setCell ⟨wr.heap.size, 0, none⟩ (.int .i64 a[i].1)).setCell ⟨wr.heap.size, 1, none⟩ (.bool a[i].2)) = w5 at b5 ⊢
          have k5 : Kept 0 0 G W w5 := KK.out.trans (Kept.new b5 (Nat.zero_le _) (fun j hj => by have := GW.out j hj; omega))
          obtain ⟨hlt, hel⟩ := mgd_next NX.out
          obtain ⟨fn, tmps, assign, body, hy, hR⟩ := HY.out W.heap.size out.length hlt w5 (by have := b5.size; omega) (HJ.out _ _ _ _ JJ.out (Step.new b5))
          rw [hel] at hy
          dsimp only [encL] at hy
          rw [hy]
          gi_wp2
          refine (round_any hR).mono ?_
          rintro e W6 ⟨hk6, ⟨rfl, hJ6⟩ | ⟨rfl, hJx6⟩⟩
          · gi_wp2
            go_roundw
            case rel => exact ⟨i + 1, k, out ++ [a[i]], by simp, rfl, by omega, by omega, NX.out, by simpa using hJ6, k5.trans hk6.low⟩
            case measure => simp [intOf]; omega
          · gi_wp2
            refine bodyPost_ret (results_none rfl _ _ _) rfl ?_
            exact ⟨⟨_, rfl⟩, _, Nat.le_trans k5.size hk6.size, .inr hJx6⟩
        have d1 : decide (a[i].1 < b[k].1) = false := by simpa using d0
        by_cases d2 : b[k].1 < a[i].1
        · have d3 : decide (b[k].1 < a[i].1) = true := by simpa using d2
          gi_wp2
          have b0 := (Below.refl wr.heap.size wr).alloc (Nat.le_refl _) (.cells #[.int .i64 0, .bool false] 62)
          have n0 := World.alloc_heap_new wr (.cells #[.int .i64 0, .bool false] 62)
          have s0 : (wr.alloc (.cells #[.int .i64 0, .bool false] 62)).heap.size = wr.heap.size + 1 := by simp
          generalize wr.alloc (.cells #[.int .i64 0, .bool false] 62) = w0 at b0 n0 s0 ⊢
          replace p1 := (b0.cell (cell_below p1)).trans p1
          replace p2 := (b0.cell (cell_below p2)).trans p2
          replace e1 := (b0.cell (cell_below e1)).trans e1
          replace e2 := (b0.cell (cell_below e2)).trans e2
          replace f1 := (b0.cell (cell_below f1)).trans f1
          replace f2 := (b0.cell (cell_below f2)).trans f2
          have q0 : w0.cell? ⟨wr.heap.size, 0, none⟩ = some (.int .i64 0) := by simp [World.cell?, n0]
          have q1 : w0.cell? ⟨wr.heap.size, 1, none⟩ = some (.bool false) := by simp [World.cell?, n0]
          have q2 : w0.frozen? ⟨wr.heap.size, 0, none⟩ = false := by simp [World.frozen?, n0]
          have q3 : w0.frozen? ⟨wr.heap.size, 1, none⟩ = false := by simp [World.frozen?, n0]
          have BB := Lib.hid b0
          clear b0 n0 s0
          refine wpIn_wide.2 ?_
          go_quiet (fail)
          rename Nat => nA
          gi_wp2
          refine wpIn_wide.2 ?_
          go_quiet (fail)
          rename Nat => nB
          gi_wp2
          have NX := Lib.hid (MM.out.b2 qi qk d2)
          have b5 : Below wr.heap.size wr (((w0.drewN (nA + nB)).setCell ⟨wr.heap.size, 0, none⟩ (.int .i64 b[k].1)).setCell ⟨wr.heap.size, 1, none⟩ (.bool b[k].2)) := ((Below.setCell (p := ⟨wr.heap.size, 0, none⟩) (below_drews BB.out (nA + nB)) (Nat.le_refl _) _).setCell (p := ⟨wr.heap.size, 1, none⟩) (Nat.le_refl _) _)
          clear e1 e2 f1 f2 p1 p2 q0 q1 q2 q3
          generalize (((w0.drewN (nA + nB)).setCell ⟨wr.heap.size, 0, none⟩ (.int .i64 b[k].1)).setCell ⟨wr.heap.size, 1, none⟩ (.bool b[k].2)) = w5 at b5 ⊢
          have k5 : Kept 0 0 G W w5 := KK.out.trans (Kept.new b5 (Nat.zero_le _) (fun j hj => by have := GW.out j hj; omega))
          obtain ⟨hlt, hel⟩ := mgd_next NX.out
          obtain ⟨fn, tmps, assign, body, hy, hR⟩ := HY.out W.heap.size out.length hlt w5 (by have := b5.size; omega) (HJ.out _ _ _ _ JJ.out (Step.new b5))
          rw [hel] at hy
          dsimp only [encL] at hy
          rw [hy]
          gi_wp2
          refine (round_any hR).mono ?_
          rintro e W6 ⟨hk6, ⟨rfl, hJ6⟩ | ⟨rfl, hJx6⟩⟩
          · gi_wp2
            go_roundw
            case rel => exact ⟨i, k + 1, out ++ [b[k]], rfl, by simp, by omega, by omega, NX.out, by simpa using hJ6, k5.trans hk6.low⟩
            case measure => simp [intOf]; omega
          · gi_wp2
            refine bodyPost_ret (results_none rfl _ _ _) rfl ?_
            exact ⟨⟨_, rfl⟩, _, Nat.le_trans k5.size hk6.size, .inr hJx6⟩
        have d3 : decide (b[k].1 < a[i].1) = false := by simpa using d2
        have EQ := Lib.hid (show a[i].1 = b[k].1 by omega)
        gi_wp2
        have b0 := (Below.refl wr.heap.size wr).alloc (Nat.le_refl _) (.cells #[.int .i64 0, .bool false] 62)
        have n0 := World.alloc_heap_new wr (.cells #[.int .i64 0, .bool false] 62)
        have s0 : (wr.alloc (.cells #[.int .i64 0, .bool false] 62)).heap.size = wr.heap.size + 1 := by simp
        generalize wr.alloc (.cells #[.int .i64 0, .bool false] 62) = w0 at b0 n0 s0 ⊢
        replace p1 := (b0.cell (cell_below p1)).trans p1
        replace p2 := (b0.cell (cell_below p2)).trans p2
        replace e1 := (b0.cell (cell_below e1)).trans e1
        replace e2 := (b0.cell (cell_below e2)).trans e2
        replace f1 := (b0.cell (cell_below f1)).trans f1
        replace f2 := (b0.cell (cell_below f2)).trans f2
        have q0 : w0.cell? ⟨wr.heap.size, 0, none⟩ = some (.int .i64 0) := by simp [World.cell?, n0]
        have q1 : w0.cell? ⟨wr.heap.size, 1, none⟩ = some (.bool false) := by simp [World.cell?, n0]
        have q2 : w0.frozen? ⟨wr.heap.size, 0, none⟩ = false := by simp [World.frozen?, n0]
        have q3 : w0.frozen? ⟨wr.heap.size, 1, none⟩ = false := by simp [World.frozen?, n0]
        have BB := Lib.hid b0
        clear b0 n0 s0
        refine wpIn_wide.2 ?_
        go_quiet (fail)
        rename Nat => nA
        gi_wp2
        refine wpIn_wide.2 ?_
        go_quiet (fail)
        rename Nat => nB
        gi_wp2
        clear d0 d1 d2 d3
        cases hsv : a[i].2
        · rw [hsv] at e2
          have E := Lib.hid (MM.out.e qi qk EQ.out)
          rw [hsv, Bool.false_or] at E
          clear hsv
          refine wpIn_wide.2 ?_
          refine calm_region 18 (fun w' => Below wr.heap.size wr w' ∧ w'.cell? ⟨B1, 0, none⟩ = some (.slice (some ⟨ga, oa, none⟩) a.length ca) ∧ w'.cell? ⟨ga, oa + i * 2, none⟩ = some (.int .i64 a[i].1) ∧ w'.cell? ⟨ga, oa + i * 2 + 1, none⟩ = some (.bool false) ∧ w'.cell? ⟨B2, 0, none⟩ = some (.slice (some ⟨gb, ob, none⟩) b.length cb) ∧ w'.cell? ⟨gb, ob + k * 2 + 1, none⟩ = some (.bool b[k].2) ∧ w'.cell? ⟨wr.heap.size, 0, none⟩ = some (.int .i64 0) ∧ w'.cell? ⟨wr.heap.size, 1, none⟩ = some (.bool false) ∧ w'.frozen? ⟨wr.heap.size, 0, none⟩ = false ∧ w'.frozen? ⟨wr.heap.size, 1, none⟩ = false) (by kernel_rfl) (by exact ⟨(below_drews (below_drews BB.out nA) nB).drew, p1, e1, e2, p2, f2, q0, q1, q2, q3⟩) (fun hHeld => ?_)
          refine take_l 0 17 rfl rfl (by kernel_rfl) (by kernel_rfl) (by kernel_rfl) (by kernel_rfl) (fun _ _ _ h => h) (by kernel_rfl) (by intro w hSw; (try dsimp only at hSw); go_simp; try with_reducible rfl) (by assumption) ?_
          refine take_l 1 18 rfl rfl (by kernel_rfl) (by kernel_rfl) (by kernel_rfl) (by kernel_rfl) (fun _ _ _ h => h) (by kernel_rfl) (by intro w hSw; (try dsimp only at hSw); go_simp; try with_reducible rfl) (by assumption) ?_
          refine take_l 2 19 rfl rfl (by kernel_rfl) (by kernel_rfl) (by kernel_rfl) (by kernel_rfl) (fun _ _ _ h => h) (by kernel_rfl) (by intro w hSw; (try dsimp only at hSw); go_simp; try with_reducible rfl) (by assumption) ?_
          refine take_l 3 20 rfl rfl (by kernel_rfl) (by kernel_rfl) (by kernel_rfl) (by kernel_rfl) (fun _ _ _ h => h) (by kernel_rfl) (by intro w hSw; (try dsimp only at hSw); go_simp; try with_reducible rfl) (by assumption) ?_
          refine take_l 4 21 rfl rfl (by kernel_rfl) (by kernel_rfl) (by kernel_rfl) (by kernel_rfl) (fun _ _ _ h => h) (by kernel_rfl) (by intro w hSw; (try dsimp only at hSw); go_simp; try with_reducible rfl) (by assumption) ?_
          refine take_l 5 22 rfl rfl (by kernel_rfl) (by kernel_rfl) (by kernel_rfl) (by kernel_rfl) (fun _ _ _ h => h) (by kernel_rfl) (by intro w hSw; (try dsimp only at hSw); go_simp; try with_reducible rfl) (by assumption) ?_
          refine take_l 6 23 rfl rfl (by kernel_rfl) (by kernel_rfl) (by kernel_rfl) (by kernel_rfl) (fun _ _ _ h => h) (by kernel_rfl) (by intro w hSw; (try dsimp only at hSw); go_simp; try with_reducible rfl) (by assumption) ?_
          refine take_l 7 24 rfl rfl (by kernel_rfl) (by kernel_rfl) (by kernel_rfl) (by kernel_rfl) (fun _ _ _ h => h) (by kernel_rfl) (by intro w hSw; (try dsimp only at hSw); go_simp; try with_reducible rfl) (by assumption) ?_
          refine take_l 8 25 rfl rfl (by kernel_rfl) (by kernel_rfl) (by kernel_rfl) (by kernel_rfl) (fun _ _ _ h => h) (by kernel_rfl) (by intro w hSw; (try dsimp only at hSw); go_simp; try with_reducible rfl) (by assumption) ?_
          refine take_l 9 26 rfl rfl (by kernel_rfl) (by kernel_rfl) (by kernel_rfl) (by kernel_rfl) (fun _ _ _ h => h) (by kernel_rfl) (by intro w hSw; (try dsimp only at hSw); go_simp; try with_reducible rfl) (by assumption) ?_
          refine take_l 10 27 rfl rfl (by kernel_rfl) (by kernel_rfl) (by kernel_rfl) (by kernel_rfl) (fun _ _ _ h => h) (by kernel_rfl) (by intro w hSw; (try dsimp only at hSw); go_simp; try with_reducible rfl) (by assumption) ?_
          refine take_l 11 28 rfl rfl (by kernel_rfl) (by kernel_rfl) (by kernel_rfl) (by kernel_rfl) (fun _ _ _ h => h) (by kernel_rfl) (by intro w hSw; (try dsimp only at hSw); go_simp; try with_reducible rfl) (by assumption) ?_
          refine take_l 12 29 rfl rfl (by kernel_rfl) (by kernel_rfl) (by kernel_rfl) (by kernel_rfl) (fun _ _ _ h => h) (by kernel_rfl) (by intro w hSw; (try dsimp only at hSw); go_simp; try with_reducible rfl) (by assumption) ?_
          refine take_l 13 30 rfl rfl (by kernel_rfl) (by kernel_rfl) (by kernel_rfl) (by kernel_rfl) (fun _ _ _ h => h) (by kernel_rfl) (by intro w hSw; (try dsimp only at hSw); go_simp; try with_reducible rfl) (by assumption) ?_
          refine take_l 14 31 rfl rfl (by kernel_rfl) (by kernel_rfl) (by kernel_rfl) (by kernel_rfl) (fun _ _ _ h => h) (by kernel_rfl) (by intro w hSw; (try dsimp only at hSw); go_simp; try with_reducible rfl) (by assumption) ?_
          refine take_l 15 32 rfl rfl (by kernel_rfl) (by kernel_rfl) (by kernel_rfl) (by kernel_rfl) (fun _ _ _ h => h) (by kernel_rfl) (by intro w hSw; (try dsimp only at hSw); go_simp; try with_reducible rfl) (by assumption) ?_
          refine take_l 16 33 rfl rfl (by kernel_rfl) (by kernel_rfl) (by kernel_rfl) (by kernel_rfl) (fun _ _ _ h => h) (by kernel_rfl) (by intro w hSw; (try dsimp only at hSw); go_simp; try with_reducible rfl) (by assumption) ?_
          refine take_l 17 34 rfl rfl (by kernel_rfl) (by kernel_rfl) (by kernel_rfl) (by kernel_rfl) (fun _ _ _ h => h) (by kernel_rfl) (by intro w hSw; (try dsimp only at hSw); go_simp; try with_reducible rfl) (by assumption) ?_
          refine last_l (by kernel_rfl) rfl (by kernel_rfl) (fun K hK => ?_)
          go_simp
          refine hK.out _ _ ?_
          clear hK K
          simp only [Exit.then]
          try simp only [Act.put, List.setIfInBounds_toArray, List.set_cons_succ, List.set_cons_zero]
          gi_wp2
          have NX := Lib.hid (E.out)
          have b5 : Below wr.heap.size wr (((w0.drewN (nA + nB + 1)).setCell ⟨wr.heap.size, 0, none⟩ (.int .i64 a[i].1)).setCell ⟨wr.heap.size, 1, none⟩ (.bool b[k].2)) := ((Below.setCell (p := ⟨wr.heap.size, 0, none⟩) (below_drews BB.out (nA + nB + 1)) (Nat.le_refl _) _).setCell (p := ⟨wr.heap.size, 1, none⟩) (Nat.le_refl _) _)
          clear e1 e2 f1 f2 p1 p2 q0 q1 q2 q3
          generalize (((w0.drewN (nA + nB + 1)).setCell ⟨wr.heap.size, 0, none⟩ (.int .i64 a[i].1)).setCell ⟨wr.heap.size, 1, none⟩ (.bool b[k].2)) = w5 at b5 ⊢
          have k5 : Kept 0 0 G W w5 := KK.out.trans (Kept.new b5 (Nat.zero_le _) (fun j hj => by have := GW.out j hj; omega))
          obtain ⟨hlt, hel⟩ := mgd_next NX.out
          obtain ⟨fn, tmps, assign, body, hy, hR⟩ := HY.out W.heap.size out.length hlt w5 (by have := b5.size; omega) (HJ.out _ _ _ _ JJ.out (Step.new b5))
          rw [hel] at hy
          dsimp only [encL] at hy
          rw [hy]
          gi_wp2
          refine (round_any hR).mono ?_
          rintro e W6 ⟨hk6, ⟨rfl, hJ6⟩ | ⟨rfl, hJx6⟩⟩
          · gi_wp2
            go_roundw
            case rel => exact ⟨i + 1, k + 1, out ++ [(a[i].1, b[k].2)], by simp, by simp, by omega, by omega, NX.out, by simpa using hJ6, k5.trans hk6.low⟩
            case measure => simp [intOf]; omega
          · gi_wp2
            refine bodyPost_ret (results_none rfl _ _ _) rfl ?_
            exact ⟨⟨_, rfl⟩, _, Nat.le_trans k5.size hk6.size, .inr hJx6⟩
        · rw [hsv] at e2
          have E := Lib.hid (MM.out.e qi qk EQ.out)
          rw [hsv, Bool.true_or] at E
          clear hsv
          refine wpIn_wide.2 ?_
          refine calm_region 18 (fun w' => Below wr.heap.size wr w' ∧ w'.cell? ⟨B1, 0, none⟩ = some (.slice (some ⟨ga, oa, none⟩) a.length ca) ∧ w'.cell? ⟨ga, oa + i * 2, none⟩ = some (.int .i64 a[i].1) ∧ w'.cell? ⟨ga, oa + i * 2 + 1, none⟩ = some (.bool true) ∧ w'.cell? ⟨wr.heap.size, 0, none⟩ = some (.int .i64 0) ∧ w'.cell? ⟨wr.heap.size, 1, none⟩ = some (.bool false) ∧ w'.frozen? ⟨wr.heap.size, 0, none⟩ = false ∧ w'.frozen? ⟨wr.heap.size, 1, none⟩ = false) (by kernel_rfl) (by exact ⟨(below_drews (below_drews BB.out nA) nB).drew, p1, e1, e2, q0, q1, q2, q3⟩) (fun hHeld => ?_)
          refine take_l 0 17 rfl rfl (by kernel_rfl) (by kernel_rfl) (by kernel_rfl) (by kernel_rfl) (fun _ _ _ h => h) (by kernel_rfl) (by intro w hSw; (try dsimp only at hSw); go_simp; try with_reducible rfl) (by assumption) ?_
          refine take_l 1 18 rfl rfl (by kernel_rfl) (by kernel_rfl) (by kernel_rfl) (by kernel_rfl) (fun _ _ _ h => h) (by kernel_rfl) (by intro w hSw; (try dsimp only at hSw); go_simp; try with_reducible rfl) (by assumption) ?_
          refine take_l 2 19 rfl rfl (by kernel_rfl) (by kernel_rfl) (by kernel_rfl) (by kernel_rfl) (fun _ _ _ h => h) (by kernel_rfl) (by intro w hSw; (try dsimp only at hSw); go_simp; try with_reducible rfl) (by assumption) ?_
          refine take_l 3 20 rfl rfl (by kernel_rfl) (by kernel_rfl) (by kernel_rfl) (by kernel_rfl) (fun _ _ _ h => h) (by kernel_rfl) (by intro w hSw; (try dsimp only at hSw); go_simp; try with_reducible rfl) (by assumption) ?_
          refine take_l 4 21 rfl rfl (by kernel_rfl) (by kernel_rfl) (by kernel_rfl) (by kernel_rfl) (fun _ _ _ h => h) (by kernel_rfl) (by intro w hSw; (try dsimp only at hSw); go_simp; try with_reducible rfl) (by assumption) ?_
          refine take_l 5 22 rfl rfl (by kernel_rfl) (by kernel_rfl) (by kernel_rfl) (by kernel_rfl) (fun _ _ _ h => h) (by kernel_rfl) (by intro w hSw; (try dsimp only at hSw); go_simp; try with_reducible rfl) (by assumption) ?_
          refine take_l 6 23 rfl rfl (by kernel_rfl) (by kernel_rfl) (by kernel_rfl) (by kernel_rfl) (fun _ _ _ h => h) (by kernel_rfl) (by intro w hSw; (try dsimp only at hSw); go_simp; try with_reducible rfl) (by assumption) ?_
          refine take_l 7 24 rfl rfl (by kernel_rfl) (by kernel_rfl) (by kernel_rfl) (by kernel_rfl) (fun _ _ _ h => h) (by kernel_rfl) (by intro w hSw; (try dsimp only at hSw); go_simp; try with_reducible rfl) (by assumption) ?_
          refine take_l 8 25 rfl rfl (by kernel_rfl) (by kernel_rfl) (by kernel_rfl) (by kernel_rfl) (fun _ _ _ h => h) (by kernel_rfl) (by intro w hSw; (try dsimp only at hSw); go_simp; try with_reducible rfl) (by assumption) ?_
          refine take_l 9 26 rfl rfl (by kernel_rfl) (by kernel_rfl) (by kernel_rfl) (by kernel_rfl) (fun _ _ _ h => h) (by kernel_rfl) (by intro w hSw; (try dsimp only at hSw); go_simp; try with_reducible rfl) (by assumption) ?_
          refine take_l 10 27 rfl rfl (by kernel_rfl) (by kernel_rfl) (by kernel_rfl) (by kernel_rfl) (fun _ _ _ h => h) (by kernel_rfl) (by intro w hSw; (try dsimp only at hSw); go_simp; try with_reducible rfl) (by assumption) ?_
          refine skip_l 11 28 rfl rfl (by kernel_rfl) (by kernel_rfl) (by kernel_rfl) (by kernel_rfl) (fun _ _ _ h => h) (by kernel_rfl) (by assumption) ?_
          refine skip_l 12 29 rfl rfl (by kernel_rfl) (by kernel_rfl) (by kernel_rfl) (by kernel_rfl) (fun _ _ _ h => h) (by kernel_rfl) (by assumption) ?_
          refine skip_l 13 30 rfl rfl (by kernel_rfl) (by kernel_rfl) (by kernel_rfl) (by kernel_rfl) (fun _ _ _ h => h) (by kernel_rfl) (by assumption) ?_
          refine skip_l 14 31 rfl rfl (by kernel_rfl) (by kernel_rfl) (by kernel_rfl) (by kernel_rfl) (fun _ _ _ h => h) (by kernel_rfl) (by assumption) ?_
          refine skip_l 15 32 rfl rfl (by kernel_rfl) (by kernel_rfl) (by kernel_rfl) (by kernel_rfl) (fun _ _ _ h => h) (by kernel_rfl) (by assumption) ?_
          refine take_l 16 33 rfl rfl (by kernel_rfl) (by kernel_rfl) (by kernel_rfl) (by kernel_rfl) (fun _ _ _ h => h) (by kernel_rfl) (by intro w hSw; (try dsimp only at hSw); go_simp; try with_reducible rfl) (by assumption) ?_
          refine take_l 17 34 rfl rfl (by kernel_rfl) (by kernel_rfl) (by kernel_rfl) (by kernel_rfl) (fun _ _ _ h => h) (by kernel_rfl) (by intro w hSw; (try dsimp only at hSw); go_simp; try with_reducible rfl) (by assumption) ?_
          refine last_l (by kernel_rfl) rfl (by kernel_rfl) (fun K hK => ?_)
          go_simp
          refine hK.out _ _ ?_
          clear hK K
          simp only [Exit.then]
          try simp only [Act.put, List.setIfInBounds_toArray, List.set_cons_succ, List.set_cons_zero]
          gi_wp2
          have NX := Lib.hid (E.out)
          have b5 : Below wr.heap.size wr (((w0.drewN (nA + nB + 1)).setCell ⟨wr.heap.size, 0, none⟩ (.int .i64 a[i].1)).setCell ⟨wr.heap.size, 1, none⟩ (.bool true)) := ((Below.setCell (p := ⟨wr.heap.size, 0, none⟩) (below_drews BB.out (nA + nB + 1)) (Nat.le_refl _) _).setCell (p := ⟨wr.heap.size, 1, none⟩) (Nat.le_refl _) _)
          clear e1 e2 f1 f2 p1 p2 q0 q1 q2 q3
          generalize (((w0.drewN (nA + nB + 1)).setCell ⟨wr.heap.size, 0, none⟩ (.int .i64 a[i].1)).setCell ⟨wr.heap.size, 1, none⟩ (.bool true)) = w5 at b5 ⊢
          have k5 : Kept 0 0 G W w5 := KK.out.trans (Kept.new b5 (Nat.zero_le _) (fun j hj => by have := GW.out j hj; omega))
          obtain ⟨hlt, hel⟩ := mgd_next NX.out
          obtain ⟨fn, tmps, assign, body, hy, hR⟩ := HY.out W.heap.size out.length hlt w5 (by have := b5.size; omega) (HJ.out _ _ _ _ JJ.out (Step.new b5))
          rw [hel] at hy
          dsimp only [encL] at hy
          rw [hy]
          gi_wp2
          refine (round_any hR).mono ?_
          rintro e W6 ⟨hk6, ⟨rfl, hJ6⟩ | ⟨rfl, hJx6⟩⟩
          · gi_wp2
            go_roundw
            case rel => exact ⟨i + 1, k + 1, out ++ [(a[i].1, true)], by simp, by simp, by omega, by omega, NX.out, by simpa using hJ6, k5.trans hk6.low⟩
            case measure => simp [intOf]; omega
          · gi_wp2
            refine bodyPost_ret (results_none rfl _ _ _) rfl ?_
            exact ⟨⟨_, rfl⟩, _, Nat.le_trans k5.size hk6.size, .inr hJx6⟩
      · have hkb : k = b.length := by omega
        subst hkb
        clear x1 x2
        gi_wp2
        have b0 := (Below.refl wr.heap.size wr).alloc (Nat.le_refl _) (.cells #[.int .i64 0, .bool false] 62)
        have n0 := World.alloc_heap_new wr (.cells #[.int .i64 0, .bool false] 62)
        have s0 : (wr.alloc (.cells #[.int .i64 0, .bool false] 62)).heap.size = wr.heap.size + 1 := by simp
        generalize wr.alloc (.cells #[.int .i64 0, .bool false] 62) = w0 at b0 n0 s0 ⊢
        replace p1 := (b0.cell (cell_below p1)).trans p1
        replace p2 := (b0.cell (cell_below p2)).trans p2
        replace e1 := (b0.cell (cell_below e1)).trans e1
        replace e2 := (b0.cell (cell_below e2)).trans e2
        have q0 : w0.cell? ⟨wr.heap.size, 0, none⟩ = some (.int .i64 0) := by simp [World.cell?, n0]
        have q1 : w0.cell? ⟨wr.heap.size, 1, none⟩ = some (.bool false) := by simp [World.cell?, n0]
        have q2 : w0.frozen? ⟨wr.heap.size, 0, none⟩ = false := by simp [World.frozen?, n0]
        have q3 : w0.frozen? ⟨wr.heap.size, 1, none⟩ = false := by simp [World.frozen?, n0]
        have BB := Lib.hid b0
        clear b0 n0 s0
        refine wpIn_wide.2 ?_
        go_quiet (fail)
        rename Nat => nA
        gi_wp2
        have NX := Lib.hid (MM.out.a1 qi (Nat.le_refl _))
        have b5 : Below wr.heap.size wr (((w0.drewN nA).setCell ⟨wr.heap.size, 0, none⟩ (.int .i64 a[i].1)).setCell ⟨wr.heap.size, 1, none⟩ (.bool a[i].2)) := ((Below.setCell (p := ⟨wr.heap.size, 0, none⟩) (below_drews BB.out nA) (Nat.le_refl _) _).setCell (p := ⟨wr.heap.size, 1, none⟩) (Nat.le_refl _) _)
        clear e1 e2 p1 p2 q0 q1 q2 q3
        generalize (((w0.drewN nA).setCell ⟨wr.heap.size, 0, none⟩ (.int .i64 a[i].1)).setCell ⟨wr.heap.size, 1, none⟩ (.bool a[i].2)) = w5 at b5 ⊢
        have k5 : Kept 0 0 G W w5 := KK.out.trans (Kept.new b5 (Nat.zero_le _) (fun j hj => by have := GW.out j hj; omega))
        obtain ⟨hlt, hel⟩ := mgd_next NX.out
        obtain ⟨fn, tmps, assign, body, hy, hR⟩ := HY.out W.heap.size out.length hlt w5 (by have := b5.size; omega) (HJ.out _ _ _ _ JJ.out (Step.new b5))
        rw [hel] at hy
        dsimp only [encL] at hy
        rw [hy]
        gi_wp2
        refine (round_any hR).mono ?_
        rintro e W6 ⟨hk6, ⟨rfl, hJ6⟩ | ⟨rfl, hJx6⟩⟩
        · gi_wp2
          go_roundw
          case rel => exact ⟨i + 1, b.length, out ++ [a[i]], by simp, rfl, by omega, by omega, NX.out, by simpa using hJ6, k5.trans hk6.low⟩
          case measure => simp [intOf]; omega
        · gi_wp2
          refine bodyPost_ret (results_none rfl _ _ _) rfl ?_
          exact ⟨⟨_, rfl⟩, _, Nat.le_trans k5.size hk6.size, .inr hJx6⟩
    · have hia : i = a.length := by omega
      subst hia
      by_cases qk : k < b.length
      · obtain ⟨gb, ob, rfl, y1, y2⟩ := llies_cell LB.out k qk
        have g4 : G gb := GB.out (by omega) gb ob _ _ rfl
        have f1 := (KK.out.cell (p := ⟨gb, ob + k * 2, none⟩) (.inl g4)).trans y1
        have f2 := (KK.out.cell (p := ⟨gb, ob + k * 2 + 1, none⟩) (.inl g4)).trans y2
        have ltK : (k : Int) < (b.length : Int) := by omega
        have k0 : (0 : Int) ≤ (k : Int) := by omega
        have neK : ((k : Int) == (b.length : Int)) = false := by simp; omega
        clear y1 y2
        gi_wp2
        have b0 := (Below.refl wr.heap.size wr).alloc (Nat.le_refl _) (.cells #[.int .i64 0, .bool false] 62)
        have n0 := World.alloc_heap_new wr (.cells #[.int .i64 0, .bool false] 62)
        have s0 : (wr.alloc (.cells #[.int .i64 0, .bool false] 62)).heap.size = wr.heap.size + 1 := by simp
        generalize wr.alloc (.cells #[.int .i64 0, .bool false] 62) = w0 at b0 n0 s0 ⊢
        replace p1 := (b0.cell (cell_below p1)).trans p1
        replace p2 := (b0.cell (cell_below p2)).trans p2
        replace f1 := (b0.cell (cell_below f1)).trans f1
        replace f2 := (b0.cell (cell_below f2)).trans f2
        have q0 : w0.cell? ⟨wr.heap.size, 0, none⟩ = some (.int .i64 0) := by simp [World.cell?, n0]
        have q1 : w0.cell? ⟨wr.heap.size, 1, none⟩ = some (.bool false) := by simp [World.cell?, n0]
        have q2 : w0.frozen? ⟨wr.heap.size, 0, none⟩ = false := by simp [World.frozen?, n0]
        have q3 : w0.frozen? ⟨wr.heap.size, 1, none⟩ = false := by simp [World.frozen?, n0]
        have BB := Lib.hid b0
        clear b0 n0 s0
        refine wpIn_wide.2 ?_
        go_quiet (fail)
        rename Nat => nA
        gi_wp2
        refine wpIn_wide.2 ?_
        go_quiet (fail)
        rename Nat => nB
        gi_wp2
        have NX := Lib.hid (MM.out.b1 (Nat.le_refl _) qk)
        have b5 : Below wr.heap.size wr (((w0.drewN (nA + nB)).setCell ⟨wr.heap.size, 0, none⟩ (.int .i64 b[k].1)).setCell ⟨wr.heap.size, 1, none⟩ (.bool b[k].2)) := ((Below.setCell (p := ⟨wr.heap.size, 0, none⟩) (below_drews BB.out (nA + nB)) (Nat.le_refl _) _).setCell (p := ⟨wr.heap.size, 1, none⟩) (Nat.le_refl _) _)
        clear f1 f2 p1 p2 q0 q1 q2 q3
        generalize (((w0.drewN (nA + nB)).setCell ⟨wr.heap.size, 0, none⟩ (.int .i64 b[k].1)).setCell ⟨wr.heap.size, 1, none⟩ (.bool b[k].2)) = w5 at b5 ⊢
        have k5 : Kept 0 0 G W w5 := KK.out.trans (Kept.new b5 (Nat.zero_le _) (fun j hj => by have := GW.out j hj; omega))
        obtain ⟨hlt, hel⟩ := mgd_next NX.out
        obtain ⟨fn, tmps, assign, body, hy, hR⟩ := HY.out W.heap.size out.length hlt w5 (by have := b5.size; omega) (HJ.out _ _ _ _ JJ.out (Step.new b5))
        rw [hel] at hy
        dsimp only [encL] at hy
        rw [hy]
        gi_wp2
        refine (round_any hR).mono ?_
        rintro e W6 ⟨hk6, ⟨rfl, hJ6⟩ | ⟨rfl, hJx6⟩⟩
        · gi_wp2
          go_roundw
          case rel => exact ⟨a.length, k + 1, out ++ [b[k]], rfl, by simp, by omega, by omega, NX.out, by simpa using hJ6, k5.trans hk6.low⟩
          case measure => simp [intOf]; omega
        · gi_wp2
          refine bodyPost_ret (results_none rfl _ _ _) rfl ?_
          exact ⟨⟨_, rfl⟩, _, Nat.le_trans k5.size hk6.size, .inr hJx6⟩
      · have hkb : k = b.length := by omega
        subst hkb
        have D := Lib.hid (MM.out.done (Nat.le_refl _) (Nat.le_refl _))
        gi_wp2
        go_end0
        exact ⟨⟨_, rfl⟩, _, KK.out.size, .inl (by rw [← D.out]; exact JJ.out)⟩
end Go.Proofs.Ytbjeedeapioljac
