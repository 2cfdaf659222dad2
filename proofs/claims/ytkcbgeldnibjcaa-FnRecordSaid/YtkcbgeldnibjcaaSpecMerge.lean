/- The contract of the model's RecordMerge. -/
import Derived.Test.YtkcbgeldnibjcaaSpecRec
import Derived.Test.YtkcbgeldnibjcaaRecMerge2
import Derived.Test.YtkcbgeldnibjcaaStepI
namespace Go.Proofs.Ytkcbgeldnibjcaa
open Go.RowKit

theorem heap_first (w : World) (o o' : Obj) : ((w.alloc o).alloc o').heap[w.heap.size]? = some o := by
  show ((w.heap.push o).push o')[w.heap.size]? = some o
  rw [Array.getElem?_push_lt (by simp)]; simp
theorem heap_second (w : World) (o o' : Obj) : ((w.alloc o).alloc o').heap[w.heap.size + 1]? = some o' := by
  have h : (w.heap.push o).size = w.heap.size + 1 := by simp
  show ((w.heap.push o).push o')[w.heap.size + 1]? = some o'
  rw [← h]; exact Array.getElem?_push_size
theorem spec_merged {w w1 w6 w9 : World} {vE vA : Value} {l a : List Int} (h1 : IOwn w6 w1.heap.size vE l) (h2 : IOwn w9 w6.heap.size vA a) (B1 : Since w w1) (H6 : Since w1 w6) (H9 : Since w6 w9) :
    MergeB w (some (l, a)) (.returned (.tuple #[vE, vA, .bool true])) w9 := by
  have z1 := Below.size B1; have z6 := Below.size H6
  refine ⟨vE, vA, rfl, ⟨(h1.grow H9).mono z1, h2.mono (by omega), fun k h3 h4 => ?_⟩, Below.trans (Below.trans B1 (Below.mono H6 z1)) (Below.mono H9 (by omega))⟩
  have := (h1.lt k h3).2; have := (h2.lt k h4).1; omega
set_option maxRecDepth 100000 in
set_option maxHeartbeats 3200000 in
theorem specRecordMerge_any {w : World} {v u : Value} {l m : List Int} (k : Int) (h : Rec w v u l m) :
    Calls Try.prog 33 #[v, u, .int .i64 k] w fun e w' => MergeB w (mergeOf l m k) e w' := by
  cases hr : isRec l m
  · obtain ⟨a, c, rfl, h1, h2⟩ := h.1.len
    obtain ⟨a', c', rfl, h1', h2'⟩ := h.2.len
    have R := Lib.hid h.1; have RU := Lib.hid h.2
    have HR := Lib.hid hr
    have T := Lib.hid (mergeOf_no (k := k) hr)
    clear hr h
    go_enter Try.func33, Try.ntmps33
    go_wp2_with fail
    refine wp_region_held_drew (S := (fun w' => Since w w')) (by kernel_rfl) (by exact (since_refl w).drew) (fun hHeld => ?_)
    refine take_h 0 11 rfl rfl (by kernel_rfl) (by kernel_rfl) (by kernel_rfl) (fun _ _ _ h => h) (by kernel_rfl) (by intro w hSw; (try dsimp only at hSw); go_simp; try with_reducible rfl) (by assumption) ?_
    refine take_h 1 12 rfl rfl (by kernel_rfl) (by kernel_rfl) (by kernel_rfl) (fun _ _ _ h => h) (by kernel_rfl) (by intro w hSw; (try dsimp only at hSw); go_simp; try with_reducible rfl) (by assumption) ?_
    refine wpAnyH_ready (rs := [2]) (by kernel_rfl) (by simp) (AllReadyH.cons rfl (fun K hK => ?_) AllReadyH.nil)
    go_simp
    go_wp2_with ((go_at_call 14; refine (recS_is (R.out.grow hHeld) (RU.out.grow hHeld) HR.out).mono ?_; rintro e w1 ⟨rfl, b1⟩; have hs0 : Since w w1 := Below.trans hHeld (b1.mono (Below.size hHeld))))
    refine hK.out _ _ (by (try dsimp only); exact hs0) (fun hHeld => ?_)
    clear hK K
    refine take_h 3 14 rfl rfl (by kernel_rfl) (by kernel_rfl) (by kernel_rfl) (fun _ _ _ h => h) (by kernel_rfl) (by intro w hSw; (try dsimp only at hSw); go_simp; try with_reducible rfl) (by assumption) ?_
    refine take_h 4 15 rfl rfl (by kernel_rfl) (by kernel_rfl) (by kernel_rfl) (fun _ _ _ h => h) (by kernel_rfl) (by intro w hSw; (try dsimp only at hSw); go_simp; try with_reducible rfl) (by assumption) ?_
    refine skip_h 5 16 rfl rfl (by kernel_rfl) (by kernel_rfl) (by kernel_rfl) (fun _ _ _ h => h) (by kernel_rfl) (by assumption) ?_
    refine skip_h 6 17 rfl rfl (by kernel_rfl) (by kernel_rfl) (by kernel_rfl) (fun _ _ _ h => h) (by kernel_rfl) (by assumption) ?_
    refine skip_h 7 18 rfl rfl (by kernel_rfl) (by kernel_rfl) (by kernel_rfl) (fun _ _ _ h => h) (by kernel_rfl) (by assumption) ?_
    refine skip_h 8 19 rfl rfl (by kernel_rfl) (by kernel_rfl) (by kernel_rfl) (fun _ _ _ h => h) (by kernel_rfl) (by assumption) ?_
    refine skip_h 9 20 rfl rfl (by kernel_rfl) (by kernel_rfl) (by kernel_rfl) (fun _ _ _ h => h) (by kernel_rfl) (by assumption) ?_
    refine skip_h 10 21 rfl rfl (by kernel_rfl) (by kernel_rfl) (by kernel_rfl) (fun _ _ _ h => h) (by kernel_rfl) (by assumption) ?_
    refine take_h 11 22 rfl rfl (by kernel_rfl) (by kernel_rfl) (by kernel_rfl) (fun _ _ _ h => h) (by kernel_rfl) (by intro w hSw; (try dsimp only at hSw); go_simp; try with_reducible rfl) (by assumption) ?_
    refine take_h 12 23 rfl rfl (by kernel_rfl) (by kernel_rfl) (by kernel_rfl) (fun _ _ _ h => h) (by kernel_rfl) (by intro w hSw; (try dsimp only at hSw); go_simp; try with_reducible rfl) (by assumption) ?_
    refine skip_h 13 24 rfl rfl (by kernel_rfl) (by kernel_rfl) (by kernel_rfl) (fun _ _ _ h => h) (by kernel_rfl) (by assumption) ?_
    refine skip_h 14 25 rfl rfl (by kernel_rfl) (by kernel_rfl) (by kernel_rfl) (fun _ _ _ h => h) (by kernel_rfl) (by assumption) ?_
    refine skip_h 15 26 rfl rfl (by kernel_rfl) (by kernel_rfl) (by kernel_rfl) (fun _ _ _ h => h) (by kernel_rfl) (by assumption) ?_
    refine skip_h 16 27 rfl rfl (by kernel_rfl) (by kernel_rfl) (by kernel_rfl) (fun _ _ _ h => h) (by kernel_rfl) (by assumption) ?_
    refine skip_h 17 28 rfl rfl (by kernel_rfl) (by kernel_rfl) (by kernel_rfl) (fun _ _ _ h => h) (by kernel_rfl) (by assumption) ?_
    refine skip_h 18 29 rfl rfl (by kernel_rfl) (by kernel_rfl) (by kernel_rfl) (fun _ _ _ h => h) (by kernel_rfl) (by assumption) ?_
    refine skip_h 19 30 rfl rfl (by kernel_rfl) (by kernel_rfl) (by kernel_rfl) (fun _ _ _ h => h) (by kernel_rfl) (by assumption) ?_
    refine skip_h 20 31 rfl rfl (by kernel_rfl) (by kernel_rfl) (by kernel_rfl) (fun _ _ _ h => h) (by kernel_rfl) (by assumption) ?_
    refine skip_h 21 32 rfl rfl (by kernel_rfl) (by kernel_rfl) (by kernel_rfl) (fun _ _ _ h => h) (by kernel_rfl) (by assumption) ?_
    refine skip_h 22 33 rfl rfl (by kernel_rfl) (by kernel_rfl) (by kernel_rfl) (fun _ _ _ h => h) (by kernel_rfl) (by assumption) ?_
    refine skip_h 23 34 rfl rfl (by kernel_rfl) (by kernel_rfl) (by kernel_rfl) (fun _ _ _ h => h) (by kernel_rfl) (by assumption) ?_
    refine take_h 24 35 rfl rfl (by kernel_rfl) (by kernel_rfl) (by kernel_rfl) (fun _ _ _ h => h) (by kernel_rfl) (by intro w hSw; (try dsimp only at hSw); go_simp; try with_reducible rfl) (by assumption) ?_
    refine wpAnyH_done (by kernel_rfl) ?_ _
    simp only [Exit.then]
    simp only [Act.put, List.setIfInBounds_toArray, List.set_cons_succ, List.set_cons_zero]
    have B1 := Lib.hid hs0
    clear hs0 hHeld b1
    go_wp2_with fail
    go_ret3
    exact mergeB_no T.out B1.out
  have HL := Lib.hid (rec_len hr)
  have h20 : m.length ≤ 20 := HL.out.2.2
  have h21 : l.length ≤ 21 := by have := HL.out; omega
  obtain ⟨g, o, c, rfl, k1, k2⟩ := h.1.known (by have := HL.out; omega)
  obtain ⟨g', o', c', rfl, k1', k2'⟩ := h.2.known (by have := HL.out; omega)
  unfold maxLen at k2 k2'
  have R := Lib.hid h.1; have RU := Lib.hid h.2
  have HR := Lib.hid hr
  have e0 : IntKind.i64.wrap ((m.length : Int) - 2) = (m.length : Int) - 2 := IntWalk.i64_in _ (by omega)
  clear hr h
  by_cases ho : k < 0 ∨ (m.length : Int) < k + 2
  · have T := Lib.hid (mergeOf_out (l := l) ho)
    have HI : Hid (isIn k 0 ((m.length : Int) - 2) = false) := Lib.hid (isIn_no (by omega))
    clear ho
    go_enter Try.func33, Try.ntmps33
    go_wp2_with fail
    refine wp_region_held_drew (S := (fun w' => Since w w')) (by kernel_rfl) (by exact (since_refl w).drew) (fun hHeld => ?_)
    refine take_h 0 11 rfl rfl (by kernel_rfl) (by kernel_rfl) (by kernel_rfl) (fun _ _ _ h => h) (by kernel_rfl) (by intro w hSw; (try dsimp only at hSw); go_simp; try with_reducible rfl) (by assumption) ?_
    refine take_h 1 12 rfl rfl (by kernel_rfl) (by kernel_rfl) (by kernel_rfl) (fun _ _ _ h => h) (by kernel_rfl) (by intro w hSw; (try dsimp only at hSw); go_simp; try with_reducible rfl) (by assumption) ?_
    refine wpAnyH_ready (rs := [2]) (by kernel_rfl) (by simp) (AllReadyH.cons rfl (fun K hK => ?_) AllReadyH.nil)
    go_simp
    go_wp2_with ((go_at_call 14; refine (recS_is (R.out.grow hHeld) (RU.out.grow hHeld) HR.out).mono ?_; rintro e w1 ⟨rfl, b1⟩; have hs0 : Since w w1 := Below.trans hHeld (b1.mono (Below.size hHeld))))
    refine hK.out _ _ (by (try dsimp only); exact hs0) (fun hHeld => ?_)
    clear hK K
    refine take_h 3 14 rfl rfl (by kernel_rfl) (by kernel_rfl) (by kernel_rfl) (fun _ _ _ h => h) (by kernel_rfl) (by intro w hSw; (try dsimp only at hSw); go_simp; try with_reducible rfl) (by assumption) ?_
    refine take_h 4 15 rfl rfl (by kernel_rfl) (by kernel_rfl) (by kernel_rfl) (fun _ _ _ h => h) (by kernel_rfl) (by intro w hSw; (try dsimp only at hSw); go_simp; try with_reducible rfl) (by assumption) ?_
    refine take_h 5 16 rfl rfl (by kernel_rfl) (by kernel_rfl) (by kernel_rfl) (fun _ _ _ h => h) (by kernel_rfl) (by intro w hSw; (try dsimp only at hSw); go_simp; try with_reducible rfl) (by assumption) ?_
    refine take_h 6 17 rfl rfl (by kernel_rfl) (by kernel_rfl) (by kernel_rfl) (fun _ _ _ h => h) (by kernel_rfl) (by intro w hSw; (try dsimp only at hSw); go_simp; try with_reducible rfl) (by assumption) ?_
    refine take_h 7 18 rfl rfl (by kernel_rfl) (by kernel_rfl) (by kernel_rfl) (fun _ _ _ h => h) (by kernel_rfl) (by intro w hSw; (try dsimp only at hSw); go_simp; try with_reducible rfl) (by assumption) ?_
    refine take_h 8 19 rfl rfl (by kernel_rfl) (by kernel_rfl) (by kernel_rfl) (fun _ _ _ h => h) (by kernel_rfl) (by intro w hSw; (try dsimp only at hSw); go_simp; try with_reducible rfl) (by assumption) ?_
    refine wpAnyH_ready (rs := [9]) (by kernel_rfl) (by simp) (AllReadyH.cons rfl (fun K hK => ?_) AllReadyH.nil)
    go_simp
    go_wp2_with ((go_at_call 39; refine (l6In_is HI.out _).mono ?_; rintro e w2 ⟨rfl, rfl⟩))
    refine hK.out _ _ (by (try dsimp only); exact hHeld) (fun hHeld => ?_)
    clear hK K
    refine take_h 10 21 rfl rfl (by kernel_rfl) (by kernel_rfl) (by kernel_rfl) (fun _ _ _ h => h) (by kernel_rfl) (by intro w hSw; (try dsimp only at hSw); go_simp; try with_reducible rfl) (by assumption) ?_
    refine take_h 11 22 rfl rfl (by kernel_rfl) (by kernel_rfl) (by kernel_rfl) (fun _ _ _ h => h) (by kernel_rfl) (by intro w hSw; (try dsimp only at hSw); go_simp; try with_reducible rfl) (by assumption) ?_
    refine take_h 12 23 rfl rfl (by kernel_rfl) (by kernel_rfl) (by kernel_rfl) (fun _ _ _ h => h) (by kernel_rfl) (by intro w hSw; (try dsimp only at hSw); go_simp; try with_reducible rfl) (by assumption) ?_
    refine skip_h 13 24 rfl rfl (by kernel_rfl) (by kernel_rfl) (by kernel_rfl) (fun _ _ _ h => h) (by kernel_rfl) (by assumption) ?_
    refine skip_h 14 25 rfl rfl (by kernel_rfl) (by kernel_rfl) (by kernel_rfl) (fun _ _ _ h => h) (by kernel_rfl) (by assumption) ?_
    refine skip_h 15 26 rfl rfl (by kernel_rfl) (by kernel_rfl) (by kernel_rfl) (fun _ _ _ h => h) (by kernel_rfl) (by assumption) ?_
    refine skip_h 16 27 rfl rfl (by kernel_rfl) (by kernel_rfl) (by kernel_rfl) (fun _ _ _ h => h) (by kernel_rfl) (by assumption) ?_
    refine skip_h 17 28 rfl rfl (by kernel_rfl) (by kernel_rfl) (by kernel_rfl) (fun _ _ _ h => h) (by kernel_rfl) (by assumption) ?_
    refine skip_h 18 29 rfl rfl (by kernel_rfl) (by kernel_rfl) (by kernel_rfl) (fun _ _ _ h => h) (by kernel_rfl) (by assumption) ?_
    refine skip_h 19 30 rfl rfl (by kernel_rfl) (by kernel_rfl) (by kernel_rfl) (fun _ _ _ h => h) (by kernel_rfl) (by assumption) ?_
    refine skip_h 20 31 rfl rfl (by kernel_rfl) (by kernel_rfl) (by kernel_rfl) (fun _ _ _ h => h) (by kernel_rfl) (by assumption) ?_
    refine skip_h 21 32 rfl rfl (by kernel_rfl) (by kernel_rfl) (by kernel_rfl) (fun _ _ _ h => h) (by kernel_rfl) (by assumption) ?_
    refine skip_h 22 33 rfl rfl (by kernel_rfl) (by kernel_rfl) (by kernel_rfl) (fun _ _ _ h => h) (by kernel_rfl) (by assumption) ?_
    refine skip_h 23 34 rfl rfl (by kernel_rfl) (by kernel_rfl) (by kernel_rfl) (fun _ _ _ h => h) (by kernel_rfl) (by assumption) ?_
    refine take_h 24 35 rfl rfl (by kernel_rfl) (by kernel_rfl) (by kernel_rfl) (fun _ _ _ h => h) (by kernel_rfl) (by intro w hSw; (try dsimp only at hSw); go_simp; try with_reducible rfl) (by assumption) ?_
    refine wpAnyH_done (by kernel_rfl) ?_ _
    simp only [Exit.then]
    simp only [Act.put, List.setIfInBounds_toArray, List.set_cons_succ, List.set_cons_zero]
    have B1 := Lib.hid hs0
    clear hs0 hHeld b1
    go_wp2_with fail
    go_ret3
    exact mergeB_no T.out B1.out
  obtain ⟨j, rfl⟩ : ∃ j : Nat, k = j := ⟨k.toNat, by omega⟩
  have hj : j + 2 ≤ m.length := by omega
  have hjl : j + 3 ≤ l.length := by have := HL.out; omega
  have HI : Hid (isIn (j : Int) 0 ((m.length : Int) - 2) = true) := Lib.hid (isIn_yes (by omega) (by omega))
  have hj0 : j < m.length := by omega
  have hj1 : j + 1 < m.length := by omega
  clear ho
  have m0 := rec_amount HR.out j hj0
  have m1 := rec_amount HR.out (j + 1) hj1
  obtain ⟨am, ham⟩ : ∃ x : Int, m[j]'hj0 + m[j + 1]'hj1 = x := ⟨_, rfl⟩
  have a0 : IntKind.i64.wrap (m[j]'hj0 + m[j + 1]'hj1) = am := by rw [ham]; exact IntWalk.i64_in _ (by omega)
  have EA : Hid (m.take j ++ [am] ++ m.drop (j + 2) = mergedA m j) := Lib.hid (by unfold mergedA; rw [getD_is (by omega), getD_is (by omega), ham])
  have GA : Hid (m.getD j 0 + m.getD (j + 1) 0 = am) := Lib.hid (by rw [getD_is (by omega), getD_is (by omega), ham])
  have a1 : IntKind.i64.wrap ((j : Int) + 1) = (j : Int) + 1 := IntWalk.i64_in _ (by omega)
  have a2 : IntKind.i64.wrap ((j : Int) + 2) = (j : Int) + 2 := IntWalk.i64_in _ (by omega)
  have a3 : IntKind.i64.wrap am = am := by rw [← a0]; exact IntWalk.i64_in _ (by rw [a0]; omega)
  have b1 : (j : Int) < (m.length : Int) := by omega
  have b2 : (0 : Int) ≤ (j : Int) := by omega
  have b3 : (j : Int) + 1 < (m.length : Int) := by omega
  have b4 : ((j : Int) + 1).toNat = j + 1 := by omega
  have b5 : (0 : Int) ≤ (j : Int) + 1 := by omega
  have b6 : ((j : Int) + 2).toNat = j + 2 := by omega
  have b7 : (0 : Int) ≤ (j : Int) + 2 := by omega
  have b8 : (j : Int) + 1 ≤ (c : Int) := by omega
  have b9 : (j : Int) ≤ (c' : Int) := by omega
  have b10 : (j : Int) + 2 ≤ (l.length : Int) := by omega
  have b11 : (j : Int) + 2 ≤ (m.length : Int) := by omega
  have nc : ¬ c = j + 2 := by omega
  clear m0 m1
  have am0 : w.drew.cell? ⟨g', o' + j, none⟩ = some (.int .i64 m[j]) := RU.out.cells j hj0
  have am1 : w.drew.cell? ⟨g', o' + (j + 1), none⟩ = some (.int .i64 m[j + 1]) := RU.out.cells (j + 1) hj1
  cases hs : decide (am ≤ 10000)
  · have T := Lib.hid (mergeOf_much (l := l) (m := m) (j := j) (by rw [GA.out]; exact of_decide_eq_false hs))
    have d1 : decide ((10000 : Int) < am) = true := by have := of_decide_eq_false hs; simp; omega
    clear hs
    go_enter Try.func33, Try.ntmps33
    go_wp2_with fail
    refine wp_region_held_drew (S := (fun w' => Since w w' ∧ w'.cell? ⟨g', o' + j, none⟩ = some (.int .i64 m[j]) ∧ w'.cell? ⟨g', o' + (j + 1), none⟩ = some (.int .i64 m[j + 1]))) (by kernel_rfl) (by exact ⟨(since_refl w).drew, am0, am1⟩) (fun hHeld => ?_)
    refine take_h 0 11 rfl rfl (by kernel_rfl) (by kernel_rfl) (by kernel_rfl) (fun _ _ _ h => h) (by kernel_rfl) (by intro w hSw; (try dsimp only at hSw); go_simp; try with_reducible rfl) (by assumption) ?_
    refine take_h 1 12 rfl rfl (by kernel_rfl) (by kernel_rfl) (by kernel_rfl) (fun _ _ _ h => h) (by kernel_rfl) (by intro w hSw; (try dsimp only at hSw); go_simp; try with_reducible rfl) (by assumption) ?_
    refine wpAnyH_ready (rs := [2]) (by kernel_rfl) (by simp) (AllReadyH.cons rfl (fun K hK => ?_) AllReadyH.nil)
    go_simp
    go_wp2_with ((go_at_call 14; refine (recS_is (R.out.grow hHeld.1) (RU.out.grow hHeld.1) HR.out).mono ?_; rintro e w1 ⟨rfl, b1⟩; have hs0 : Since w w1 := Below.trans hHeld.1 (b1.mono (Below.size hHeld.1))))
    refine hK.out _ _ (by (try dsimp only); exact ⟨hs0, (b1.cell (cell_below hHeld.2.1)).trans hHeld.2.1, (b1.cell (cell_below hHeld.2.2)).trans hHeld.2.2⟩) (fun hHeld => ?_)
    clear hK K
    refine take_h 3 14 rfl rfl (by kernel_rfl) (by kernel_rfl) (by kernel_rfl) (fun _ _ _ h => h) (by kernel_rfl) (by intro w hSw; (try dsimp only at hSw); go_simp; try with_reducible rfl) (by assumption) ?_
    refine take_h 4 15 rfl rfl (by kernel_rfl) (by kernel_rfl) (by kernel_rfl) (fun _ _ _ h => h) (by kernel_rfl) (by intro w hSw; (try dsimp only at hSw); go_simp; try with_reducible rfl) (by assumption) ?_
    refine take_h 5 16 rfl rfl (by kernel_rfl) (by kernel_rfl) (by kernel_rfl) (fun _ _ _ h => h) (by kernel_rfl) (by intro w hSw; (try dsimp only at hSw); go_simp; try with_reducible rfl) (by assumption) ?_
    refine take_h 6 17 rfl rfl (by kernel_rfl) (by kernel_rfl) (by kernel_rfl) (fun _ _ _ h => h) (by kernel_rfl) (by intro w hSw; (try dsimp only at hSw); go_simp; try with_reducible rfl) (by assumption) ?_
    refine take_h 7 18 rfl rfl (by kernel_rfl) (by kernel_rfl) (by kernel_rfl) (fun _ _ _ h => h) (by kernel_rfl) (by intro w hSw; (try dsimp only at hSw); go_simp; try with_reducible rfl) (by assumption) ?_
    refine take_h 8 19 rfl rfl (by kernel_rfl) (by kernel_rfl) (by kernel_rfl) (fun _ _ _ h => h) (by kernel_rfl) (by intro w hSw; (try dsimp only at hSw); go_simp; try with_reducible rfl) (by assumption) ?_
    refine wpAnyH_ready (rs := [9]) (by kernel_rfl) (by simp) (AllReadyH.cons rfl (fun K hK => ?_) AllReadyH.nil)
    go_simp
    go_wp2_with ((go_at_call 39; refine (l6In_is HI.out _).mono ?_; rintro e w2 ⟨rfl, rfl⟩))
    refine hK.out _ _ (by (try dsimp only); exact hHeld) (fun hHeld => ?_)
    clear hK K
    refine take_h 10 21 rfl rfl (by kernel_rfl) (by kernel_rfl) (by kernel_rfl) (fun _ _ _ h => h) (by kernel_rfl) (by intro w hSw; (try dsimp only at hSw); go_simp; try with_reducible rfl) (by assumption) ?_
    refine take_h 11 22 rfl rfl (by kernel_rfl) (by kernel_rfl) (by kernel_rfl) (fun _ _ _ h => h) (by kernel_rfl) (by intro w hSw; (try dsimp only at hSw); go_simp; try with_reducible rfl) (by assumption) ?_
    refine take_h 12 23 rfl rfl (by kernel_rfl) (by kernel_rfl) (by kernel_rfl) (fun _ _ _ h => h) (by kernel_rfl) (by intro w hSw; (try dsimp only at hSw); go_simp; try with_reducible rfl) (by assumption) ?_
    refine take_h 13 24 rfl rfl (by kernel_rfl) (by kernel_rfl) (by kernel_rfl) (fun _ _ _ h => h) (by kernel_rfl) (by intro w hSw; (try dsimp only at hSw); go_simp; try with_reducible rfl) (by assumption) ?_
    refine take_h 14 25 rfl rfl (by kernel_rfl) (by kernel_rfl) (by kernel_rfl) (fun _ _ _ h => h) (by kernel_rfl) (by intro w hSw; (try dsimp only at hSw); go_simp; try with_reducible rfl) (by assumption) ?_
    refine take_h 15 26 rfl rfl (by kernel_rfl) (by kernel_rfl) (by kernel_rfl) (fun _ _ _ h => h) (by kernel_rfl) (by intro w hSw; (try dsimp only at hSw); go_simp; try with_reducible rfl) (by assumption) ?_
    refine take_h 16 27 rfl rfl (by kernel_rfl) (by kernel_rfl) (by kernel_rfl) (fun _ _ _ h => h) (by kernel_rfl) (by intro w hSw; (try dsimp only at hSw); go_simp; try with_reducible rfl) (by assumption) ?_
    refine take_h 17 28 rfl rfl (by kernel_rfl) (by kernel_rfl) (by kernel_rfl) (fun _ _ _ h => h) (by kernel_rfl) (by intro w hSw; (try dsimp only at hSw); go_simp; try with_reducible rfl) (by assumption) ?_
    refine take_h 18 29 rfl rfl (by kernel_rfl) (by kernel_rfl) (by kernel_rfl) (fun _ _ _ h => h) (by kernel_rfl) (by intro w hSw; (try dsimp only at hSw); go_simp; try with_reducible rfl) (by assumption) ?_
    refine take_h 19 30 rfl rfl (by kernel_rfl) (by kernel_rfl) (by kernel_rfl) (fun _ _ _ h => h) (by kernel_rfl) (by intro w hSw; (try dsimp only at hSw); go_simp; try with_reducible rfl) (by assumption) ?_
    refine take_h 20 31 rfl rfl (by kernel_rfl) (by kernel_rfl) (by kernel_rfl) (fun _ _ _ h => h) (by kernel_rfl) (by intro w hSw; (try dsimp only at hSw); go_simp; try with_reducible rfl) (by assumption) ?_
    refine take_h 21 32 rfl rfl (by kernel_rfl) (by kernel_rfl) (by kernel_rfl) (fun _ _ _ h => h) (by kernel_rfl) (by intro w hSw; (try dsimp only at hSw); go_simp; try with_reducible rfl) (by assumption) ?_
    refine take_h 22 33 rfl rfl (by kernel_rfl) (by kernel_rfl) (by kernel_rfl) (fun _ _ _ h => h) (by kernel_rfl) (by intro w hSw; (try dsimp only at hSw); go_simp; try with_reducible rfl) (by assumption) ?_
    refine take_h 23 34 rfl rfl (by kernel_rfl) (by kernel_rfl) (by kernel_rfl) (fun _ _ _ h => h) (by kernel_rfl) (by intro w hSw; (try dsimp only at hSw); go_simp; try with_reducible rfl) (by assumption) ?_
    refine take_h 24 35 rfl rfl (by kernel_rfl) (by kernel_rfl) (by kernel_rfl) (fun _ _ _ h => h) (by kernel_rfl) (by intro w hSw; (try dsimp only at hSw); go_simp; try with_reducible rfl) (by assumption) ?_
    refine wpAnyH_done (by kernel_rfl) ?_ _
    simp only [Exit.then]
    simp only [Act.put, List.setIfInBounds_toArray, List.set_cons_succ, List.set_cons_zero]
    have B1 := Lib.hid hs0
    clear hs0 hHeld b1
    go_wp2_with fail
    go_ret3
    exact mergeB_no T.out B1.out
  · have T := Lib.hid (mergeOf_yes HR.out hj (by rw [GA.out]; exact of_decide_eq_true hs))
    have d1 : decide ((10000 : Int) < am) = false := by have := of_decide_eq_true hs; simp; omega
    clear hs
    go_enter Try.func33, Try.ntmps33
    go_wp2_with fail
    refine wp_region_held_drew (S := (fun w' => Since w w' ∧ w'.cell? ⟨g', o' + j, none⟩ = some (.int .i64 m[j]) ∧ w'.cell? ⟨g', o' + (j + 1), none⟩ = some (.int .i64 m[j + 1]))) (by kernel_rfl) (by exact ⟨(since_refl w).drew, am0, am1⟩) (fun hHeld => ?_)
    refine take_h 0 11 rfl rfl (by kernel_rfl) (by kernel_rfl) (by kernel_rfl) (fun _ _ _ h => h) (by kernel_rfl) (by intro w hSw; (try dsimp only at hSw); go_simp; try with_reducible rfl) (by assumption) ?_
    refine take_h 1 12 rfl rfl (by kernel_rfl) (by kernel_rfl) (by kernel_rfl) (fun _ _ _ h => h) (by kernel_rfl) (by intro w hSw; (try dsimp only at hSw); go_simp; try with_reducible rfl) (by assumption) ?_
    refine wpAnyH_ready (rs := [2]) (by kernel_rfl) (by simp) (AllReadyH.cons rfl (fun K hK => ?_) AllReadyH.nil)
    go_simp
    go_wp2_with ((go_at_call 14; refine (recS_is (R.out.grow hHeld.1) (RU.out.grow hHeld.1) HR.out).mono ?_; rintro e w1 ⟨rfl, b1⟩; have hs0 : Since w w1 := Below.trans hHeld.1 (b1.mono (Below.size hHeld.1))))
    refine hK.out _ _ (by (try dsimp only); exact ⟨hs0, (b1.cell (cell_below hHeld.2.1)).trans hHeld.2.1, (b1.cell (cell_below hHeld.2.2)).trans hHeld.2.2⟩) (fun hHeld => ?_)
    clear hK K
    refine take_h 3 14 rfl rfl (by kernel_rfl) (by kernel_rfl) (by kernel_rfl) (fun _ _ _ h => h) (by kernel_rfl) (by intro w hSw; (try dsimp only at hSw); go_simp; try with_reducible rfl) (by assumption) ?_
    refine take_h 4 15 rfl rfl (by kernel_rfl) (by kernel_rfl) (by kernel_rfl) (fun _ _ _ h => h) (by kernel_rfl) (by intro w hSw; (try dsimp only at hSw); go_simp; try with_reducible rfl) (by assumption) ?_
    refine take_h 5 16 rfl rfl (by kernel_rfl) (by kernel_rfl) (by kernel_rfl) (fun _ _ _ h => h) (by kernel_rfl) (by intro w hSw; (try dsimp only at hSw); go_simp; try with_reducible rfl) (by assumption) ?_
    refine take_h 6 17 rfl rfl (by kernel_rfl) (by kernel_rfl) (by kernel_rfl) (fun _ _ _ h => h) (by kernel_rfl) (by intro w hSw; (try dsimp only at hSw); go_simp; try with_reducible rfl) (by assumption) ?_
    refine take_h 7 18 rfl rfl (by kernel_rfl) (by kernel_rfl) (by kernel_rfl) (fun _ _ _ h => h) (by kernel_rfl) (by intro w hSw; (try dsimp only at hSw); go_simp; try with_reducible rfl) (by assumption) ?_
    refine take_h 8 19 rfl rfl (by kernel_rfl) (by kernel_rfl) (by kernel_rfl) (fun _ _ _ h => h) (by kernel_rfl) (by intro w hSw; (try dsimp only at hSw); go_simp; try with_reducible rfl) (by assumption) ?_
    refine wpAnyH_ready (rs := [9]) (by kernel_rfl) (by simp) (AllReadyH.cons rfl (fun K hK => ?_) AllReadyH.nil)
    go_simp
    go_wp2_with ((go_at_call 39; refine (l6In_is HI.out _).mono ?_; rintro e w2 ⟨rfl, rfl⟩))
    refine hK.out _ _ (by (try dsimp only); exact hHeld) (fun hHeld => ?_)
    clear hK K
    refine take_h 10 21 rfl rfl (by kernel_rfl) (by kernel_rfl) (by kernel_rfl) (fun _ _ _ h => h) (by kernel_rfl) (by intro w hSw; (try dsimp only at hSw); go_simp; try with_reducible rfl) (by assumption) ?_
    refine take_h 11 22 rfl rfl (by kernel_rfl) (by kernel_rfl) (by kernel_rfl) (fun _ _ _ h => h) (by kernel_rfl) (by intro w hSw; (try dsimp only at hSw); go_simp; try with_reducible rfl) (by assumption) ?_
    refine take_h 12 23 rfl rfl (by kernel_rfl) (by kernel_rfl) (by kernel_rfl) (fun _ _ _ h => h) (by kernel_rfl) (by intro w hSw; (try dsimp only at hSw); go_simp; try with_reducible rfl) (by assumption) ?_
    refine take_h 13 24 rfl rfl (by kernel_rfl) (by kernel_rfl) (by kernel_rfl) (fun _ _ _ h => h) (by kernel_rfl) (by intro w hSw; (try dsimp only at hSw); go_simp; try with_reducible rfl) (by assumption) ?_
    refine take_h 14 25 rfl rfl (by kernel_rfl) (by kernel_rfl) (by kernel_rfl) (fun _ _ _ h => h) (by kernel_rfl) (by intro w hSw; (try dsimp only at hSw); go_simp; try with_reducible rfl) (by assumption) ?_
    refine take_h 15 26 rfl rfl (by kernel_rfl) (by kernel_rfl) (by kernel_rfl) (fun _ _ _ h => h) (by kernel_rfl) (by intro w hSw; (try dsimp only at hSw); go_simp; try with_reducible rfl) (by assumption) ?_
    refine take_h 16 27 rfl rfl (by kernel_rfl) (by kernel_rfl) (by kernel_rfl) (fun _ _ _ h => h) (by kernel_rfl) (by intro w hSw; (try dsimp only at hSw); go_simp; try with_reducible rfl) (by assumption) ?_
    refine take_h 17 28 rfl rfl (by kernel_rfl) (by kernel_rfl) (by kernel_rfl) (fun _ _ _ h => h) (by kernel_rfl) (by intro w hSw; (try dsimp only at hSw); go_simp; try with_reducible rfl) (by assumption) ?_
    refine take_h 18 29 rfl rfl (by kernel_rfl) (by kernel_rfl) (by kernel_rfl) (fun _ _ _ h => h) (by kernel_rfl) (by intro w hSw; (try dsimp only at hSw); go_simp; try with_reducible rfl) (by assumption) ?_
    refine take_h 19 30 rfl rfl (by kernel_rfl) (by kernel_rfl) (by kernel_rfl) (fun _ _ _ h => h) (by kernel_rfl) (by intro w hSw; (try dsimp only at hSw); go_simp; try with_reducible rfl) (by assumption) ?_
    refine take_h 20 31 rfl rfl (by kernel_rfl) (by kernel_rfl) (by kernel_rfl) (fun _ _ _ h => h) (by kernel_rfl) (by intro w hSw; (try dsimp only at hSw); go_simp; try with_reducible rfl) (by assumption) ?_
    refine take_h 21 32 rfl rfl (by kernel_rfl) (by kernel_rfl) (by kernel_rfl) (fun _ _ _ h => h) (by kernel_rfl) (by intro w hSw; (try dsimp only at hSw); go_simp; try with_reducible rfl) (by assumption) ?_
    refine take_h 22 33 rfl rfl (by kernel_rfl) (by kernel_rfl) (by kernel_rfl) (fun _ _ _ h => h) (by kernel_rfl) (by intro w hSw; (try dsimp only at hSw); go_simp; try with_reducible rfl) (by assumption) ?_
    refine take_h 23 34 rfl rfl (by kernel_rfl) (by kernel_rfl) (by kernel_rfl) (fun _ _ _ h => h) (by kernel_rfl) (by intro w hSw; (try dsimp only at hSw); go_simp; try with_reducible rfl) (by assumption) ?_
    refine take_h 24 35 rfl rfl (by kernel_rfl) (by kernel_rfl) (by kernel_rfl) (fun _ _ _ h => h) (by kernel_rfl) (by intro w hSw; (try dsimp only at hSw); go_simp; try with_reducible rfl) (by assumption) ?_
    refine wpAnyH_done (by kernel_rfl) ?_ _
    simp only [Exit.then]
    simp only [Act.put, List.setIfInBounds_toArray, List.set_cons_succ, List.set_cons_zero]
    have B1 := Lib.hid hs0
    have TE0 := Lib.hid (rests_row ((R.out.grow B1.out).take (j + 1) (by omega)))
    have TE1 := Lib.hid (rests_row ((R.out.grow B1.out).drop (j + 2) (by omega)))
    clear hs0 hHeld am0 am1
    go_upto_region 3 with fail
    refine wp_region_held_drew (S := (fun w' => Since w1 w')) (by kernel_rfl) (by exact (since_refl w1).drew) (fun hHeld => ?_)
    refine take_h 1 39 rfl rfl (by kernel_rfl) (by kernel_rfl) (by kernel_rfl) (fun _ _ _ h => h) (by kernel_rfl) (by intro w hSw; (try dsimp only at hSw); go_simp; try with_reducible rfl) (by assumption) ?_
    refine take_h 2 40 rfl rfl (by kernel_rfl) (by kernel_rfl) (by kernel_rfl) (fun _ _ _ h => h) (by kernel_rfl) (by intro w hSw; (try dsimp only at hSw); go_simp; try with_reducible rfl) (by assumption) ?_
    refine take_h 3 41 rfl rfl (by kernel_rfl) (by kernel_rfl) (by kernel_rfl) (fun _ _ _ h => h) (by kernel_rfl) (by intro w hSw; (try dsimp only at hSw); go_simp; try with_reducible rfl) (by assumption) ?_
    refine take_h 4 42 rfl rfl (by kernel_rfl) (by kernel_rfl) (by kernel_rfl) (fun _ _ _ h => h) (by kernel_rfl) (by intro w hSw; (try dsimp only at hSw); go_simp; try with_reducible rfl) (by assumption) ?_
    refine take_h 6 44 rfl rfl (by kernel_rfl) (by kernel_rfl) (by kernel_rfl) (fun _ _ _ h => h) (by kernel_rfl) (by intro w hSw; (try dsimp only at hSw); go_simp; try with_reducible rfl) (by assumption) ?_
    refine take_h 7 45 rfl rfl (by kernel_rfl) (by kernel_rfl) (by kernel_rfl) (fun _ _ _ h => h) (by kernel_rfl) (by intro w hSw; (try dsimp only at hSw); go_simp; try with_reducible rfl) (by assumption) ?_
    refine take_h 8 46 rfl rfl (by kernel_rfl) (by kernel_rfl) (by kernel_rfl) (fun _ _ _ h => h) (by kernel_rfl) (by intro w hSw; (try dsimp only at hSw); go_simp; try with_reducible rfl) (by assumption) ?_
    refine take_h 9 47 rfl rfl (by kernel_rfl) (by kernel_rfl) (by kernel_rfl) (fun _ _ _ h => h) (by kernel_rfl) (by intro w hSw; (try dsimp only at hSw); go_simp; try with_reducible rfl) (by assumption) ?_
    refine wpAnyH_ready (rs := [0]) (by kernel_rfl) (by simp) (AllReadyH.cons rfl (fun K hK => ?_) AllReadyH.nil)
    go_simp
    refine hK.out _ _ (by (try dsimp only); exact hHeld.alloc _) (fun hHeld => ?_)
    clear hK K
    refine wpAnyH_ready (rs := [5]) (by kernel_rfl) (by simp) (AllReadyH.cons rfl (fun K hK => ?_) AllReadyH.nil)
    refine step_iappend_list intsT2 rfl _ _ rfl (B := w1.heap.size) _ [] rfl (iown_empty (W := w1) (by first | exact Array.getElem?_push_size | exact heap_first _ _ _ | exact heap_second _ _ _) (Nat.le_refl _)) ⟨g, o, none⟩ (j + 1) c (l.take (j + 1)) rfl (by rw [List.length_take]; omega) (TE0.out.since hHeld) (by simp; omega) (Below.size hHeld) ?_
    intro v5 w5 hown5 hg5
    rw [List.nil_append] at hown5
    refine hK.out _ _ (by (try dsimp only); exact Below.grown hHeld hg5 (Below.size hHeld) (fun k hk => Nat.le_of_eq (Option.some.inj hk))) (fun hHeld => ?_)
    clear hK K
    refine wpAnyH_ready (rs := [10]) (by kernel_rfl) (by simp) (AllReadyH.cons rfl (fun K hK => ?_) AllReadyH.nil)
    refine step_iappend_list intsT2 rfl _ _ rfl (B := w1.heap.size) _ (l.take (j + 1)) rfl hown5 ⟨g, o + (j + 2), none⟩ (l.length - (j + 2)) (c - (j + 2)) (l.drop (j + 2)) rfl (by rw [List.length_drop]) (TE1.out.since hHeld) (by simp; omega) (Below.size hHeld) ?_
    intro v6 w6 hown6 hg6
    refine hK.out _ _ (by (try dsimp only); exact Below.grown hHeld hg6 (Below.size hHeld) (fun k hk => (hown5.lt k hk).1)) (fun hHeld => ?_)
    clear hK K
    refine take_h 11 9 rfl rfl (by kernel_rfl) (by kernel_rfl) (by kernel_rfl) (fun _ _ _ h => h) (by kernel_rfl) (by intro w hSw; (try dsimp only at hSw); go_simp; try with_reducible rfl) (by assumption) ?_
    refine wpAnyH_done (by kernel_rfl) ?_ _
    simp only [Exit.then]
    try simp only [Act.put, List.setIfInBounds_toArray]
    skip
    have OE := Lib.hid hown6
    have H6 := Lib.hid hHeld
    have z6 := Below.size H6.out
    have bm0 : w6.drew.cell? ⟨g', o' + j, none⟩ = some (.int .i64 m[j]) := ((RU.out.grow B1.out).grow H6.out).cells j hj0
    have bm1 : w6.drew.cell? ⟨g', o' + (j + 1), none⟩ = some (.int .i64 m[j + 1]) := ((RU.out.grow B1.out).grow H6.out).cells (j + 1) hj1
    have hgl : g' < w6.heap.size := cell_below bm0
    have TA0 := Lib.hid (rests_row (((RU.out.grow B1.out).grow H6.out).take j (by omega)))
    obtain ⟨ad, had, ta2⟩ : ∃ ad, (if c' = j + 2 then (some ⟨g', o', none⟩ : Option Addr) else some ⟨g', o' + (j + 2), none⟩) = some ad ∧ Rests w6 ad (m.drop (j + 2)) := by
      by_cases hc : c' = j + 2
      · refine ⟨_, if_pos hc, ?_⟩
        rw [List.drop_of_length_le (by omega)]
        exact rests_nil _ _
      · exact ⟨_, if_neg hc, rests_row (((RU.out.grow B1.out).grow H6.out).drop (j + 2) (by omega))⟩
    have TA2 := Lib.hid ta2
    clear ta2 hHeld hown5 hg5 hown6 hg6
    go_upto_region 4 with fail
    refine wp_region_held_drew (S := (fun w' => Since w6 w' ∧ w'.cell? ⟨g', o' + j, none⟩ = some (.int .i64 m[j]) ∧ w'.cell? ⟨g', o' + (j + 1), none⟩ = some (.int .i64 m[j + 1]))) (by kernel_rfl) (by exact ⟨(since_refl w6).drew, bm0, bm1⟩) (fun hHeld => ?_)
    refine take_h 1 50 rfl rfl (by kernel_rfl) (by kernel_rfl) (by kernel_rfl) (fun _ _ _ h => h) (by kernel_rfl) (by intro w hSw; (try dsimp only at hSw); go_simp; try with_reducible rfl) (by assumption) ?_
    refine take_h 2 51 rfl rfl (by kernel_rfl) (by kernel_rfl) (by kernel_rfl) (fun _ _ _ h => h) (by kernel_rfl) (by intro w hSw; (try dsimp only at hSw); go_simp; try with_reducible rfl) (by assumption) ?_
    refine take_h 3 52 rfl rfl (by kernel_rfl) (by kernel_rfl) (by kernel_rfl) (fun _ _ _ h => h) (by kernel_rfl) (by intro w hSw; (try dsimp only at hSw); go_simp; try with_reducible rfl) (by assumption) ?_
    refine take_h 5 54 rfl rfl (by kernel_rfl) (by kernel_rfl) (by kernel_rfl) (fun _ _ _ h => h) (by kernel_rfl) (by intro w hSw; (try dsimp only at hSw); go_simp; try with_reducible rfl) (by assumption) ?_
    refine take_h 6 55 rfl rfl (by kernel_rfl) (by kernel_rfl) (by kernel_rfl) (fun _ _ _ h => h) (by kernel_rfl) (by intro w hSw; (try dsimp only at hSw); go_simp; try with_reducible rfl) (by assumption) ?_
    refine take_h 7 56 rfl rfl (by kernel_rfl) (by kernel_rfl) (by kernel_rfl) (fun _ _ _ h => h) (by kernel_rfl) (by intro w hSw; (try dsimp only at hSw); go_simp; try with_reducible rfl) (by assumption) ?_
    refine take_h 8 57 rfl rfl (by kernel_rfl) (by kernel_rfl) (by kernel_rfl) (fun _ _ _ h => h) (by kernel_rfl) (by intro w hSw; (try dsimp only at hSw); go_simp; try with_reducible rfl) (by assumption) ?_
    refine take_h 9 58 rfl rfl (by kernel_rfl) (by kernel_rfl) (by kernel_rfl) (fun _ _ _ h => h) (by kernel_rfl) (by intro w hSw; (try dsimp only at hSw); go_simp; try with_reducible rfl) (by assumption) ?_
    refine take_h 10 59 rfl rfl (by kernel_rfl) (by kernel_rfl) (by kernel_rfl) (fun _ _ _ h => h) (by kernel_rfl) (by intro w hSw; (try dsimp only at hSw); go_simp; try with_reducible rfl) (by assumption) ?_
    refine take_h 11 60 rfl rfl (by kernel_rfl) (by kernel_rfl) (by kernel_rfl) (fun _ _ _ h => h) (by kernel_rfl) (by intro w hSw; (try dsimp only at hSw); go_simp; try with_reducible rfl) (by assumption) ?_
    refine take_h 12 61 rfl rfl (by kernel_rfl) (by kernel_rfl) (by kernel_rfl) (fun _ _ _ h => h) (by kernel_rfl) (by intro w hSw; (try dsimp only at hSw); go_simp; try with_reducible rfl) (by assumption) ?_
    refine take_h 13 62 rfl rfl (by kernel_rfl) (by kernel_rfl) (by kernel_rfl) (fun _ _ _ h => h) (by kernel_rfl) (by intro w hSw; (try dsimp only at hSw); go_simp; try with_reducible rfl) (by assumption) ?_
    refine take_h 14 63 rfl rfl (by kernel_rfl) (by kernel_rfl) (by kernel_rfl) (fun _ _ _ h => h) (by kernel_rfl) (by intro w hSw; (try dsimp only at hSw); go_simp; try with_reducible rfl) (by assumption) ?_
    refine wpAnyH_ready (rs := [0, 15]) (by kernel_rfl) (by simp) (AllReadyH.cons rfl (fun K hK => ?_) (AllReadyH.cons rfl (fun K hK => ?_) AllReadyH.nil))
    · go_simp
      refine hK.out _ _ (by (try dsimp only); exact ⟨hHeld.1.alloc _, (World.cell?_alloc_lt _ _ _ (cell_below hHeld.2.1)).trans hHeld.2.1, (World.cell?_alloc_lt _ _ _ (cell_below hHeld.2.2)).trans hHeld.2.2⟩) (fun hHeld => ?_)
      clear hK K
      refine wpAnyH_ready (rs := [4, 15]) (by kernel_rfl) (by simp) (AllReadyH.cons rfl (fun K hK => ?_) (AllReadyH.cons rfl (fun K hK => ?_) AllReadyH.nil))
      · refine step_iappend_list intsT2 rfl _ _ rfl (B := w6.heap.size) _ [] rfl (iown_empty (W := w6) (b := w6.heap.size) (by first | exact Array.getElem?_push_size | exact heap_first _ _ _ | exact heap_second _ _ _) (by omega)) ⟨g', o', none⟩ j c' (m.take j) rfl (by rw [List.length_take]; omega) (TA0.out.since hHeld.1) (by simp; omega) (Below.size hHeld.1) ?_
        intro v7 w7 hown7 hg7
        rw [List.nil_append] at hown7
        refine hK.out _ _ (by (try dsimp only); exact ⟨Below.grown hHeld.1 hg7 (Below.size hHeld.1) (fun k hk => by have h9 : w6.heap.size = k := Option.some.inj hk; omega), hg7.cell hHeld.2.1 (by show some g' ≠ some _; simp; omega), hg7.cell hHeld.2.2 (by show some g' ≠ some _; simp; omega)⟩) (fun hHeld => ?_)
        clear hK K
        refine wpAnyH_ready (rs := [15]) (by kernel_rfl) (by simp) (AllReadyH.cons rfl (fun K hK => ?_) AllReadyH.nil)
        go_simp
        refine hK.out _ _ (by (try dsimp only); exact ⟨hHeld.1.alloc _, (World.cell?_alloc_lt _ _ _ (cell_below hHeld.2.1)).trans hHeld.2.1, (World.cell?_alloc_lt _ _ _ (cell_below hHeld.2.2)).trans hHeld.2.2⟩) (fun hHeld => ?_)
        clear hK K
        refine wpAnyH_ready (rs := [16]) (by kernel_rfl) (by simp) (AllReadyH.cons rfl (fun K hK => ?_) AllReadyH.nil)
        refine step_iappend_list intsT2 rfl _ _ rfl (B := w6.heap.size) _ (m.take j) rfl (hown7.grow ((Below.refl _ _).alloc (Nat.le_refl _) _)) ⟨w7.heap.size, 0, none⟩ 1 1 [am] rfl rfl (rests_one (by go_cell)) (by simp; omega) (Below.size hHeld.1) ?_
        intro v8 w8 hown8 hg8
        refine hK.out _ _ (by (try dsimp only); exact ⟨Below.grown hHeld.1 hg8 (Below.size hHeld.1) (fun k hk => (hown7.lt k hk).1), hg8.cell hHeld.2.1 (fun e => by have := (hown7.lt _ e.symm).1; simp at this; omega), hg8.cell hHeld.2.2 (fun e => by have := (hown7.lt _ e.symm).1; simp at this; omega)⟩) (fun hHeld => ?_)
        clear hK K
        refine take_h 17 10 rfl rfl (by kernel_rfl) (by kernel_rfl) (by kernel_rfl) (fun _ _ _ h => h) (by kernel_rfl) (by intro w hSw; (try dsimp only at hSw); go_simp; try with_reducible rfl) (by assumption) ?_
        refine wpAnyH_done (by kernel_rfl) ?_ _
        simp only [Exit.then]
        try simp only [Act.put, List.setIfInBounds_toArray]
        have H8 := Lib.hid hHeld.1
        have O8 := Lib.hid hown8
        clear hHeld hown7 hown8 hg7 hg8
        go_wp2_with (at_builtin; refine iappend_list intsT2 rfl _ _ rfl (B := w6.heap.size) _ (m.take j ++ [am]) rfl O8.out ad (m.length - (j + 2)) (c' - (j + 2)) (m.drop (j + 2)) rfl (by rw [List.length_drop]) (TA2.out.since H8.out) (by simp; omega) (Below.size H8.out) ?_; intro v9 w9 hown9 hg9)
        have H9 : Since w6 w9 := Below.grown H8.out hg9 (Below.size H8.out) (fun k hk => (O8.out.lt k hk).1)
        rw [EA.out] at hown9
        have O9 := Lib.hid hown9
        clear hown9 hg9
        go_wp2_with fail
        go_ret3
        rw [T.out]
        exact spec_merged OE.out O9.out B1.out H6.out H9
      · go_simp
        refine hK.out _ _ (by (try dsimp only); exact ⟨hHeld.1.alloc _, (World.cell?_alloc_lt _ _ _ (cell_below hHeld.2.1)).trans hHeld.2.1, (World.cell?_alloc_lt _ _ _ (cell_below hHeld.2.2)).trans hHeld.2.2⟩) (fun hHeld => ?_)
        clear hK K
        refine wpAnyH_ready (rs := [4]) (by kernel_rfl) (by simp) (AllReadyH.cons rfl (fun K hK => ?_) AllReadyH.nil)
        refine step_iappend_list intsT2 rfl _ _ rfl (B := w6.heap.size) _ [] rfl (iown_empty (W := w6) (b := w6.heap.size) (by first | exact Array.getElem?_push_size | exact heap_first _ _ _ | exact heap_second _ _ _) (by omega)) ⟨g', o', none⟩ j c' (m.take j) rfl (by rw [List.length_take]; omega) (TA0.out.since hHeld.1) (by simp; omega) (Below.size hHeld.1) ?_
        intro v7 w7 hown7 hg7
        rw [List.nil_append] at hown7
        have kN : w7.cell? ⟨w6.heap.size + 1, 0, none⟩ = some (.int .i64 am) := hg7.cell (by go_cell) (fun e => by have h9 : w6.heap.size + 1 = w6.heap.size := Option.some.inj e; omega)
        refine hK.out _ _ (by (try dsimp only); exact ⟨Below.grown hHeld.1 hg7 (Below.size hHeld.1) (fun k hk => by have h9 : w6.heap.size = k := Option.some.inj hk; omega), hg7.cell hHeld.2.1 (by show some g' ≠ some _; simp; omega), hg7.cell hHeld.2.2 (by show some g' ≠ some _; simp; omega)⟩) (fun hHeld => ?_)
        clear hK K
        refine wpAnyH_ready (rs := [16]) (by kernel_rfl) (by simp) (AllReadyH.cons rfl (fun K hK => ?_) AllReadyH.nil)
        refine step_iappend_list intsT2 rfl _ _ rfl (B := w6.heap.size) _ (m.take j) rfl hown7 ⟨w6.heap.size + 1, 0, none⟩ 1 1 [am] rfl rfl (rests_one kN) (by simp; omega) (Below.size hHeld.1) ?_
        intro v8 w8 hown8 hg8
        refine hK.out _ _ (by (try dsimp only); exact ⟨Below.grown hHeld.1 hg8 (Below.size hHeld.1) (fun k hk => (hown7.lt k hk).1), hg8.cell hHeld.2.1 (fun e => by have := (hown7.lt _ e.symm).1; simp at this; omega), hg8.cell hHeld.2.2 (fun e => by have := (hown7.lt _ e.symm).1; simp at this; omega)⟩) (fun hHeld => ?_)
        clear hK K
        refine take_h 17 10 rfl rfl (by kernel_rfl) (by kernel_rfl) (by kernel_rfl) (fun _ _ _ h => h) (by kernel_rfl) (by intro w hSw; (try dsimp only at hSw); go_simp; try with_reducible rfl) (by assumption) ?_
        refine wpAnyH_done (by kernel_rfl) ?_ _
        simp only [Exit.then]
        try simp only [Act.put, List.setIfInBounds_toArray]
        have H8 := Lib.hid hHeld.1
        have O8 := Lib.hid hown8
        clear hHeld hown7 hown8 hg7 hg8
        go_wp2_with (at_builtin; refine iappend_list intsT2 rfl _ _ rfl (B := w6.heap.size) _ (m.take j ++ [am]) rfl O8.out ad (m.length - (j + 2)) (c' - (j + 2)) (m.drop (j + 2)) rfl (by rw [List.length_drop]) (TA2.out.since H8.out) (by simp; omega) (Below.size H8.out) ?_; intro v9 w9 hown9 hg9)
        have H9 : Since w6 w9 := Below.grown H8.out hg9 (Below.size H8.out) (fun k hk => (O8.out.lt k hk).1)
        rw [EA.out] at hown9
        have O9 := Lib.hid hown9
        clear hown9 hg9
        go_wp2_with fail
        go_ret3
        rw [T.out]
        exact spec_merged OE.out O9.out B1.out H6.out H9
    · go_simp
      refine hK.out _ _ (by (try dsimp only); exact ⟨hHeld.1.alloc _, (World.cell?_alloc_lt _ _ _ (cell_below hHeld.2.1)).trans hHeld.2.1, (World.cell?_alloc_lt _ _ _ (cell_below hHeld.2.2)).trans hHeld.2.2⟩) (fun hHeld => ?_)
      clear hK K
      refine wpAnyH_ready (rs := [0]) (by kernel_rfl) (by simp) (AllReadyH.cons rfl (fun K hK => ?_) AllReadyH.nil)
      go_simp
      refine hK.out _ _ (by (try dsimp only); exact ⟨hHeld.1.alloc _, (World.cell?_alloc_lt _ _ _ (cell_below hHeld.2.1)).trans hHeld.2.1, (World.cell?_alloc_lt _ _ _ (cell_below hHeld.2.2)).trans hHeld.2.2⟩) (fun hHeld => ?_)
      clear hK K
      refine wpAnyH_ready (rs := [4]) (by kernel_rfl) (by simp) (AllReadyH.cons rfl (fun K hK => ?_) AllReadyH.nil)
      refine step_iappend_list intsT2 rfl _ _ rfl (B := w6.heap.size) _ [] rfl (iown_empty (W := w6) (b := w6.heap.size + 1) (by first | exact Array.getElem?_push_size | exact heap_first _ _ _ | exact heap_second _ _ _) (by omega)) ⟨g', o', none⟩ j c' (m.take j) rfl (by rw [List.length_take]; omega) (TA0.out.since hHeld.1) (by simp; omega) (Below.size hHeld.1) ?_
      intro v7 w7 hown7 hg7
      rw [List.nil_append] at hown7
      have kN : w7.cell? ⟨w6.heap.size, 0, none⟩ = some (.int .i64 am) := hg7.cell (by go_cell) (fun e => by have h9 : w6.heap.size = w6.heap.size + 1 := Option.some.inj e; omega)
      refine hK.out _ _ (by (try dsimp only); exact ⟨Below.grown hHeld.1 hg7 (Below.size hHeld.1) (fun k hk => by have h9 : w6.heap.size + 1 = k := Option.some.inj hk; omega), hg7.cell hHeld.2.1 (by show some g' ≠ some _; simp; omega), hg7.cell hHeld.2.2 (by show some g' ≠ some _; simp; omega)⟩) (fun hHeld => ?_)
      clear hK K
      refine wpAnyH_ready (rs := [16]) (by kernel_rfl) (by simp) (AllReadyH.cons rfl (fun K hK => ?_) AllReadyH.nil)
      refine step_iappend_list intsT2 rfl _ _ rfl (B := w6.heap.size) _ (m.take j) rfl hown7 ⟨w6.heap.size, 0, none⟩ 1 1 [am] rfl rfl (rests_one kN) (by simp; omega) (Below.size hHeld.1) ?_
      intro v8 w8 hown8 hg8
      refine hK.out _ _ (by (try dsimp only); exact ⟨Below.grown hHeld.1 hg8 (Below.size hHeld.1) (fun k hk => (hown7.lt k hk).1), hg8.cell hHeld.2.1 (fun e => by have := (hown7.lt _ e.symm).1; simp at this; omega), hg8.cell hHeld.2.2 (fun e => by have := (hown7.lt _ e.symm).1; simp at this; omega)⟩) (fun hHeld => ?_)
      clear hK K
      refine take_h 17 10 rfl rfl (by kernel_rfl) (by kernel_rfl) (by kernel_rfl) (fun _ _ _ h => h) (by kernel_rfl) (by intro w hSw; (try dsimp only at hSw); go_simp; try with_reducible rfl) (by assumption) ?_
      refine wpAnyH_done (by kernel_rfl) ?_ _
      simp only [Exit.then]
      try simp only [Act.put, List.setIfInBounds_toArray]
      have H8 := Lib.hid hHeld.1
      have O8 := Lib.hid hown8
      clear hHeld hown7 hown8 hg7 hg8
      go_wp2_with (at_builtin; refine iappend_list intsT2 rfl _ _ rfl (B := w6.heap.size) _ (m.take j ++ [am]) rfl O8.out ad (m.length - (j + 2)) (c' - (j + 2)) (m.drop (j + 2)) rfl (by rw [List.length_drop]) (TA2.out.since H8.out) (by simp; omega) (Below.size H8.out) ?_; intro v9 w9 hown9 hg9)
      have H9 : Since w6 w9 := Below.grown H8.out hg9 (Below.size H8.out) (fun k hk => (O8.out.lt k hk).1)
      rw [EA.out] at hown9
      have O9 := Lib.hid hown9
      clear hown9 hg9
      go_wp2_with fail
      go_ret3
      rw [T.out]
      exact spec_merged OE.out O9.out B1.out H6.out H9
end Go.Proofs.Ytkcbgeldnibjcaa
