/- The draws of curves. -/
import Derived.Test.YthpfehjjaamkkacKnotDraw
import Derived.BigRegion
namespace Go.Proofs.Ythpfehjjaamkkac
open Go.RowKit

theorem pair_list {q : Nat} {v a b : Value} (h : q < [a, b].length) (hv : (#[a, b] : Array Value)[q]? = some v) : [a, b][q] = v := by simpa [List.getElem?_eq_getElem h] using hv
theorem pair_cells (x y q : Int) (hx : -100001 ≤ x ∧ x ≤ 100001) (hy : -100001 ≤ y ∧ y ≤ 100001) (h0 : 0 ≤ q) (h1 : q < 2) : ∃ v : Int, -200000 ≤ v ∧ v ≤ 200000 ∧ (#[Value.int .i64 x, Value.int .i64 y] : Array Value)[q.toNat]? = some (.int .i64 v) := by
  have h : q = 0 ∨ q = 1 := by omega
  rcases h with rfl | rfl
  · exact ⟨x, by omega, by omega, rfl⟩
  · exact ⟨y, by omega, by omega, rfl⟩
theorem pair_kept {b : Nat} {w w' : World} {i : Nat} {c : Array Value} {t : TypeId} {v : Value} (k : Keep b (w.alloc (.cells c t)).drew w') (hb : b < w.heap.size) (hv : c[i]? = some v) : w'.cell? ⟨w.heap.size, i, none⟩ = some v := by
  refine (k.cell (p := ⟨w.heap.size, i, none⟩) ?_ ?_).trans ?_
  · show w.heap.size < (w.alloc _).heap.size
    simp
  · show w.heap.size ≠ b
    omega
  · rw [World.cell?_drew, World.cell?_alloc_new]; exact hv
theorem pair_kept' {b : Nat} {w w' : World} {i : Nat} {c : Array Value} {t : TypeId} {v : Value} (k : Keep b (w.alloc (.cells c t)) w') (hb : b < w.heap.size) (hv : c[i]? = some v) : w'.cell? ⟨w.heap.size, i, none⟩ = some v := by
  refine (k.cell (p := ⟨w.heap.size, i, none⟩) ?_ ?_).trans ?_
  · show w.heap.size < (w.alloc _).heap.size
    simp
  · show w.heap.size ≠ b
    omega
  · rw [World.cell?_alloc_new]; exact hv
/-- What l91On comes to. -/
def OnDrawn (w : World) (b m : Nat) (e : Ending) (w' : World) : Prop :=
  ∃ v l x, e = .returned (.tuple #[v, .int .i64 x]) ∧ Own 29 w' w.heap.size v l ∧ Bd 100000 6 l ∧ 1 ≤ l.length ∧ -200000 ≤ x ∧ x ≤ 200000 ∧ At w' b (m + 25) ∧ Keep b w w'

set_option maxRecDepth 100000 in
set_option maxHeartbeats 1600000 in
theorem l91On_any {w : World} {b m : Nat} (h : At w b m) (hm : m ≤ 800000) :
    Calls Try.prog 53 #[.pointer (some ⟨b, 0, none⟩)] w fun e w' => OnDrawn w b m e w' := by
  have hbw := h.lt
  have A0 := Lib.hid h
  clear h
  go_enter Try.func53, Try.ntmps53
  go_wp2_with fail
  refine (l91Curve_any A0.out (by omega)).mono ?_
  rintro e w1 ⟨v, l, rfl, o1, bd, hl1, a1, k1⟩
  have O1 := Lib.hid o1; have BD := Lib.hid bd; have A1 := Lib.hid a1; have K1 := Lib.hid k1
  have hs1 := k1.size
  clear o1 a1 k1
  have hl6 : l.length ≤ 6 := bd.1
  clear bd
  have hlz : 0 < l.length := hl1
  obtain ⟨g, cap, hu, hcap, hcapm, hBg, hgw, hp⟩ := O1.out.at hlz
  subst hu
  have h0 := (hp 0 hlz).top
  have b0 := BD.out.get 0 hlz
  have z0 : IntKind.i64.wrap (l[0].1 - 1) = l[0].1 - 1 := IntWalk.i64_in _ (by omega)
  obtain ⟨n0, hn0⟩ : ∃ n0, l.length = n0 + 1 := ⟨l.length - 1, by omega⟩
  have hj : n0 < l.length := by omega
  have h1 := (hp n0 hj).top
  have b1 := BD.out.get n0 hj
  simp only [Nat.zero_mul] at h0
  unfold maxLen at hcapm
  have s0 : (0 : Int) < (n0 : Int) + 1 := by omega
  have s1 : 0 < n0 + 1 := by omega
  have s2 : IntKind.i64.wrap ((n0 : Int) + 1 - 1) = (n0 : Int) := by rw [show (n0 : Int) + 1 - 1 = n0 by omega]; exact IntWalk.i64_in _ (by omega)
  have s2' : IntKind.i64.wrap (n0 : Int) = (n0 : Int) := IntWalk.i64_in _ (by omega)
  have s3 : (0 : Int) ≤ (n0 : Int) := by omega
  have s4 : (n0 : Int) < (n0 : Int) + 1 := by omega
  have s5 : n0 < n0 + 1 := by omega
  have z1 : IntKind.i64.wrap ((l[n0]'hj).1 + 1) = (l[n0]'hj).1 + 1 := IntWalk.i64_in _ (by omega)
  rw [hn0] at O1
  rw [hn0]
  have HN := Lib.hid hn0
  clear hp
  go_wp2_with fail
  refine (pick_at 12 A1.out (by omega)).mono ?_
  rintro e w2 ⟨r, rfl, p2, q2, _, a2, k2⟩
  replace q2 := q2 (by decide)
  have O2 := Lib.hid (O1.out.keep k2 hbw)
  have K2 := Lib.hid (K1.out.trans k2)
  have A2 := Lib.hid a2
  have hs2 := k2.size
  replace h0 := (k2.cell (cell_below h0) (by show g ≠ b; omega)).trans h0
  replace h1 := (k2.cell (cell_below h1) (by show g ≠ b; omega)).trans h1
  have hgw2 : g < w2.heap.size := by omega
  have hgb : g ≠ b := by omega
  clear a2 k2 hn0
  by_cases z : r = 0
  · subst z
    go_wp2_with fail
    have hgw3 : g < w2.drew.heap.size := hgw2
    refine wp_region_held_drew (S := (fun w' => w'.cell? ⟨g, 0, none⟩ = some (.int .i64 l[0].1) ∧ w'.cell? ⟨g, n0 * 2, none⟩ = some (.int .i64 l[n0].1))) (by kernel_rfl) (by go_keep) (fun hHeld => ?_)
    refine take_h 0 10 rfl rfl (by kernel_rfl) (by kernel_rfl) (by kernel_rfl) (fun _ _ _ h => h) (by kernel_rfl) (by intro w hSw; (try dsimp only at hSw); go_simp; try with_reducible rfl) (by assumption) ?_
    refine take_h 1 11 rfl rfl (by kernel_rfl) (by kernel_rfl) (by kernel_rfl) (fun _ _ _ h => h) (by kernel_rfl) (by intro w hSw; (try dsimp only at hSw); go_simp; try with_reducible rfl) (by assumption) ?_
    refine take_h 2 12 rfl rfl (by kernel_rfl) (by kernel_rfl) (by kernel_rfl) (fun _ _ _ h => h) (by kernel_rfl) (by intro w hSw; (try dsimp only at hSw); go_simp; try with_reducible rfl) (by assumption) ?_
    refine take_h 3 13 rfl rfl (by kernel_rfl) (by kernel_rfl) (by kernel_rfl) (fun _ _ _ h => h) (by kernel_rfl) (by intro w hSw; (try dsimp only at hSw); go_simp; try with_reducible rfl) (by assumption) ?_
    refine take_h 4 14 rfl rfl (by kernel_rfl) (by kernel_rfl) (by kernel_rfl) (fun _ _ _ h => h) (by kernel_rfl) (by intro w hSw; (try dsimp only at hSw); go_simp; try with_reducible rfl) (by assumption) ?_
    refine take_h 5 15 rfl rfl (by kernel_rfl) (by kernel_rfl) (by kernel_rfl) (fun _ _ _ h => h) (by kernel_rfl) (by intro w hSw; (try dsimp only at hSw); go_simp; try with_reducible rfl) (by assumption) ?_
    refine take_h 6 16 rfl rfl (by kernel_rfl) (by kernel_rfl) (by kernel_rfl) (fun _ _ _ h => h) (by kernel_rfl) (by intro w hSw; (try dsimp only at hSw); go_simp; try with_reducible rfl) (by assumption) ?_
    refine take_h 7 17 rfl rfl (by kernel_rfl) (by kernel_rfl) (by kernel_rfl) (fun _ _ _ h => h) (by kernel_rfl) (by intro w hSw; (try dsimp only at hSw); go_simp; try with_reducible rfl) (by assumption) ?_
    refine take_h 8 18 rfl rfl (by kernel_rfl) (by kernel_rfl) (by kernel_rfl) (fun _ _ _ h => h) (by kernel_rfl) (by intro w hSw; (try dsimp only at hSw); go_simp; try with_reducible rfl) (by assumption) ?_
    refine take_h 9 19 rfl rfl (by kernel_rfl) (by kernel_rfl) (by kernel_rfl) (fun _ _ _ h => h) (by kernel_rfl) (by intro w hSw; (try dsimp only at hSw); go_simp; try with_reducible rfl) (by assumption) ?_
    refine take_h 10 20 rfl rfl (by kernel_rfl) (by kernel_rfl) (by kernel_rfl) (fun _ _ _ h => h) (by kernel_rfl) (by intro w hSw; (try dsimp only at hSw); go_simp; try with_reducible rfl) (by assumption) ?_
    refine take_h 11 21 rfl rfl (by kernel_rfl) (by kernel_rfl) (by kernel_rfl) (fun _ _ _ h => h) (by kernel_rfl) (by intro w hSw; (try dsimp only at hSw); go_simp; try with_reducible rfl) (by assumption) ?_
    refine take_h 12 22 rfl rfl (by kernel_rfl) (by kernel_rfl) (by kernel_rfl) (fun _ _ _ h => h) (by kernel_rfl) (by intro w hSw; (try dsimp only at hSw); go_simp; try with_reducible rfl) (by assumption) ?_
    refine take_h 13 23 rfl rfl (by kernel_rfl) (by kernel_rfl) (by kernel_rfl) (fun _ _ _ h => h) (by kernel_rfl) (by intro w hSw; (try dsimp only at hSw); go_simp; try with_reducible rfl) (by assumption) ?_
    refine take_h 15 25 rfl rfl (by kernel_rfl) (by kernel_rfl) (by kernel_rfl) (fun _ _ _ h => h) (by kernel_rfl) (by intro w hSw; (try dsimp only at hSw); go_simp; try with_reducible rfl) (by assumption) ?_
    refine wpAnyH_ready (rs := [14, 16]) (by kernel_rfl) (by simp) (AllReadyH.cons rfl (fun K hK => ?_) (AllReadyH.cons rfl (fun K hK => ?_) AllReadyH.nil))
    go_simp
    refine hK.out _ _ (by (try dsimp only); exact ⟨(World.cell?_alloc_lt _ _ _ (cell_below hHeld.1)).trans hHeld.1, (World.cell?_alloc_lt _ _ _ (cell_below hHeld.2)).trans hHeld.2⟩) (fun hHeld => ?_)
    clear hK K
    refine wpAnyH_ready (rs := [16]) (by kernel_rfl) (by simp) (AllReadyH.cons rfl (fun K hK => ?_) AllReadyH.nil)
    go_simp
    go_wp2_with ((go_at_call 40; refine (pick_at (m := m + 21) (b := b) _ (by first | exact (A2.out.alloc _).drew | exact A2.out.drew.alloc _) (by omega)).mono ?_; rintro e w5 ⟨q, rfl, q0, q1, _, a5, k5⟩; replace q1 := q1 (by decide); obtain ⟨v, v0, v1, hv⟩ := pair_cells (l[0].1 - 1) (l[n0].1 + 1) q (by omega) (by omega) q0 q1; have c5 : w5.cell? ⟨w2.heap.size, q.toNat, none⟩ = some (.int .i64 v) := by first | exact pair_kept k5 A2.out.lt hv | exact pair_kept' k5 A2.out.lt hv))
    refine hK.out _ _ (by (try dsimp only); exact ⟨(k5.cell (cell_below hHeld.1) hgb).trans hHeld.1, (k5.cell (cell_below hHeld.2) hgb).trans hHeld.2⟩) (fun hHeld => ?_)
    clear hK K
    refine take_h 19 2 rfl rfl (by kernel_rfl) (by kernel_rfl) (by kernel_rfl) (fun _ _ _ h => h) (by kernel_rfl) (by intro w hSw; (try dsimp only at hSw); go_simp; try with_reducible rfl) (by assumption) ?_
    refine take_h 17 27 rfl rfl (by kernel_rfl) (by kernel_rfl) (by kernel_rfl) (fun _ _ _ h => h) (by kernel_rfl) (by intro w hSw; (try dsimp only at hSw); go_simp; try with_reducible rfl) (by assumption) ?_
    refine wpAnyH_ready (rs := [18]) (by kernel_rfl) (by simp) (AllReadyH.cons rfl (fun K hK => ?_) AllReadyH.nil)
    go_simp
    refine hK.out _ _ (by (try dsimp only); exact hHeld) (fun hHeld => ?_)
    clear hK K
    refine take_h 20 3 rfl rfl (by kernel_rfl) (by kernel_rfl) (by kernel_rfl) (fun _ _ _ h => h) (by kernel_rfl) (by intro w hSw; (try dsimp only at hSw); go_simp; try with_reducible rfl) (by assumption) ?_
    refine wpAnyH_done (by kernel_rfl) ?_ _
    simp only [Exit.then]
    simp only [Act.put, List.setIfInBounds_toArray, List.set_cons_succ, List.set_cons_zero]
    rotate_left 1
    go_simp
    go_wp2_with ((go_at_call 40; refine (pick_at (m := m + 21) (b := b) _ A2.out.drew (by omega)).mono ?_; rintro e w5 ⟨q, rfl, q0, q1, _, a5, k5⟩; replace q1 := q1 (by decide); obtain ⟨v, v0, v1, hv⟩ := pair_cells (l[0].1 - 1) (l[n0].1 + 1) q (by omega) (by omega) q0 q1; have hl := pair_list (by simp; omega) hv))
    refine hK.out _ _ (by (try dsimp only); exact ⟨(k5.cell (cell_below hHeld.1) hgb).trans hHeld.1, (k5.cell (cell_below hHeld.2) hgb).trans hHeld.2⟩) (fun hHeld => ?_)
    clear hK K
    refine take_h 19 2 rfl rfl (by kernel_rfl) (by kernel_rfl) (by kernel_rfl) (fun _ _ _ h => h) (by kernel_rfl) (by intro w hSw; (try dsimp only at hSw); go_simp; try with_reducible rfl) (by assumption) ?_
    refine wpAnyH_ready (rs := [14]) (by kernel_rfl) (by simp) (AllReadyH.cons rfl (fun K hK => ?_) AllReadyH.nil)
    go_simp
    refine hK.out _ _ (by (try dsimp only); exact ⟨(World.cell?_alloc_lt _ _ _ (cell_below hHeld.1)).trans hHeld.1, (World.cell?_alloc_lt _ _ _ (cell_below hHeld.2)).trans hHeld.2⟩) (fun hHeld => ?_)
    clear hK K
    refine take_h 17 27 rfl rfl (by kernel_rfl) (by kernel_rfl) (by kernel_rfl) (fun _ _ _ h => h) (by kernel_rfl) (by intro w hSw; (try dsimp only at hSw); go_simp; try with_reducible rfl) (by assumption) ?_
    refine wpAnyH_ready (rs := [18]) (by kernel_rfl) (by simp) (AllReadyH.cons rfl (fun K hK => ?_) AllReadyH.nil)
    go_simp
    refine hK.out _ _ (by (try dsimp only); exact hHeld) (fun hHeld => ?_)
    clear hK K
    refine take_h 20 3 rfl rfl (by kernel_rfl) (by kernel_rfl) (by kernel_rfl) (fun _ _ _ h => h) (by kernel_rfl) (by intro w hSw; (try dsimp only at hSw); go_simp; try with_reducible rfl) (by assumption) ?_
    refine wpAnyH_done (by kernel_rfl) ?_ _
    simp only [Exit.then]
    simp only [Act.put, List.setIfInBounds_toArray, List.set_cons_succ, List.set_cons_zero]
    rotate_left 1
    all_goals
      go_wp2
      go_ret2
      refine ⟨_, l, v, rfl, ?_, BD.out, hl1, v0, v1, ?_, ?_⟩
      · rw [← HN.out] at O2
        rw [← HN.out]
        first
          | exact ((O2.out.grow (show Below w2.heap.size w2 _ by go_grown)).keep k5 hbw)
          | exact ((O2.out.grow (Below.refl _ _).drew).keep k5 hbw).grow ((Below.refl _ _).alloc (Nat.le_refl _) _)
      · first | exact a5.mono (by omega) | exact (a5.mono (by omega)).alloc _
      · first
          | exact K2.out.trans ((Keep.trans (Keep.alloc b w2 _) (Keep.drew b _)).trans k5)
          | exact (K2.out.trans ((Keep.drew b _).trans k5)).trans (Keep.alloc b w5 _)
  · have e0 : (r == 0) = false := by simpa using z
    have y0 : IntKind.i64.wrap (l[n0].1 - l[0].1) = l[n0].1 - l[0].1 := IntWalk.i64_in _ (by omega)
    have y1 : IntKind.i64.wrap (l[n0].1 - l[0].1 + 1) = l[n0].1 - l[0].1 + 1 := IntWalk.i64_in _ (by omega)
    obtain ⟨y, hy⟩ : ∃ y : Int, (if l[n0].1 - l[0].1 + 1 < 60 then l[n0].1 - l[0].1 + 1 else 60) = y := ⟨_, rfl⟩
    have hy60 : y ≤ 60 := by rw [← hy]; split <;> omega
    obtain ⟨z2, hz2⟩ : ∃ z : Int, (if 1 < y then y else 1) = z := ⟨_, rfl⟩
    have hz1 : 1 ≤ z2 ∧ z2 ≤ 60 := by rw [← hz2]; split <;> omega
    obtain ⟨hz1a, hz1b⟩ := hz1
    clear z
    go_wp2_with fail
    go_region_held3 (fun w' => w'.cell? ⟨g, 0, none⟩ = some (.int .i64 l[0].1) ∧ w'.cell? ⟨g, n0 * 2, none⟩ = some (.int .i64 l[n0].1))
      (first | go_keep | (go_split_ands; exact ⟨(k5.cell (by simp; omega) hgb).trans ‹_›, (k5.cell (by simp; omega) hgb).trans ‹_›⟩))
      ((go_at_call 40; refine (pick_at (m := m + 21) (b := b) z2 A2.out.drew (by omega)).mono ?_; rintro e w5 ⟨q, rfl, q0, q1, q3, a5, k5⟩; replace q1 := q1 (by omega); have z3 : IntKind.i64.wrap (l[0].1 + q) = l[0].1 + q := IntWalk.i64_in _ (by omega)))
    have A5 := Lib.hid a5
    have K5 := Lib.hid ((K2.out.trans (Keep.drew b _)).trans k5)
    have O5 := Lib.hid ((O2.out.grow (Below.refl _ _).drew).keep k5 hbw)
    have Z3 := Lib.hid z3
    clear a5 k5 z3 hy hz2
    go_wp2_with fail
    go_ret2
    rw [← HN.out] at O5
    rw [← HN.out]
    refine ⟨_, l, _, rfl, O5.out, BD.out, hl1, ?_, ?_, A5.out.mono (by omega), K5.out⟩
    · first | omega | (rw [Z3.out]; omega)
    · first | omega | (rw [Z3.out]; omega)
end Go.Proofs.Ythpfehjjaamkkac
