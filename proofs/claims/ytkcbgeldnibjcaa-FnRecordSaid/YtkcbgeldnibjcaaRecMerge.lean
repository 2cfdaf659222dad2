/- The contract of the program's RecordMerge. -/
import Derived.Test.YtkcbgeldnibjcaaConcat
import Derived.Test.YtkcbgeldnibjcaaRecImpl
namespace Go.Proofs.Ytkcbgeldnibjcaa
open Go.RowKit

/-- Two slices of the call's own, in two blocks. -/
structure TwoOwn (w : World) (B : Nat) (v u : Value) (l a : List Int) : Prop where
  fst : IOwn w B v l
  snd : IOwn w B u a
  far : ∀ k, v.ownBlock = some k → u.ownBlock ≠ some k
theorem TwoOwn.grow {w w' : World} {B : Nat} {v u : Value} {l a : List Int} (h : TwoOwn w B v u l a) (k : Below w.heap.size w w') : TwoOwn w' B v u l a := ⟨h.fst.grow k, h.snd.grow k, h.far⟩
theorem TwoOwn.mono {w : World} {B B' : Nat} {v u : Value} {l a : List Int} (h : TwoOwn w B v u l a) (k : B' ≤ B) : TwoOwn w B' v u l a := ⟨h.fst.mono k, h.snd.mono k, h.far⟩
theorem back_rec1 (s : Nat) {fn : Func} (hf : fn.results = #[.cell s 56]) {a : Act} {w : World} {k : Nat} {x y : Value} {R : Ending → World → Prop}
    (h4 : a.tmps.getD s undef = .pointer (some ⟨k, 0, none⟩)) (c0 : w.cell? ⟨k, 0, none⟩ = some x) (c1 : w.cell? ⟨k, 1, none⟩ = some y)
    (hd : a.defers = []) (hR : R (.returned (.agg #[x, y])) w) : bodyPost Try.prog fn R .ret a w := by
  rw [Array.getD_eq_getD_getElem?] at h4
  refine bodyPost_ret (v := .agg #[x, y]) ?_ hd hR
  simp [results, hf, go_sem, h4, c0, c1]
/-- The middle part is a number in a block of its own. -/
theorem concatB_any {w : World} {b : Nat} {v0 v2 : Value} {l0 l2 : List Int} {am : Int} (c0 : w.cell? ⟨b, 0, none⟩ = some v0) (cm : ∃ b1, w.cell? ⟨b, 1, none⟩ = some (.slice (some ⟨b1, 0, none⟩) 1 1) ∧ w.cell? ⟨b1, 0, none⟩ = some (.int .i64 am)) (c2 : w.cell? ⟨b, 2, none⟩ = some v2)
    (n0 : INews w v0 l0) (n2 : INews w v2 l2) (hpos : 0 < l0.length + [am].length + l2.length) (hle : l0.length + [am].length + l2.length ≤ 1000) :
    Calls Try.prog 64 #[.slice (some ⟨b, 0, none⟩) 3 3] w fun e w' => ∃ v, e = .returned v ∧ IOwn w' w.heap.size v (l0 ++ [am] ++ l2) ∧ Below w.heap.size w w' := by
  obtain ⟨b1, c1, cn⟩ := cm
  exact concatA_any c0 c1 c2 n0 (inews_one cn) n2 hpos hle
def Merged (w : World) (l m : List Int) (e : Ending) (w' : World) : Prop := ∃ v u, e = .returned (.agg #[v, u]) ∧ TwoOwn w' w.heap.size v u l m ∧ Below w.heap.size w w'

theorem merged_fin {w z1 : World} {gE cE nE gA cA nA : Nat} {l a : List Int} (h1 : IOwn z1 (w.heap.size + 2) (.slice (some ⟨gE, 0, none⟩) nE cE) l) (h2 : IOwn z1 (w.heap.size + 2) (.slice (some ⟨gA, 0, none⟩) nA cA) a) (hne : gE < gA) (B : Below w.heap.size w z1) :
    Merged w l a (.returned (.agg #[.slice (some ⟨gE, 0, none⟩) nE cE, .slice (some ⟨gA, 0, none⟩) nA cA])) ((z1.setCell ⟨w.heap.size + 1, 0, none⟩ (.slice (some ⟨gE, 0, none⟩) nE cE)).setCell ⟨w.heap.size + 1, 1, none⟩ (.slice (some ⟨gA, 0, none⟩) nA cA)) := by
  refine ⟨_, _, rfl, ⟨(h1.same fun b hb => ?_).mono (by omega), (h2.same fun b hb => ?_).mono (by omega), fun k h3 h4 => ?_⟩, (B.setCell (p := ⟨w.heap.size + 1, 0, none⟩) (by simp) _).setCell (p := ⟨w.heap.size + 1, 1, none⟩) (by simp) _⟩
  · have := (h1.lt b hb).1
    rw [Below.heap_setCell _ _ _ _ (by show b ≠ w.heap.size + 1; omega), Below.heap_setCell _ _ _ _ (by show b ≠ w.heap.size + 1; omega)]
  · have := (h2.lt b hb).1
    rw [Below.heap_setCell _ _ _ _ (by show b ≠ w.heap.size + 1; omega), Below.heap_setCell _ _ _ _ (by show b ≠ w.heap.size + 1; omega)]
  · simp [Value.ownBlock] at h3 h4; omega
set_option maxRecDepth 100000 in
set_option maxHeartbeats 3200000 in
theorem merged_any {w : World} {v u : Value} {l m : List Int} (h : Rec w v u l m) (hr : isRec l m = true) {j : Nat} (hj : j + 2 ≤ m.length) :
    Calls Try.prog 51 #[.agg #[v, u], .int .i64 j] w fun e w' => Merged w (mergedE l j) (mergedA m j) e w' := by
  have HL := Lib.hid (rec_len hr)
  have h20 : m.length ≤ 20 := HL.out.2.2
  have hl21 : l.length ≤ 21 := by have := HL.out; omega
  have hjl : j + 3 ≤ l.length := by have := HL.out; omega
  obtain ⟨g, o, c, rfl, k1, k2⟩ := h.1.known (by omega)
  obtain ⟨g', o', c', rfl, k1', k2'⟩ := h.2.known (by omega)
  unfold maxLen at k2 k2'
  have m0 := rec_amount hr j (by omega)
  have m1 := rec_amount hr (j + 1) (by omega)
  have H := Lib.hid h
  have HR := Lib.hid hr
  obtain ⟨am, ham⟩ : ∃ x : Int, m[j]'(by omega) + m[j + 1]'(by omega) = x := ⟨_, rfl⟩
  have a0 : IntKind.i64.wrap (m[j]'(by omega) + m[j + 1]'(by omega)) = am := by rw [ham]; exact IntWalk.i64_in _ (by omega)
  have EA : Hid (m.take j ++ [am] ++ m.drop (j + 2) = mergedA m j) := Lib.hid (by unfold mergedA; rw [getD_is (by omega), getD_is (by omega), ham])
  have a1 : IntKind.i64.wrap ((j : Int) + 1) = (j : Int) + 1 := IntWalk.i64_in _ (by omega)
  have a2 : IntKind.i64.wrap ((j : Int) + 2) = (j : Int) + 2 := IntWalk.i64_in _ (by omega)
  have a3 : IntKind.i64.wrap am = am := by rw [← a0]; exact IntWalk.i64_in _ (by rw [a0]; omega)
  have b1 : (j : Int) < (m.length : Int) := by omega
  have b2 : (0 : Int) ≤ (j : Int) := by omega
  have b3 : (j : Int) + 1 < (m.length : Int) := by omega
  have b4 : ((j : Int) + 1).toNat = j + 1 := by omega
  have b5 : (0 : Int) ≤ (j : Int) + 1 := by omega
  have b6 : ((j : Int) + 2).toNat = j + 2 := by omega
  have b7 : (0 : Int) ≤ (j : Int) + 2 := by omega
  have b8 : (j : Int) + 1 ≤ (c : Int) := by omega
  have b9 : (j : Int) ≤ (c' : Int) := by omega
  have b10 : (j : Int) + 2 ≤ (l.length : Int) := by omega
  have b11 : (j : Int) + 2 ≤ (m.length : Int) := by omega
  clear h hr m0 m1
  go_enter Try.func51, Try.ntmps51
  go_wp2_with fail
  have B0 : Below w.heap.size w ((w.alloc (.cells #[.slice (some ⟨g, o, none⟩) l.length c, .slice (some ⟨g', o', none⟩) m.length c'] 56)).alloc (.cells #[.slice none 0 0, .slice none 0 0] 56)) := by go_grown
  have am0 := (H.out.2.grow B0).cells j (by omega)
  have am1 := (H.out.2.grow B0).cells (j + 1) (by omega)
  go_quiet (fail)
  clear am0 am1
  have B1 := Lib.hid (below_drews B0 nq)
  have x0 : (((w.alloc (.cells #[.slice (some ⟨g, o, none⟩) l.length c, .slice (some ⟨g', o', none⟩) m.length c'] 56)).alloc (.cells #[.slice none 0 0, .slice none 0 0] 56)).drewN nq).cell? ⟨w.heap.size, 0, none⟩ = some (.slice (some ⟨g, o, none⟩) l.length c) := by go_cell
  have x1 : (((w.alloc (.cells #[.slice (some ⟨g, o, none⟩) l.length c, .slice (some ⟨g', o', none⟩) m.length c'] 56)).alloc (.cells #[.slice none 0 0, .slice none 0 0] 56)).drewN nq).cell? ⟨w.heap.size, 1, none⟩ = some (.slice (some ⟨g', o', none⟩) m.length c') := by go_cell
  have y0 : (((w.alloc (.cells #[.slice (some ⟨g, o, none⟩) l.length c, .slice (some ⟨g', o', none⟩) m.length c'] 56)).alloc (.cells #[.slice none 0 0, .slice none 0 0] 56)).drewN nq).cell? ⟨w.heap.size + 1, 0, none⟩ = some (.slice none 0 0) := by go_cell
  have y1 : (((w.alloc (.cells #[.slice (some ⟨g, o, none⟩) l.length c, .slice (some ⟨g', o', none⟩) m.length c'] 56)).alloc (.cells #[.slice none 0 0, .slice none 0 0] 56)).drewN nq).cell? ⟨w.heap.size + 1, 1, none⟩ = some (.slice none 0 0) := by go_cell
  have y2 : (((w.alloc (.cells #[.slice (some ⟨g, o, none⟩) l.length c, .slice (some ⟨g', o', none⟩) m.length c'] 56)).alloc (.cells #[.slice none 0 0, .slice none 0 0] 56)).drewN nq).frozen? ⟨w.heap.size + 1, 0, none⟩ = false := by go_simp
  have y3 : (((w.alloc (.cells #[.slice (some ⟨g, o, none⟩) l.length c, .slice (some ⟨g', o', none⟩) m.length c'] 56)).alloc (.cells #[.slice none 0 0, .slice none 0 0] 56)).drewN nq).frozen? ⟨w.heap.size + 1, 1, none⟩ = false := by go_simp
  generalize (((w.alloc (.cells #[.slice (some ⟨g, o, none⟩) l.length c, .slice (some ⟨g', o', none⟩) m.length c'] 56)).alloc (.cells #[.slice none 0 0, .slice none 0 0] 56)).drewN nq) = W at B1 x0 x1 y0 y1 y2 y3 ⊢
  clear B0
  have RW := H.out.grow B1.out
  have TE0 := Lib.hid (RW.1.take (j + 1) (by omega)).with
  have TE1 := Lib.hid (RW.1.drop (j + 2) (by omega)).with
  have TA0 := Lib.hid (RW.2.take j (by omega)).with
  have nc : ¬ c = j + 2 := by omega
  obtain ⟨ad, had, ta2⟩ : ∃ ad, (if c' = j + 2 then (some ⟨g', o', none⟩ : Option Addr) else some ⟨g', o' + (j + 2), none⟩) = some ad ∧ INews W (.slice (some ad) (m.length - (j + 2)) (c' - (j + 2))) (m.drop (j + 2)) := by
    by_cases hc : c' = j + 2
    · refine ⟨_, if_pos hc, ?_⟩
      rw [show m.length - (j + 2) = 0 by omega, List.drop_of_length_le (by omega)]
      exact inews_nil _ _ _
    · exact ⟨_, if_neg hc, (RW.2.drop (j + 2) (by omega)).with⟩
  have TA2 := Lib.hid ta2
  clear ta2
  have hW : w.heap.size + 1 < W.heap.size := cell_below y0
  have hW0 : w.heap.size < W.heap.size := by omega
  have hW1 : w.heap.size < W.heap.size + 1 := by omega
  have hW2 : w.heap.size < W.heap.size + 1 + 1 := by omega
  clear RW
  go_wp2_with fail
  refine wp_region_held_drew (S := (fun w' => w'.cell? ⟨w.heap.size, 0, none⟩ = some (.slice (some ⟨g, o, none⟩) l.length c) ∧ w'.cell? ⟨w.heap.size, 1, none⟩ = some (.slice (some ⟨g', o', none⟩) m.length c'))) (by kernel_rfl) (by exact ⟨x0, x1⟩) (fun hHeld => ?_)
  refine take_h 0 18 rfl rfl (by kernel_rfl) (by kernel_rfl) (by kernel_rfl) (fun _ _ _ h => h) (by kernel_rfl) (by intro w hSw; (try dsimp only at hSw); go_simp; try with_reducible rfl) (by assumption) ?_
  refine take_h 1 19 rfl rfl (by kernel_rfl) (by kernel_rfl) (by kernel_rfl) (fun _ _ _ h => h) (by kernel_rfl) (by intro w hSw; (try dsimp only at hSw); go_simp; try with_reducible rfl) (by assumption) ?_
  refine take_h 2 20 rfl rfl (by kernel_rfl) (by kernel_rfl) (by kernel_rfl) (fun _ _ _ h => h) (by kernel_rfl) (by intro w hSw; (try dsimp only at hSw); go_simp; try with_reducible rfl) (by assumption) ?_
  refine take_h 3 21 rfl rfl (by kernel_rfl) (by kernel_rfl) (by kernel_rfl) (fun _ _ _ h => h) (by kernel_rfl) (by intro w hSw; (try dsimp only at hSw); go_simp; try with_reducible rfl) (by assumption) ?_
  refine take_h 4 22 rfl rfl (by kernel_rfl) (by kernel_rfl) (by kernel_rfl) (fun _ _ _ h => h) (by kernel_rfl) (by intro w hSw; (try dsimp only at hSw); go_simp; try with_reducible rfl) (by assumption) ?_
  refine take_h 5 23 rfl rfl (by kernel_rfl) (by kernel_rfl) (by kernel_rfl) (fun _ _ _ h => h) (by kernel_rfl) (by intro w hSw; (try dsimp only at hSw); go_simp; try with_reducible rfl) (by assumption) ?_
  refine take_h 6 24 rfl rfl (by kernel_rfl) (by kernel_rfl) (by kernel_rfl) (fun _ _ _ h => h) (by kernel_rfl) (by intro w hSw; (try dsimp only at hSw); go_simp; try with_reducible rfl) (by assumption) ?_
  refine take_h 7 25 rfl rfl (by kernel_rfl) (by kernel_rfl) (by kernel_rfl) (fun _ _ _ h => h) (by kernel_rfl) (by intro w hSw; (try dsimp only at hSw); go_simp; try with_reducible rfl) (by assumption) ?_
  refine take_h 8 26 rfl rfl (by kernel_rfl) (by kernel_rfl) (by kernel_rfl) (fun _ _ _ h => h) (by kernel_rfl) (by intro w hSw; (try dsimp only at hSw); go_simp; try with_reducible rfl) (by assumption) ?_
  refine take_h 9 27 rfl rfl (by kernel_rfl) (by kernel_rfl) (by kernel_rfl) (fun _ _ _ h => h) (by kernel_rfl) (by intro w hSw; (try dsimp only at hSw); go_simp; try with_reducible rfl) (by assumption) ?_
  refine take_h 12 30 rfl rfl (by kernel_rfl) (by kernel_rfl) (by kernel_rfl) (fun _ _ _ h => h) (by kernel_rfl) (by intro w hSw; (try dsimp only at hSw); go_simp; try with_reducible rfl) (by assumption) ?_
  refine take_h 13 31 rfl rfl (by kernel_rfl) (by kernel_rfl) (by kernel_rfl) (fun _ _ _ h => h) (by kernel_rfl) (by intro w hSw; (try dsimp only at hSw); go_simp; try with_reducible rfl) (by assumption) ?_
  refine take_h 14 32 rfl rfl (by kernel_rfl) (by kernel_rfl) (by kernel_rfl) (fun _ _ _ h => h) (by kernel_rfl) (by intro w hSw; (try dsimp only at hSw); go_simp; try with_reducible rfl) (by assumption) ?_
  refine take_h 15 33 rfl rfl (by kernel_rfl) (by kernel_rfl) (by kernel_rfl) (fun _ _ _ h => h) (by kernel_rfl) (by intro w hSw; (try dsimp only at hSw); go_simp; try with_reducible rfl) (by assumption) ?_
  refine take_h 16 34 rfl rfl (by kernel_rfl) (by kernel_rfl) (by kernel_rfl) (fun _ _ _ h => h) (by kernel_rfl) (by intro w hSw; (try dsimp only at hSw); go_simp; try with_reducible rfl) (by assumption) ?_
  refine take_h 18 36 rfl rfl (by kernel_rfl) (by kernel_rfl) (by kernel_rfl) (fun _ _ _ h => h) (by kernel_rfl) (by intro w hSw; (try dsimp only at hSw); go_simp; try with_reducible rfl) (by assumption) ?_
  refine take_h 19 37 rfl rfl (by kernel_rfl) (by kernel_rfl) (by kernel_rfl) (fun _ _ _ h => h) (by kernel_rfl) (by intro w hSw; (try dsimp only at hSw); go_simp; try with_reducible rfl) (by assumption) ?_
  refine take_h 20 38 rfl rfl (by kernel_rfl) (by kernel_rfl) (by kernel_rfl) (fun _ _ _ h => h) (by kernel_rfl) (by intro w hSw; (try dsimp only at hSw); go_simp; try with_reducible rfl) (by assumption) ?_
  refine take_h 21 39 rfl rfl (by kernel_rfl) (by kernel_rfl) (by kernel_rfl) (fun _ _ _ h => h) (by kernel_rfl) (by intro w hSw; (try dsimp only at hSw); go_simp; try with_reducible rfl) (by assumption) ?_
  refine take_h 22 40 rfl rfl (by kernel_rfl) (by kernel_rfl) (by kernel_rfl) (fun _ _ _ h => h) (by kernel_rfl) (by intro w hSw; (try dsimp only at hSw); go_simp; try with_reducible rfl) (by assumption) ?_
  refine wpAnyH_ready (rs := [10, 17]) (by kernel_rfl) (by simp) (AllReadyH.cons rfl (fun K hK => ?_) (AllReadyH.cons rfl (fun K hK => ?_) AllReadyH.nil))
  · go_simp
    refine hK.out _ _ (by (try dsimp only); exact ⟨(World.cell?_alloc_lt _ _ _ (cell_below hHeld.1)).trans hHeld.1, (World.cell?_alloc_lt _ _ _ (cell_below hHeld.2)).trans hHeld.2⟩) (fun hHeld => ?_)
    clear hK K
    refine wpAnyH_ready (rs := [11, 17]) (by kernel_rfl) (by simp) (AllReadyH.cons rfl (fun K hK => ?_) (AllReadyH.cons rfl (fun K hK => ?_) AllReadyH.nil))
    · go_simp
      go_wp2_with ((go_at_call 63; refine (concatE_any (by go_cell) (by go_cell) (TE0.out.grow (by go_grown)) (TE1.out.grow (by go_grown)) (by simp; omega) (by simp; omega)).mono ?_; rintro e z0 ⟨vE, rfl, oE, bE⟩; change IOwn _ _ _ (mergedE l j) at oE; obtain ⟨gE, cE, hE, -⟩ := oE.at (by rw [mergedE_length (by omega)]; omega); subst hE; have BZ : Below W.heap.size W z0 := Below.trans (by go_grown) (bE.mono (by go_size)); have hz0 : W.heap.size + 1 ≤ z0.heap.size := Nat.le_trans (by first | (simp; done) | (simp; omega)) bE.size; have hz00 : W.heap.size ≤ z0.heap.size := BZ.size; have hE0 := (oE.lt gE rfl).2))
      refine hK.out _ _ (by (try dsimp only); exact ⟨(bE.cell (cell_below hHeld.1)).trans hHeld.1, (bE.cell (cell_below hHeld.2)).trans hHeld.2⟩) (fun hHeld => ?_)
      clear hK K
      refine wpAnyH_ready (rs := [17]) (by kernel_rfl) (by simp) (AllReadyH.cons rfl (fun K hK => ?_) AllReadyH.nil)
      go_simp
      refine hK.out _ _ (by (try dsimp only); exact ⟨(World.cell?_alloc_lt _ _ _ (cell_below hHeld.1)).trans hHeld.1, (World.cell?_alloc_lt _ _ _ (cell_below hHeld.2)).trans hHeld.2⟩) (fun hHeld => ?_)
      clear hK K
      refine wpAnyH_ready (rs := [23]) (by kernel_rfl) (by simp) (AllReadyH.cons rfl (fun K hK => ?_) AllReadyH.nil)
      go_simp
      refine hK.out _ _ (by (try dsimp only); exact ⟨(World.cell?_alloc_lt _ _ _ (cell_below hHeld.1)).trans hHeld.1, (World.cell?_alloc_lt _ _ _ (cell_below hHeld.2)).trans hHeld.2⟩) (fun hHeld => ?_)
      clear hK K
      refine wpAnyH_ready (rs := [24]) (by kernel_rfl) (by simp) (AllReadyH.cons rfl (fun K hK => ?_) AllReadyH.nil)
      go_simp
      go_wp2_with ((go_at_call 64; refine (concatA_any (l1 := [am]) (by go_cell) (by go_cell) (by go_cell) (TA0.out.grow (by go_grown)) (inews_one (b := z0.heap.size) (by go_cell)) (TA2.out.grow (by go_grown)) (by simp; omega) (by simp; omega)).mono ?_; rintro e z1 ⟨vA, rfl, oA, bA⟩; rw [EA.out] at oA; obtain ⟨gA, cA, hA, -⟩ := oA.at (by rw [mergedA_length hj]; omega); subst hA; have BY : Below W.heap.size W z1 := Below.trans (by go_grown) (bA.mono (by go_size)); have OE := oE.grow (show Below z0.heap.size z0 z1 from Below.trans (by go_grown) (bA.mono (by go_size))); have hA0 : z0.heap.size ≤ gA := Nat.le_trans (by first | (simp; done) | (simp; omega)) (oA.lt gA rfl).1; have hA1 : W.heap.size ≤ z1.heap.size := BY.size; obtain ⟨q0, q1, q2, q3⟩ := below_two (w.heap.size + 1) _ _ BY y0 y1 y2 y3))
      refine hK.out _ _ (by (try dsimp only); exact ⟨(bA.cell (cell_below hHeld.1)).trans hHeld.1, (bA.cell (cell_below hHeld.2)).trans hHeld.2⟩) (fun hHeld => ?_)
      clear hK K
      refine take_h 25 43 rfl rfl (by kernel_rfl) (by kernel_rfl) (by kernel_rfl) (fun _ _ _ h => h) (by kernel_rfl) (by intro w hSw; (try dsimp only at hSw); go_simp; try with_reducible rfl) (by assumption) ?_
      refine wpAnyH_ready (rs := [26]) (by kernel_rfl) (by simp) (AllReadyH.cons rfl (fun K hK => ?_) AllReadyH.nil)
      go_simp
      refine hK.out _ _ (by (try dsimp only); exact ⟨by go_cell, by go_cell⟩) (fun hHeld => ?_)
      clear hK K
      refine wpAnyH_done (by kernel_rfl) ?_ _
      simp only [Exit.then]
      try simp only [Act.put, List.setIfInBounds_toArray, List.set_cons_succ, List.set_cons_zero]
      go_wp2_with fail
      refine back_rec1 4 rfl rfl (stored0 _ _ q0) (stored1 _ _ q1) rfl ?_
      exact merged_fin (OE.mono (by first | omega | (simp; done) | (simp; omega))) (oA.mono (by first | omega | (simp; done) | (simp; omega))) (by omega) (by have := B1.out; exact this.trans (BY.mono (by omega)))
    · go_simp
      refine hK.out _ _ (by (try dsimp only); exact ⟨(World.cell?_alloc_lt _ _ _ (cell_below hHeld.1)).trans hHeld.1, (World.cell?_alloc_lt _ _ _ (cell_below hHeld.2)).trans hHeld.2⟩) (fun hHeld => ?_)
      clear hK K
      refine wpAnyH_ready (rs := [11, 23]) (by kernel_rfl) (by simp) (AllReadyH.cons rfl (fun K hK => ?_) (AllReadyH.cons rfl (fun K hK => ?_) AllReadyH.nil))
      · go_simp
        go_wp2_with ((go_at_call 63; refine (concatE_any (by go_cell) (by go_cell) (TE0.out.grow (by go_grown)) (TE1.out.grow (by go_grown)) (by simp; omega) (by simp; omega)).mono ?_; rintro e z0 ⟨vE, rfl, oE, bE⟩; change IOwn _ _ _ (mergedE l j) at oE; obtain ⟨gE, cE, hE, -⟩ := oE.at (by rw [mergedE_length (by omega)]; omega); subst hE; have BZ : Below W.heap.size W z0 := Below.trans (by go_grown) (bE.mono (by go_size)); have hz0 : W.heap.size + 1 + 1 ≤ z0.heap.size := Nat.le_trans (by first | (simp; done) | (simp; omega)) bE.size; have hz00 : W.heap.size ≤ z0.heap.size := BZ.size; have hE0 := (oE.lt gE rfl).2; have kn0 : z0.cell? ⟨W.heap.size + 1, 0, none⟩ = some (.int .i64 am) := (bE.cell (p := ⟨W.heap.size + 1, 0, none⟩) (by first | (simp; done) | (simp; omega))).trans (by go_cell)))
        refine hK.out _ _ (by (try dsimp only); exact ⟨(bE.cell (cell_below hHeld.1)).trans hHeld.1, (bE.cell (cell_below hHeld.2)).trans hHeld.2⟩) (fun hHeld => ?_)
        clear hK K
        refine wpAnyH_ready (rs := [23]) (by kernel_rfl) (by simp) (AllReadyH.cons rfl (fun K hK => ?_) AllReadyH.nil)
        go_simp
        refine hK.out _ _ (by (try dsimp only); exact ⟨(World.cell?_alloc_lt _ _ _ (cell_below hHeld.1)).trans hHeld.1, (World.cell?_alloc_lt _ _ _ (cell_below hHeld.2)).trans hHeld.2⟩) (fun hHeld => ?_)
        clear hK K
        refine wpAnyH_ready (rs := [24]) (by kernel_rfl) (by simp) (AllReadyH.cons rfl (fun K hK => ?_) AllReadyH.nil)
        go_simp
        go_wp2_with ((go_at_call 64; have hn3 : W.heap.size + 1 < z0.heap.size := (by omega); refine (concatA_any (l1 := [am]) (by go_cell) (by go_cell) (by go_cell) (TA0.out.grow (by go_grown)) (inews_one (b := W.heap.size + 1) (by go_cell)) (TA2.out.grow (by go_grown)) (by simp; omega) (by simp; omega)).mono ?_; rintro e z1 ⟨vA, rfl, oA, bA⟩; rw [EA.out] at oA; obtain ⟨gA, cA, hA, -⟩ := oA.at (by rw [mergedA_length hj]; omega); subst hA; have BY : Below W.heap.size W z1 := Below.trans (by go_grown) (bA.mono (by go_size)); have OE := oE.grow (show Below z0.heap.size z0 z1 from Below.trans (by go_grown) (bA.mono (by go_size))); have hA0 : z0.heap.size ≤ gA := Nat.le_trans (by first | (simp; done) | (simp; omega)) (oA.lt gA rfl).1; have hA1 : W.heap.size ≤ z1.heap.size := BY.size; obtain ⟨q0, q1, q2, q3⟩ := below_two (w.heap.size + 1) _ _ BY y0 y1 y2 y3))
        refine hK.out _ _ (by (try dsimp only); exact ⟨(bA.cell (cell_below hHeld.1)).trans hHeld.1, (bA.cell (cell_below hHeld.2)).trans hHeld.2⟩) (fun hHeld => ?_)
        clear hK K
        refine take_h 25 43 rfl rfl (by kernel_rfl) (by kernel_rfl) (by kernel_rfl) (fun _ _ _ h => h) (by kernel_rfl) (by intro w hSw; (try dsimp only at hSw); go_simp; try with_reducible rfl) (by assumption) ?_
        refine wpAnyH_ready (rs := [26]) (by kernel_rfl) (by simp) (AllReadyH.cons rfl (fun K hK => ?_) AllReadyH.nil)
        go_simp
        refine hK.out _ _ (by (try dsimp only); exact ⟨by go_cell, by go_cell⟩) (fun hHeld => ?_)
        clear hK K
        refine wpAnyH_done (by kernel_rfl) ?_ _
        simp only [Exit.then]
        try simp only [Act.put, List.setIfInBounds_toArray, List.set_cons_succ, List.set_cons_zero]
        go_wp2_with fail
        refine back_rec1 4 rfl rfl (stored0 _ _ q0) (stored1 _ _ q1) rfl ?_
        exact merged_fin (OE.mono (by first | omega | (simp; done) | (simp; omega))) (oA.mono (by first | omega | (simp; done) | (simp; omega))) (by omega) (by have := B1.out; exact this.trans (BY.mono (by omega)))
      · go_simp
        refine hK.out _ _ (by (try dsimp only); exact ⟨(World.cell?_alloc_lt _ _ _ (cell_below hHeld.1)).trans hHeld.1, (World.cell?_alloc_lt _ _ _ (cell_below hHeld.2)).trans hHeld.2⟩) (fun hHeld => ?_)
        clear hK K
        refine wpAnyH_ready (rs := [11]) (by kernel_rfl) (by simp) (AllReadyH.cons rfl (fun K hK => ?_) AllReadyH.nil)
        go_simp
        go_wp2_with ((go_at_call 63; refine (concatE_any (by go_cell) (by go_cell) (TE0.out.grow (by go_grown)) (TE1.out.grow (by go_grown)) (by simp; omega) (by simp; omega)).mono ?_; rintro e z0 ⟨vE, rfl, oE, bE⟩; change IOwn _ _ _ (mergedE l j) at oE; obtain ⟨gE, cE, hE, -⟩ := oE.at (by rw [mergedE_length (by omega)]; omega); subst hE; have BZ : Below W.heap.size W z0 := Below.trans (by go_grown) (bE.mono (by go_size)); have hz0 : W.heap.size + 1 + 1 + 1 ≤ z0.heap.size := Nat.le_trans (by first | (simp; done) | (simp; omega)) bE.size; have hz00 : W.heap.size ≤ z0.heap.size := BZ.size; have hE0 := (oE.lt gE rfl).2; have kn0 : z0.cell? ⟨W.heap.size + 1, 0, none⟩ = some (.int .i64 am) := (bE.cell (p := ⟨W.heap.size + 1, 0, none⟩) (by first | (simp; done) | (simp; omega))).trans (by go_cell); have ks0 : z0.cell? ⟨W.heap.size + 1 + 1, 0, none⟩ = some (.slice (some ⟨g', o', none⟩) j c') := (bE.cell (p := ⟨W.heap.size + 1 + 1, 0, none⟩) (by first | (simp; done) | (simp; omega))).trans (by go_cell); have ks1 : z0.cell? ⟨W.heap.size + 1 + 1, 1, none⟩ = some (.slice (some ⟨W.heap.size + 1, 0, none⟩) 1 1) := (bE.cell (p := ⟨W.heap.size + 1 + 1, 1, none⟩) (by first | (simp; done) | (simp; omega))).trans (by go_cell); have ks2 : z0.cell? ⟨W.heap.size + 1 + 1, 2, none⟩ = some (.slice (some ad) (m.length - (j + 2)) (c' - (j + 2))) := (bE.cell (p := ⟨W.heap.size + 1 + 1, 2, none⟩) (by first | (simp; done) | (simp; omega))).trans (by go_cell)))
        refine hK.out _ _ (by (try dsimp only); exact ⟨(bE.cell (cell_below hHeld.1)).trans hHeld.1, (bE.cell (cell_below hHeld.2)).trans hHeld.2⟩) (fun hHeld => ?_)
        clear hK K
        refine wpAnyH_ready (rs := [24]) (by kernel_rfl) (by simp) (AllReadyH.cons rfl (fun K hK => ?_) AllReadyH.nil)
        go_simp
        go_wp2_with ((go_at_call 64; have hn3 : W.heap.size + 1 < z0.heap.size := (by omega); refine (concatA_any (l1 := [am]) (by go_cell) (by go_cell) (by go_cell) (TA0.out.grow (by go_grown)) (inews_one (b := W.heap.size + 1) (by go_cell)) (TA2.out.grow (by go_grown)) (by simp; omega) (by simp; omega)).mono ?_; rintro e z1 ⟨vA, rfl, oA, bA⟩; rw [EA.out] at oA; obtain ⟨gA, cA, hA, -⟩ := oA.at (by rw [mergedA_length hj]; omega); subst hA; have BY : Below W.heap.size W z1 := Below.trans (by go_grown) (bA.mono (by go_size)); have OE := oE.grow (show Below z0.heap.size z0 z1 from Below.trans (by go_grown) (bA.mono (by go_size))); have hA0 : z0.heap.size ≤ gA := Nat.le_trans (by first | (simp; done) | (simp; omega)) (oA.lt gA rfl).1; have hA1 : W.heap.size ≤ z1.heap.size := BY.size; obtain ⟨q0, q1, q2, q3⟩ := below_two (w.heap.size + 1) _ _ BY y0 y1 y2 y3))
        refine hK.out _ _ (by (try dsimp only); exact ⟨(bA.cell (cell_below hHeld.1)).trans hHeld.1, (bA.cell (cell_below hHeld.2)).trans hHeld.2⟩) (fun hHeld => ?_)
        clear hK K
        refine take_h 25 43 rfl rfl (by kernel_rfl) (by kernel_rfl) (by kernel_rfl) (fun _ _ _ h => h) (by kernel_rfl) (by intro w hSw; (try dsimp only at hSw); go_simp; try with_reducible rfl) (by assumption) ?_
        refine wpAnyH_ready (rs := [26]) (by kernel_rfl) (by simp) (AllReadyH.cons rfl (fun K hK => ?_) AllReadyH.nil)
        go_simp
        refine hK.out _ _ (by (try dsimp only); exact ⟨by go_cell, by go_cell⟩) (fun hHeld => ?_)
        clear hK K
        refine wpAnyH_done (by kernel_rfl) ?_ _
        simp only [Exit.then]
        try simp only [Act.put, List.setIfInBounds_toArray, List.set_cons_succ, List.set_cons_zero]
        go_wp2_with fail
        refine back_rec1 4 rfl rfl (stored0 _ _ q0) (stored1 _ _ q1) rfl ?_
        exact merged_fin (OE.mono (by first | omega | (simp; done) | (simp; omega))) (oA.mono (by first | omega | (simp; done) | (simp; omega))) (by omega) (by have := B1.out; exact this.trans (BY.mono (by omega)))
  · go_simp
    refine hK.out _ _ (by (try dsimp only); exact ⟨(World.cell?_alloc_lt _ _ _ (cell_below hHeld.1)).trans hHeld.1, (World.cell?_alloc_lt _ _ _ (cell_below hHeld.2)).trans hHeld.2⟩) (fun hHeld => ?_)
    clear hK K
    refine wpAnyH_ready (rs := [10, 23]) (by kernel_rfl) (by simp) (AllReadyH.cons rfl (fun K hK => ?_) (AllReadyH.cons rfl (fun K hK => ?_) AllReadyH.nil))
    · go_simp
      refine hK.out _ _ (by (try dsimp only); exact ⟨(World.cell?_alloc_lt _ _ _ (cell_below hHeld.1)).trans hHeld.1, (World.cell?_alloc_lt _ _ _ (cell_below hHeld.2)).trans hHeld.2⟩) (fun hHeld => ?_)
      clear hK K
      refine wpAnyH_ready (rs := [11, 23]) (by kernel_rfl) (by simp) (AllReadyH.cons rfl (fun K hK => ?_) (AllReadyH.cons rfl (fun K hK => ?_) AllReadyH.nil))
      · go_simp
        go_wp2_with ((go_at_call 63; refine (concatE_any (by go_cell) (by go_cell) (TE0.out.grow (by go_grown)) (TE1.out.grow (by go_grown)) (by simp; omega) (by simp; omega)).mono ?_; rintro e z0 ⟨vE, rfl, oE, bE⟩; change IOwn _ _ _ (mergedE l j) at oE; obtain ⟨gE, cE, hE, -⟩ := oE.at (by rw [mergedE_length (by omega)]; omega); subst hE; have BZ : Below W.heap.size W z0 := Below.trans (by go_grown) (bE.mono (by go_size)); have hz0 : W.heap.size + 1 + 1 ≤ z0.heap.size := Nat.le_trans (by first | (simp; done) | (simp; omega)) bE.size; have hz00 : W.heap.size ≤ z0.heap.size := BZ.size; have hE0 := (oE.lt gE rfl).2; have kn0 : z0.cell? ⟨W.heap.size, 0, none⟩ = some (.int .i64 am) := (bE.cell (p := ⟨W.heap.size, 0, none⟩) (by first | (simp; done) | (simp; omega))).trans (by go_cell)))
        refine hK.out _ _ (by (try dsimp only); exact ⟨(bE.cell (cell_below hHeld.1)).trans hHeld.1, (bE.cell (cell_below hHeld.2)).trans hHeld.2⟩) (fun hHeld => ?_)
        clear hK K
        refine wpAnyH_ready (rs := [23]) (by kernel_rfl) (by simp) (AllReadyH.cons rfl (fun K hK => ?_) AllReadyH.nil)
        go_simp
        refine hK.out _ _ (by (try dsimp only); exact ⟨(World.cell?_alloc_lt _ _ _ (cell_below hHeld.1)).trans hHeld.1, (World.cell?_alloc_lt _ _ _ (cell_below hHeld.2)).trans hHeld.2⟩) (fun hHeld => ?_)
        clear hK K
        refine wpAnyH_ready (rs := [24]) (by kernel_rfl) (by simp) (AllReadyH.cons rfl (fun K hK => ?_) AllReadyH.nil)
        go_simp
        go_wp2_with ((go_at_call 64; have hn3 : W.heap.size < z0.heap.size := (by omega); refine (concatA_any (l1 := [am]) (by go_cell) (by go_cell) (by go_cell) (TA0.out.grow (by go_grown)) (inews_one (b := W.heap.size) (by go_cell)) (TA2.out.grow (by go_grown)) (by simp; omega) (by simp; omega)).mono ?_; rintro e z1 ⟨vA, rfl, oA, bA⟩; rw [EA.out] at oA; obtain ⟨gA, cA, hA, -⟩ := oA.at (by rw [mergedA_length hj]; omega); subst hA; have BY : Below W.heap.size W z1 := Below.trans (by go_grown) (bA.mono (by go_size)); have OE := oE.grow (show Below z0.heap.size z0 z1 from Below.trans (by go_grown) (bA.mono (by go_size))); have hA0 : z0.heap.size ≤ gA := Nat.le_trans (by first | (simp; done) | (simp; omega)) (oA.lt gA rfl).1; have hA1 : W.heap.size ≤ z1.heap.size := BY.size; obtain ⟨q0, q1, q2, q3⟩ := below_two (w.heap.size + 1) _ _ BY y0 y1 y2 y3))
        refine hK.out _ _ (by (try dsimp only); exact ⟨(bA.cell (cell_below hHeld.1)).trans hHeld.1, (bA.cell (cell_below hHeld.2)).trans hHeld.2⟩) (fun hHeld => ?_)
        clear hK K
        refine take_h 25 43 rfl rfl (by kernel_rfl) (by kernel_rfl) (by kernel_rfl) (fun _ _ _ h => h) (by kernel_rfl) (by intro w hSw; (try dsimp only at hSw); go_simp; try with_reducible rfl) (by assumption) ?_
        refine wpAnyH_ready (rs := [26]) (by kernel_rfl) (by simp) (AllReadyH.cons rfl (fun K hK => ?_) AllReadyH.nil)
        go_simp
        refine hK.out _ _ (by (try dsimp only); exact ⟨by go_cell, by go_cell⟩) (fun hHeld => ?_)
        clear hK K
        refine wpAnyH_done (by kernel_rfl) ?_ _
        simp only [Exit.then]
        try simp only [Act.put, List.setIfInBounds_toArray, List.set_cons_succ, List.set_cons_zero]
        go_wp2_with fail
        refine back_rec1 4 rfl rfl (stored0 _ _ q0) (stored1 _ _ q1) rfl ?_
        exact merged_fin (OE.mono (by first | omega | (simp; done) | (simp; omega))) (oA.mono (by first | omega | (simp; done) | (simp; omega))) (by omega) (by have := B1.out; exact this.trans (BY.mono (by omega)))
      · go_simp
        refine hK.out _ _ (by (try dsimp only); exact ⟨(World.cell?_alloc_lt _ _ _ (cell_below hHeld.1)).trans hHeld.1, (World.cell?_alloc_lt _ _ _ (cell_below hHeld.2)).trans hHeld.2⟩) (fun hHeld => ?_)
        clear hK K
        refine wpAnyH_ready (rs := [11]) (by kernel_rfl) (by simp) (AllReadyH.cons rfl (fun K hK => ?_) AllReadyH.nil)
        go_simp
        go_wp2_with ((go_at_call 63; refine (concatE_any (by go_cell) (by go_cell) (TE0.out.grow (by go_grown)) (TE1.out.grow (by go_grown)) (by simp; omega) (by simp; omega)).mono ?_; rintro e z0 ⟨vE, rfl, oE, bE⟩; change IOwn _ _ _ (mergedE l j) at oE; obtain ⟨gE, cE, hE, -⟩ := oE.at (by rw [mergedE_length (by omega)]; omega); subst hE; have BZ : Below W.heap.size W z0 := Below.trans (by go_grown) (bE.mono (by go_size)); have hz0 : W.heap.size + 1 + 1 + 1 ≤ z0.heap.size := Nat.le_trans (by first | (simp; done) | (simp; omega)) bE.size; have hz00 : W.heap.size ≤ z0.heap.size := BZ.size; have hE0 := (oE.lt gE rfl).2; have kn0 : z0.cell? ⟨W.heap.size, 0, none⟩ = some (.int .i64 am) := (bE.cell (p := ⟨W.heap.size, 0, none⟩) (by first | (simp; done) | (simp; omega))).trans (by go_cell); have ks0 : z0.cell? ⟨W.heap.size + 1 + 1, 0, none⟩ = some (.slice (some ⟨g', o', none⟩) j c') := (bE.cell (p := ⟨W.heap.size + 1 + 1, 0, none⟩) (by first | (simp; done) | (simp; omega))).trans (by go_cell); have ks1 : z0.cell? ⟨W.heap.size + 1 + 1, 1, none⟩ = some (.slice (some ⟨W.heap.size, 0, none⟩) 1 1) := (bE.cell (p := ⟨W.heap.size + 1 + 1, 1, none⟩) (by first | (simp; done) | (simp; omega))).trans (by go_cell); have ks2 : z0.cell? ⟨W.heap.size + 1 + 1, 2, none⟩ = some (.slice (some ad) (m.length - (j + 2)) (c' - (j + 2))) := (bE.cell (p := ⟨W.heap.size + 1 + 1, 2, none⟩) (by first | (simp; done) | (simp; omega))).trans (by go_cell)))
        refine hK.out _ _ (by (try dsimp only); exact ⟨(bE.cell (cell_below hHeld.1)).trans hHeld.1, (bE.cell (cell_below hHeld.2)).trans hHeld.2⟩) (fun hHeld => ?_)
        clear hK K
        refine wpAnyH_ready (rs := [24]) (by kernel_rfl) (by simp) (AllReadyH.cons rfl (fun K hK => ?_) AllReadyH.nil)
        go_simp
        go_wp2_with ((go_at_call 64; have hn3 : W.heap.size < z0.heap.size := (by omega); refine (concatA_any (l1 := [am]) (by go_cell) (by go_cell) (by go_cell) (TA0.out.grow (by go_grown)) (inews_one (b := W.heap.size) (by go_cell)) (TA2.out.grow (by go_grown)) (by simp; omega) (by simp; omega)).mono ?_; rintro e z1 ⟨vA, rfl, oA, bA⟩; rw [EA.out] at oA; obtain ⟨gA, cA, hA, -⟩ := oA.at (by rw [mergedA_length hj]; omega); subst hA; have BY : Below W.heap.size W z1 := Below.trans (by go_grown) (bA.mono (by go_size)); have OE := oE.grow (show Below z0.heap.size z0 z1 from Below.trans (by go_grown) (bA.mono (by go_size))); have hA0 : z0.heap.size ≤ gA := Nat.le_trans (by first | (simp; done) | (simp; omega)) (oA.lt gA rfl).1; have hA1 : W.heap.size ≤ z1.heap.size := BY.size; obtain ⟨q0, q1, q2, q3⟩ := below_two (w.heap.size + 1) _ _ BY y0 y1 y2 y3))
        refine hK.out _ _ (by (try dsimp only); exact ⟨(bA.cell (cell_below hHeld.1)).trans hHeld.1, (bA.cell (cell_below hHeld.2)).trans hHeld.2⟩) (fun hHeld => ?_)
        clear hK K
        refine take_h 25 43 rfl rfl (by kernel_rfl) (by kernel_rfl) (by kernel_rfl) (fun _ _ _ h => h) (by kernel_rfl) (by intro w hSw; (try dsimp only at hSw); go_simp; try with_reducible rfl) (by assumption) ?_
        refine wpAnyH_ready (rs := [26]) (by kernel_rfl) (by simp) (AllReadyH.cons rfl (fun K hK => ?_) AllReadyH.nil)
        go_simp
        refine hK.out _ _ (by (try dsimp only); exact ⟨by go_cell, by go_cell⟩) (fun hHeld => ?_)
        clear hK K
        refine wpAnyH_done (by kernel_rfl) ?_ _
        simp only [Exit.then]
        try simp only [Act.put, List.setIfInBounds_toArray, List.set_cons_succ, List.set_cons_zero]
        go_wp2_with fail
        refine back_rec1 4 rfl rfl (stored0 _ _ q0) (stored1 _ _ q1) rfl ?_
        exact merged_fin (OE.mono (by first | omega | (simp; done) | (simp; omega))) (oA.mono (by first | omega | (simp; done) | (simp; omega))) (by omega) (by have := B1.out; exact this.trans (BY.mono (by omega)))
    · go_simp
      refine hK.out _ _ (by (try dsimp only); exact ⟨(World.cell?_alloc_lt _ _ _ (cell_below hHeld.1)).trans hHeld.1, (World.cell?_alloc_lt _ _ _ (cell_below hHeld.2)).trans hHeld.2⟩) (fun hHeld => ?_)
      clear hK K
      refine wpAnyH_ready (rs := [10]) (by kernel_rfl) (by simp) (AllReadyH.cons rfl (fun K hK => ?_) AllReadyH.nil)
      go_simp
      refine hK.out _ _ (by (try dsimp only); exact ⟨(World.cell?_alloc_lt _ _ _ (cell_below hHeld.1)).trans hHeld.1, (World.cell?_alloc_lt _ _ _ (cell_below hHeld.2)).trans hHeld.2⟩) (fun hHeld => ?_)
      clear hK K
      refine wpAnyH_ready (rs := [11]) (by kernel_rfl) (by simp) (AllReadyH.cons rfl (fun K hK => ?_) AllReadyH.nil)
      go_simp
      go_wp2_with ((go_at_call 63; refine (concatE_any (by go_cell) (by go_cell) (TE0.out.grow (by go_grown)) (TE1.out.grow (by go_grown)) (by simp; omega) (by simp; omega)).mono ?_; rintro e z0 ⟨vE, rfl, oE, bE⟩; change IOwn _ _ _ (mergedE l j) at oE; obtain ⟨gE, cE, hE, -⟩ := oE.at (by rw [mergedE_length (by omega)]; omega); subst hE; have BZ : Below W.heap.size W z0 := Below.trans (by go_grown) (bE.mono (by go_size)); have hz0 : W.heap.size + 1 + 1 + 1 ≤ z0.heap.size := Nat.le_trans (by first | (simp; done) | (simp; omega)) bE.size; have hz00 : W.heap.size ≤ z0.heap.size := BZ.size; have hE0 := (oE.lt gE rfl).2; have kn0 : z0.cell? ⟨W.heap.size, 0, none⟩ = some (.int .i64 am) := (bE.cell (p := ⟨W.heap.size, 0, none⟩) (by first | (simp; done) | (simp; omega))).trans (by go_cell); have ks0 : z0.cell? ⟨W.heap.size + 1, 0, none⟩ = some (.slice (some ⟨g', o', none⟩) j c') := (bE.cell (p := ⟨W.heap.size + 1, 0, none⟩) (by first | (simp; done) | (simp; omega))).trans (by go_cell); have ks1 : z0.cell? ⟨W.heap.size + 1, 1, none⟩ = some (.slice (some ⟨W.heap.size, 0, none⟩) 1 1) := (bE.cell (p := ⟨W.heap.size + 1, 1, none⟩) (by first | (simp; done) | (simp; omega))).trans (by go_cell); have ks2 : z0.cell? ⟨W.heap.size + 1, 2, none⟩ = some (.slice (some ad) (m.length - (j + 2)) (c' - (j + 2))) := (bE.cell (p := ⟨W.heap.size + 1, 2, none⟩) (by first | (simp; done) | (simp; omega))).trans (by go_cell)))
      refine hK.out _ _ (by (try dsimp only); exact ⟨(bE.cell (cell_below hHeld.1)).trans hHeld.1, (bE.cell (cell_below hHeld.2)).trans hHeld.2⟩) (fun hHeld => ?_)
      clear hK K
      refine wpAnyH_ready (rs := [24]) (by kernel_rfl) (by simp) (AllReadyH.cons rfl (fun K hK => ?_) AllReadyH.nil)
      go_simp
      go_wp2_with ((go_at_call 64; have hn3 : W.heap.size < z0.heap.size := (by omega); refine (concatA_any (l1 := [am]) (by go_cell) (by go_cell) (by go_cell) (TA0.out.grow (by go_grown)) (inews_one (b := W.heap.size) (by go_cell)) (TA2.out.grow (by go_grown)) (by simp; omega) (by simp; omega)).mono ?_; rintro e z1 ⟨vA, rfl, oA, bA⟩; rw [EA.out] at oA; obtain ⟨gA, cA, hA, -⟩ := oA.at (by rw [mergedA_length hj]; omega); subst hA; have BY : Below W.heap.size W z1 := Below.trans (by go_grown) (bA.mono (by go_size)); have OE := oE.grow (show Below z0.heap.size z0 z1 from Below.trans (by go_grown) (bA.mono (by go_size))); have hA0 : z0.heap.size ≤ gA := Nat.le_trans (by first | (simp; done) | (simp; omega)) (oA.lt gA rfl).1; have hA1 : W.heap.size ≤ z1.heap.size := BY.size; obtain ⟨q0, q1, q2, q3⟩ := below_two (w.heap.size + 1) _ _ BY y0 y1 y2 y3))
      refine hK.out _ _ (by (try dsimp only); exact ⟨(bA.cell (cell_below hHeld.1)).trans hHeld.1, (bA.cell (cell_below hHeld.2)).trans hHeld.2⟩) (fun hHeld => ?_)
      clear hK K
      refine take_h 25 43 rfl rfl (by kernel_rfl) (by kernel_rfl) (by kernel_rfl) (fun _ _ _ h => h) (by kernel_rfl) (by intro w hSw; (try dsimp only at hSw); go_simp; try with_reducible rfl) (by assumption) ?_
      refine wpAnyH_ready (rs := [26]) (by kernel_rfl) (by simp) (AllReadyH.cons rfl (fun K hK => ?_) AllReadyH.nil)
      go_simp
      refine hK.out _ _ (by (try dsimp only); exact ⟨by go_cell, by go_cell⟩) (fun hHeld => ?_)
      clear hK K
      refine wpAnyH_done (by kernel_rfl) ?_ _
      simp only [Exit.then]
      try simp only [Act.put, List.setIfInBounds_toArray, List.set_cons_succ, List.set_cons_zero]
      go_wp2_with fail
      refine back_rec1 4 rfl rfl (stored0 _ _ q0) (stored1 _ _ q1) rfl ?_
      exact merged_fin (OE.mono (by first | omega | (simp; done) | (simp; omega))) (oA.mono (by first | omega | (simp; done) | (simp; omega))) (by omega) (by have := B1.out; exact this.trans (BY.mono (by omega)))
end Go.Proofs.Ytkcbgeldnibjcaa
