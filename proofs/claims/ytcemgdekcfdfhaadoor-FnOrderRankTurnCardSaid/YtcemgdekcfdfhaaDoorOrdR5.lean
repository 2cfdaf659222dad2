/- The program's OrderRank. -/
import Derived.Test.YtcemgdekcfdfhaaDoorOrdR3
import Derived.Test.YtcemgdekcfdfhaaDoorOrdR4
namespace Go.Proofs.YtcemgdekcfdfhaaDoor
open Go.RowKit

theorem rankOf_none {L : List UInt8} (h : partsOf L = none) : rankOf L = -1 := by
  unfold partsOf at h
  unfold rankOf
  cases c : sp L with
  | none => rfl
  | some ts =>
    rw [c] at h
    simp only at h ⊢
    split at h
    · cases h
    · rename_i k; rw [if_neg k]
theorem rankOf_some {L : List UInt8} {ts : List Tx} (h : sp L = some ts) (k : isPar (intA ts) (intB ts) = true) : rankOf L = (rks ts : Int) := by
  unfold rankOf; rw [h]; simp only; rw [if_pos k]
theorem rks_take_le {ts : List Tx} (h : Small (ts.map cts)) (h4 : ts.length ≤ 4) (j : Nat) : rks (ts.take j) ≤ 728933458176 := by
  have a := rks_lt (ts.take j)
  have b := cnt_four (ps := (ts.take j).map cts) (small_sub h fun p hp => by
    rw [List.map_take] at hp; exact List.mem_of_mem_take hp) (by simp; omega)
  omega
set_option maxRecDepth 100000 in
set_option maxHeartbeats 3200000 in
theorem rankImpl_any (L : List UInt8) (hL : L.length ≤ 1048600) {w : World} (hM : ML w) :
    Calls Tryd.prog 11 #[.string (str L)] w fun e w' => Val w (.int .i64 (rankOf L)) e w' := by
  have c0 := orders_any L hL hM
  go_enter Tryd.func11, Tryd.ntmps11
  go_wp2_with fail
  refine c0.mono ?_
  rintro e w1 (⟨hn, rfl, b1⟩ | ⟨ts, g, v, h1, h2, rfl, hc, hr, b1⟩)
  · have R := Lib.hid (rankOf_none hn)
    clear hn c0
    go_wp2_with fail
    go_ret
    exact ⟨by rw [R.out]; rfl, b1⟩
  · have R := Lib.hid (rankOf_some h1 h2)
    have W := Lib.hid (isPar_iff.1 h2)
    have t4 : ts.length ≤ 4 := by have := W.out.most; simpa [intA] using this
    have SM : Hid (Small (ts.map cts)) := Lib.hid (by have := W.out.small; rwa [par_int] at this)
    obtain ⟨av, cv, rfl, v1, v2, _⟩ := hr.parts
    rw [zip_len] at hr v1 ⊢
    have HR := Lib.hid hr; have B1 := Lib.hid b1; have HC := Lib.hid hc
    unfold maxLen at v2
    clear h1 h2 hc hr b1 c0
    go_wp2_with fail
    refine (countOrders_any _).mono ?_
    rintro e w2 ⟨gt, rfl, _, t2, b2⟩
    have B2 := Lib.hid (B1.out.trans (b2.mono B1.out.size))
    have HR2 := Lib.hid (HR.out.grow b2); have T2 := Lib.hid t2
    have HC2 : Hid (∀ j (h : j < ts.length), w2.cell? ⟨g, j, none⟩ = some (.string (str (body ts[j])))) := Lib.hid (fun j h => (b2.cell (cell_below (HC.out j h))).trans (HC.out j h))
    clear b2 t2 HC HR B1
    go_wp2_with fail
    go_loopg [7, 21] ts.length (fun k x y wr => ∃ j : Nat, y = .int .i64 j ∧ j + k = ts.length ∧ x = .int .i64 (rks (ts.take j) : Nat) ∧ Below w2.heap.size w2 wr)
    case atStart => exact ⟨0, rfl, by omega, by simp [rks], Below.refl _ _⟩
    case round =>
      obtain ⟨j, rfl, hk, rfl, hb⟩ := hrel
      have K := Lib.hid hk; have B := Lib.hid hb
      have hjl : j ≤ ts.length := by omega
      have hsz := hb.size
      clear hk hb
      by_cases hlt : j < ts.length
      · obtain ⟨gv, ov, c1, e1, _, _⟩ := HR2.out.known (by rw [zip_len]; omega)
        rw [zip_len] at e1
        simp only [Value.slice.injEq, true_and] at e1
        obtain ⟨rfl, rfl⟩ := e1
        obtain ⟨d1, d2⟩ := HR2.out.cells j (by rw [zip_len]; exact hlt)
        rw [zip_at ts j (by rw [zip_len]; exact hlt) hlt] at d1 d2
        have d3 := HC2.out j hlt
        have y1 := (B.out.cell (cell_below d1)).trans d1
        have y2 := (B.out.cell (cell_below d2)).trans d2
        have y3 := (B.out.cell (cell_below d3)).trans d3
        have i0 : (0 : Int) ≤ (j : Int) := by omega
        have i1 : (j : Int) < (ts.length : Int) := by omega
        have sm := SM.out (cts ts[j]) (List.mem_map_of_mem (List.getElem_mem hlt))
        have r1 := rks_take (ts := ts) hlt
        have l1 := rks_take_le SM.out t4 (j + 1)
        obtain ⟨t, ht⟩ : ∃ t, ts[j] = t := ⟨_, rfl⟩
        rw [ht] at y1 y2 y3 sm r1
        simp only [cts] at sm
        obtain ⟨m, hm⟩ : ∃ m, rks (ts.take j) = m := ⟨_, rfl⟩
        obtain ⟨m', hm'⟩ : ∃ m, rks (ts.take (j + 1)) = m := ⟨_, rfl⟩
        obtain ⟨c, hcc⟩ : ∃ c, ch (na t) (nb t) = c := ⟨_, rfl⟩
        obtain ⟨p, hpp⟩ : ∃ p, m * c = p := ⟨_, rfl⟩
        rw [hm, hm', hcc, hpp] at r1
        rw [hm'] at l1
        rw [hm]
        have HM' := Lib.hid hm'
        have CC : Hid (ch ((na t : Nat) : Int).toNat ((nb t : Nat) : Int).toNat = c) := Lib.hid (by simpa using hcc)
        have x6 : 0 ≤ ((na t : Nat) : Int) ∧ ((na t : Nat) : Int) ≤ 6 := by omega
        have z6 : 0 ≤ ((nb t : Nat) : Int) ∧ ((nb t : Nat) : Int) ≤ 6 := by omega
        have w1' : IntKind.i64.wrap ((m : Int) * (c : Int)) = (p : Int) := by rw [← Int.natCast_mul, hpp]; exact IntWalk.i64_in _ (by omega)
        have w2' : IntKind.i64.wrap ((p : Int) + ((rk t : Nat) : Int)) = (m' : Int) := by rw [r1]; push_cast; exact IntWalk.i64_in _ (by omega)
        obtain ⟨q1, q2, q3⟩ := new_pt wr (na t : Nat) (nb t : Nat)
        obtain ⟨w6, hw6⟩ : ∃ z, wr.alloc (.cells #[.int .i64 ((na t : Nat) : Int), .int .i64 ((nb t : Nat) : Int)] 49) = z := ⟨_, rfl⟩
        rw [hw6] at q1 q2 q3
        have q4 := (q3.cell (cell_below y3)).trans y3
        have B6 := Lib.hid (B.out.trans (q3.mono hsz))
        have T6 := Lib.hid (T2.out.grow B6.out)
        have mkS : ∀ w' : World, Below w6.heap.size w6 w' → (Below w6.heap.size w6 w' ∧ w'.cell? ⟨wr.heap.size, 0, none⟩ = some (.int .i64 ((na t : Nat) : Int)) ∧ w'.cell? ⟨wr.heap.size, 1, none⟩ = some (.int .i64 ((nb t : Nat) : Int)) ∧ w'.cell? ⟨g, j, none⟩ = some (.string (str (body t)))) := fun w' b => ⟨b, (b.cell (cell_below q1)).trans q1, (b.cell (cell_below q2)).trans q2, (b.cell (cell_below q4)).trans q4⟩
        clear d1 d2 d3 r1 hm hm' hcc hpp ht
        go_wp2_with fail
        refine wp_region_held_drew (S := (fun w' => (Below w6.heap.size w6 w' ∧ w'.cell? ⟨wr.heap.size, 0, none⟩ = some (.int .i64 ((na t : Nat) : Int)) ∧ w'.cell? ⟨wr.heap.size, 1, none⟩ = some (.int .i64 ((nb t : Nat) : Int)) ∧ w'.cell? ⟨g, j, none⟩ = some (.string (str (body t)))))) (by kernel_rfl) (by exact mkS _ (Below.refl _ _).drew) (fun hHeld => ?_)
        refine take_h 0 26 rfl rfl (by kernel_rfl) (by kernel_rfl) (by kernel_rfl) (fun _ _ _ h => h) (by kernel_rfl) (by intro w hSw; (try dsimp only at hSw); go_simp; try with_reducible rfl) (by assumption) ?_
        refine take_h 1 27 rfl rfl (by kernel_rfl) (by kernel_rfl) (by kernel_rfl) (fun _ _ _ h => h) (by kernel_rfl) (by intro w hSw; (try dsimp only at hSw); go_simp; try with_reducible rfl) (by assumption) ?_
        refine take_h 2 28 rfl rfl (by kernel_rfl) (by kernel_rfl) (by kernel_rfl) (fun _ _ _ h => h) (by kernel_rfl) (by intro w hSw; (try dsimp only at hSw); go_simp; try with_reducible rfl) (by assumption) ?_
        refine take_h 5 31 rfl rfl (by kernel_rfl) (by kernel_rfl) (by kernel_rfl) (fun _ _ _ h => h) (by kernel_rfl) (by intro w hSw; (try dsimp only at hSw); go_simp; try with_reducible rfl) (by assumption) ?_
        refine take_h 6 32 rfl rfl (by kernel_rfl) (by kernel_rfl) (by kernel_rfl) (fun _ _ _ h => h) (by kernel_rfl) (by intro w hSw; (try dsimp only at hSw); go_simp; try with_reducible rfl) (by assumption) ?_
        refine take_h 7 33 rfl rfl (by kernel_rfl) (by kernel_rfl) (by kernel_rfl) (fun _ _ _ h => h) (by kernel_rfl) (by intro w hSw; (try dsimp only at hSw); go_simp; try with_reducible rfl) (by assumption) ?_
        refine take_h 8 34 rfl rfl (by kernel_rfl) (by kernel_rfl) (by kernel_rfl) (fun _ _ _ h => h) (by kernel_rfl) (by intro w hSw; (try dsimp only at hSw); go_simp; try with_reducible rfl) (by assumption) ?_
        refine take_h 9 35 rfl rfl (by kernel_rfl) (by kernel_rfl) (by kernel_rfl) (fun _ _ _ h => h) (by kernel_rfl) (by intro w hSw; (try dsimp only at hSw); go_simp; try with_reducible rfl) (by assumption) ?_
        refine take_h 10 36 rfl rfl (by kernel_rfl) (by kernel_rfl) (by kernel_rfl) (fun _ _ _ h => h) (by kernel_rfl) (by intro w hSw; (try dsimp only at hSw); go_simp; try with_reducible rfl) (by assumption) ?_
        refine wpAnyH_ready (rs := [3]) (by kernel_rfl) (by simp) (AllReadyH.cons rfl (fun K hK => ?_) AllReadyH.nil)
        go_simp
        go_wp2_with ((go_at_call 26; refine (of_is (T6.out.grow hHeld.1) x6 z6 CC.out).mono ?_; rintro e w8 ⟨rfl, b8⟩; have b8' := Below.trans hHeld.1 (b8.mono hHeld.1.size)))
        refine hK.out _ _ (by (try dsimp only); exact mkS _ b8') (fun hHeld => ?_)
        clear hK K
        refine take_h 4 30 rfl rfl (by kernel_rfl) (by kernel_rfl) (by kernel_rfl) (fun _ _ _ h => h) (by kernel_rfl) (by intro w hSw; (try dsimp only at hSw); go_simp; try with_reducible rfl) (by assumption) ?_
        refine wpAnyH_ready (rs := [11]) (by kernel_rfl) (by simp) (AllReadyH.cons rfl (fun K hK => ?_) AllReadyH.nil)
        go_simp
        go_wp2_with ((go_at_call 33; refine (rankI_any (T6.out.grow hHeld.1) t (by omega) (by omega)).mono ?_; rintro e w9 ⟨rfl, b9⟩; have b9' := Below.trans hHeld.1 (b9.mono hHeld.1.size)))
        refine hK.out _ _ (by (try dsimp only); exact mkS _ b9') (fun hHeld => ?_)
        clear hK K
        refine take_h 12 38 rfl rfl (by kernel_rfl) (by kernel_rfl) (by kernel_rfl) (fun _ _ _ h => h) (by kernel_rfl) (by intro w hSw; (try dsimp only at hSw); go_simp; try with_reducible rfl) (by assumption) ?_
        refine take_h 13 7 rfl rfl (by kernel_rfl) (by kernel_rfl) (by kernel_rfl) (fun _ _ _ h => h) (by kernel_rfl) (by intro w hSw; (try dsimp only at hSw); go_simp; try with_reducible rfl) (by assumption) ?_
        refine wpAnyH_done (by kernel_rfl) ?_ _
        try simp only [Exit.then]
        try simp only [Act.put, List.setIfInBounds_toArray, List.set_cons_succ, List.set_cons_zero]
        have B9 := Lib.hid (B6.out.trans (hHeld.1.mono B6.out.size))
        clear hHeld mkS q1 q2 q3 q4 y1 y2 y3
        go_wp2_with fail
        go_roundg (gk - 1)
        case measure => have := K.out; omega
        case rel => exact ⟨j + 1, by go_num, by have := K.out; omega, by rw [HM'.out], B9.out⟩
      · have E : Hid (ts.take j = ts) := Lib.hid (List.take_of_length_le (by omega))
        rw [E.out]
        go_wp2_with fail
        go_ret
        exact ⟨by rw [R.out]; rfl, B2.out.trans (B.out.mono B2.out.size)⟩
end Go.Proofs.YtcemgdekcfdfhaaDoor
