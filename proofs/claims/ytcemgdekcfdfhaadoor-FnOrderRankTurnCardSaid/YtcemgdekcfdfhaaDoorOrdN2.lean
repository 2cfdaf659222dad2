/- The program's OrderNth. -/
import Derived.Test.YtcemgdekcfdfhaaDoorOrdN
namespace Go.Proofs.YtcemgdekcfdfhaaDoor
open Go.RowKit

set_option maxRecDepth 100000 in
set_option maxHeartbeats 6400000 in
theorem nthImpl_any {w : World} {v u : Value} {a b : List Int} (n : Int) (h : IRow w v a) (k : IRow w u b) :
    Calls Tryd.prog 8 #[v, u, .int .i64 n] w fun e w' => NthB w (nthOf a b n) e w' := by
  obtain ⟨pa, ca, rfl, h1, h2⟩ := h.len
  obtain ⟨pb, cb, rfl, k1, k2⟩ := k.len
  have H := Lib.hid h; have H' := Lib.hid k
  unfold maxLen at h2 k2
  clear h k
  cases hp : isPar a b
  · have HP := Lib.hid hp
    have R : Hid (nthOf a b n = none) := Lib.hid (nth_no (.inl hp))
    clear hp
    go_enter Tryd.func8, Tryd.ntmps8
    go_wp2_with fail
    refine (partsI_no H.out H'.out HP.out).mono ?_
    rintro e w1 ⟨rfl, b1⟩
    go_wp2_with fail
    go_returns
    exact ⟨by rw [R.out]; rfl, b1⟩
  have HP := Lib.hid hp
  have W := Lib.hid (isPar_iff.1 hp)
  have OK := Lib.hid (okL_zip W.out)
  obtain ⟨all, hall⟩ : ∃ c, cnt (par a b) = c := ⟨_, rfl⟩
  have AL := Lib.hid hall
  have CN : Hid (cnt (pts (a.zip b)) = all) := Lib.hid (by rw [pts_zip]; exact hall)
  have cm := cnt_four W.out.small (by rw [par_length a b W.out.len]; exact W.out.most)
  rw [hall] at cm
  have most := W.out.most; have one := W.out.one
  have ZL : Hid ((a.zip b).length = a.length) := Lib.hid (by have := W.out.len; simp; omega)
  clear hp hall
  by_cases n0 : n < 0
  · have R : Hid (nthOf a b n = none) := Lib.hid (nth_no (.inr (.inl n0)))
    go_enter Tryd.func8, Tryd.ntmps8
    go_wp2_with fail
    refine (partsI_yes H.out H'.out HP.out).mono ?_
    rintro e w1 ⟨xv, rfl, r1, b1⟩
    have B1 := Lib.hid b1; have R1 := Lib.hid r1
    clear b1 r1
    go_wp2_with fail
    refine (countOrders_any _).mono ?_
    rintro e w2 ⟨g, rfl, _, t2, b2⟩
    have B2 := Lib.hid (B1.out.trans (b2.mono B1.out.size)); have R2 := Lib.hid (R1.out.grow b2); have T2 := Lib.hid t2
    clear b2 t2
    go_wp2_with fail
    refine (ofAll_is T2.out R2.out OK.out CN.out).mono ?_
    rintro e w3 ⟨rfl, b3⟩
    have B3 := Lib.hid (B2.out.trans (b3.mono B2.out.size))
    clear b3
    go_wp2_with fail
    go_returns
    exact ⟨by rw [R.out]; rfl, B3.out⟩
  by_cases n1 : (all : Int) ≤ n
  · have R : Hid (nthOf a b n = none) := Lib.hid (nth_no (.inr (.inr (by rw [AL.out]; exact n1))))
    have n0' : decide (n < 0) = false := decide_eq_false n0
    clear n0
    go_enter Tryd.func8, Tryd.ntmps8
    go_wp2_with fail
    refine (partsI_yes H.out H'.out HP.out).mono ?_
    rintro e w1 ⟨xv, rfl, r1, b1⟩
    have B1 := Lib.hid b1; have R1 := Lib.hid r1
    clear b1 r1
    go_wp2_with fail
    refine (countOrders_any _).mono ?_
    rintro e w2 ⟨g, rfl, _, t2, b2⟩
    have B2 := Lib.hid (B1.out.trans (b2.mono B1.out.size)); have R2 := Lib.hid (R1.out.grow b2); have T2 := Lib.hid t2
    clear b2 t2
    go_wp2_with fail
    refine (ofAll_is T2.out R2.out OK.out CN.out).mono ?_
    rintro e w3 ⟨rfl, b3⟩
    have B3 := Lib.hid (B2.out.trans (b3.mono B2.out.size))
    clear b3
    go_wp2_with fail
    go_returns
    exact ⟨by rw [R.out]; rfl, B3.out⟩
  obtain ⟨N, rfl⟩ : ∃ N : Nat, n = (N : Int) := ⟨n.toNat, by omega⟩
  obtain ⟨ts, hts⟩ : ∃ ts, txs (par a b) N = ts := ⟨_, rfl⟩
  have NL : N < cnt (par a b) := by rw [AL.out]; omega
  have R : Hid (nthOf a b (N : Int) = some (jn ts)) := Lib.hid (by
    unfold nthOf; rw [if_pos ⟨HP.out, by omega, by omega⟩, Int.toNat_natCast, hts])
  have TL : Hid (ts.length = a.length) := Lib.hid (by rw [← hts, txs_length, par_length a b W.out.len])
  have T12 : Hid (∀ t ∈ ts, t.length ≤ 12) := Lib.hid (fun t ht => by
    have m : cts t ∈ par a b := by rw [← txs_cts (par a b) N, hts]; exact List.mem_map_of_mem ht
    have := W.out.small _ m
    have := na_nb t
    simp only [cts] at *
    omega)
  have TS := Lib.hid hts; have NC := Lib.hid NL
  have n0' : decide ((N : Int) < 0) = false := decide_eq_false n0
  have n1' : decide (all ≤ N) = false := decide_eq_false (by omega)
  have SM := Lib.hid W.out.small
  clear n0 n1 hts NL
  go_enter Tryd.func8, Tryd.ntmps8
  go_wp2_with fail
  refine (partsI_yes H.out H'.out HP.out).mono ?_
  rintro e w1 ⟨xv, rfl, r1, b1⟩
  have B1 := Lib.hid b1; have R1 := Lib.hid r1
  clear b1 r1
  go_wp2_with fail
  refine (countOrders_any _).mono ?_
  rintro e w2 ⟨g, rfl, _, t2, b2⟩
  have B2 := Lib.hid (B1.out.trans (b2.mono B1.out.size)); have R2 := Lib.hid (R1.out.grow b2); have T2 := Lib.hid t2
  clear b2 t2 B1 R1
  go_wp2_with fail
  refine (ofAll_is T2.out R2.out OK.out CN.out).mono ?_
  rintro e w3 ⟨rfl, b3⟩
  have B3 := Lib.hid (B2.out.trans (b3.mono B2.out.size)); have R3 := Lib.hid (R2.out.grow b3); have T3 := Lib.hid (T2.out.grow b3)
  clear b3 B2 R2 T2
  obtain ⟨av, cv, rfl, v1, v2, _⟩ := R3.out.parts
  rw [ZL.out] at R3 v1 ⊢
  unfold maxLen at v2
  have BL : Hid (Below w3.heap.size w3 (w3.alloc (.cells #[] 9))) := Lib.hid (by go_grown)
  go_wp2_with fail
  go_loopg [2, 11, 12, 37] a.length (fun k x y z t wr => ∃ (j m d : Nat), t = .int .i64 j ∧ j + k = a.length ∧ x = .int .i64 m ∧ y = .int .i64 d ∧ cnt ((par a b).drop j) = d ∧ GrwV 9 wr w3.heap.size z ((ts.take j).map strV) ∧ txs ((par a b).drop j) m = ts.drop j ∧ m < d ∧ Below w3.heap.size w3 wr)
  case atStart => exact ⟨0, N, all, rfl, by omega, rfl, rfl, AL.out, .inl ⟨rfl, _, rfl⟩, TS.out, by rw [← AL.out]; exact NC.out, BL.out⟩
  case round =>
    obtain ⟨j, m, d, rfl, hk, rfl, rfl, hd, ho, ht, hm, hb⟩ := hrel
    have K := Lib.hid hk; have O := Lib.hid ho; have T := Lib.hid ht; have B := Lib.hid hb; have D := Lib.hid hd
    have hjl : j ≤ a.length := by omega
    have hsz := hb.size
    clear hk ho ht hb hd
    by_cases hlt : j < a.length
    · have hlb : j < b.length := by have := W.out.len; omega
      have hlp : j < (par a b).length := by rw [par_length a b W.out.len]; exact hlt
      have hlt2 : j < ts.length := by have := TL.out; omega
      obtain ⟨gv, ov, c1, e1, _, _⟩ := R3.out.known (by rw [ZL.out]; omega)
      rw [ZL.out] at e1
      simp only [Value.slice.injEq, true_and] at e1
      obtain ⟨rfl, rfl⟩ := e1
      obtain ⟨d1, d2⟩ := R3.out.cells j (by rw [ZL.out]; exact hlt)
      rw [zip_get a b j (by rw [ZL.out]; exact hlt) hlt hlb] at d1 d2
      have y1 := (B.out.cell (cell_below d1)).trans d1
      have y2 := (B.out.cell (cell_below d2)).trans d2
      have i0 : (0 : Int) ≤ (j : Int) := by omega
      have i1 : (j : Int) < (a.length : Int) := by omega
      have x6 := W.out.a6 j hlt; have y6 := W.out.b6 j hlb
      have td := txs_drop (ps := par a b) (j := j) (m := m) hlp
      have cd := cnt_drop (ps := par a b) (j := j) hlp
      rw [T.out, List.drop_eq_getElem_cons hlt2, List.cons.injEq] at td
      obtain ⟨td1, td2⟩ := td
      have tk := strV_take (ts := ts) (j := j) hlt2
      have bd := cnt_four (ps := (par a b).drop j) (small_sub SM.out fun p hp => List.mem_of_mem_drop hp) (by rw [List.length_drop, par_length a b W.out.len]; omega)
      have c1p := cnt_pos ((par a b).drop (j + 1))
      rw [par_get a b j hlp hlt hlb] at td1 cd
      simp only at td1 cd
      obtain ⟨r, hr⟩ : ∃ r, cnt ((par a b).drop (j + 1)) = r := ⟨_, rfl⟩
      rw [hr] at td1 td2 cd c1p
      rw [D.out] at cd bd
      obtain ⟨x, hx⟩ : ∃ x, a[j] = x := ⟨_, rfl⟩
      obtain ⟨y, hy⟩ : ∃ y, b[j] = y := ⟨_, rfl⟩
      simp only [hx] at y1 x6 td1 cd
      simp only [hy] at y2 y6 td1 cd
      obtain ⟨c, hc⟩ : ∃ c, ch x.toNat y.toNat = c := ⟨_, rfl⟩
      have cp := ch_pos x.toNat y.toNat
      rw [hc] at cd cp
      have qlt : m / r < c := by rw [Nat.div_lt_iff_lt_mul (by omega), ← cd]; exact hm
      have rm : m % r < r := Nat.mod_lt _ (by omega)
      have dle : m / r ≤ m := Nat.div_le_self m r
      have rb : r ≤ d := by rw [cd]; exact Nat.le_mul_of_pos_left r cp
      have ed : ((d : Int)).tdiv (c : Int) = (r : Int) := by rw [cd]; push_cast; exact Int.mul_tdiv_cancel_left _ (by omega)
      have e2 : ((m : Int).tdiv (r : Int)) = ((m / r : Nat) : Int) := by rw [Int.tdiv_eq_ediv_of_nonneg (by omega)]; exact (Int.natCast_ediv m r).symm
      have e3 : ((m : Int).tmod (r : Int)) = ((m % r : Nat) : Int) := by rw [Int.tmod_eq_emod_of_nonneg (by omega)]; exact (Int.natCast_emod m r).symm
      obtain ⟨q, hq⟩ : ∃ q, m / r = q := ⟨_, rfl⟩
      obtain ⟨z, hz⟩ : ∃ z, m % r = z := ⟨_, rfl⟩
      rw [hq] at qlt td1 e2 dle
      rw [hz] at rm td2 e3
      obtain ⟨t, ht⟩ : ∃ t, body (tx x.toNat y.toNat q) = t := ⟨_, rfl⟩
      have HT := Lib.hid ht; have HC := Lib.hid hc; have HR := Lib.hid hr
      have QL : Hid (q < ch x.toNat y.toNat) := Lib.hid (by rw [hc]; exact qlt)
      have T2 := Lib.hid td2.symm
      have TK : Hid ((ts.take j).map strV ++ [.string (str t)] = (ts.take (j + 1)).map strV) := Lib.hid (by rw [← tk, td1, ← ht]; rfl)
      have wr1 : IntKind.i64.wrap (r : Int) = (r : Int) := IntWalk.i64_in _ (by omega)
      have wq : IntKind.i64.wrap (q : Int) = (q : Int) := IntWalk.i64_in _ (by omega)
      have wz : IntKind.i64.wrap (z : Int) = (z : Int) := IntWalk.i64_in _ (by omega)
      have c0 : ¬ c = 0 := by omega
      have r0 : ¬ r = 0 := by omega
      have RZ : Hid (z < r) := Lib.hid rm
      have lo : ((ts.take j).map strV).length ≤ 4 := by rw [List.length_map, List.length_take]; omega
      obtain ⟨p1, p2, p3⟩ := new_pt wr x y
      have T5 := Lib.hid (T3.out.grow (B.out.trans (p3.mono hsz)))
      have B5 := Lib.hid (B.out.trans (p3.mono hsz))
      have P3 := Lib.hid p3
      obtain ⟨w5, hw5⟩ : ∃ v, wr.alloc (.cells #[.int .i64 x, .int .i64 y] 49) = v := ⟨_, rfl⟩
      rw [hw5] at p1 p2 p3 T5 B5 P3
      have s5 : wr.heap.size + 1 ≤ w5.heap.size := by rw [← hw5]; simp
      have md : m ≤ 728933458176 := Nat.le_trans (Nat.le_of_lt hm) bd
      obtain ⟨f1, -⟩ := quo_nat ed (Nat.le_trans rb bd)
      obtain ⟨f2, f3⟩ := quo_nat e2 (Nat.le_trans dle md)
      obtain ⟨f4, f5⟩ := rem_nat e3 (Nat.le_trans (Nat.le_of_lt rm) (Nat.le_trans rb bd))
      clear d1 d2 td1 td2 tk bd cd c1p hr hx hy hc qlt dle hq hz ht rm hm
      have e2' := e2; have e3' := e3
      clear ed e2 e3
      go_wp2_with fail
      refine (of_is T5.out x6 y6 HC.out).mono ?_
      rintro e w6 ⟨rfl, b6⟩
      have q1 := (b6.cell (cell_below p1)).trans p1
      have q2 := (b6.cell (cell_below p2)).trans p2
      have O6 := Lib.hid (O.out.grow (p3.trans (b6.mono p3.size)))
      have B6 := Lib.hid (B5.out.trans (b6.mono B5.out.size))
      have T6 := Lib.hid (T5.out.grow b6)
      have s6 : wr.heap.size + 1 ≤ w6.heap.size := Nat.le_trans s5 b6.size
      have PW : Hid (wr.heap.size < w6.heap.size) := Lib.hid (by omega)
      clear b6 p1 p2 p3 hw5 P3 B5 T5
      have mkS : ∀ w' : World, w'.heap[wr.heap.size]? = w6.heap[wr.heap.size]? → Below w3.heap.size w6 w' → (Below w3.heap.size w6 w' ∧ w'.heap[wr.heap.size]? = w6.heap[wr.heap.size]? ∧ w'.cell? ⟨wr.heap.size, 0, none⟩ = some (.int .i64 x) ∧ w'.cell? ⟨wr.heap.size, 1, none⟩ = some (.int .i64 y)) := fun w' h b => ⟨b, h, (World.cell?_of_block (w := w6) (a := ⟨wr.heap.size, 0, none⟩) h).trans q1, (World.cell?_of_block (w := w6) (a := ⟨wr.heap.size, 1, none⟩) h).trans q2⟩
      go_wp2_with fail
      refine wp_region_held_drew (S := (fun w' => (Below w3.heap.size w6 w' ∧ w'.heap[wr.heap.size]? = w6.heap[wr.heap.size]? ∧ w'.cell? ⟨wr.heap.size, 0, none⟩ = some (.int .i64 x) ∧ w'.cell? ⟨wr.heap.size, 1, none⟩ = some (.int .i64 y)))) (by kernel_rfl) (by exact mkS _ rfl (Below.drew (Below.refl _ _))) (fun hHeld => ?_)
      refine take_h 0 46 rfl rfl (by kernel_rfl) (by kernel_rfl) (by kernel_rfl) (fun _ _ _ h => h) (by kernel_rfl) (by intro w hSw; (try dsimp only at hSw); go_simp; try with_reducible rfl) (by assumption) ?_
      refine take_h 1 47 rfl rfl (by kernel_rfl) (by kernel_rfl) (by kernel_rfl) (fun _ _ _ h => h) (by kernel_rfl) (by intro w hSw; (try dsimp only at hSw); go_simp; try with_reducible rfl) (by assumption) ?_
      refine take_h 2 48 rfl rfl (by kernel_rfl) (by kernel_rfl) (by kernel_rfl) (fun _ _ _ h => h) (by kernel_rfl) (by intro w hSw; (try dsimp only at hSw); go_simp; try with_reducible rfl) (by assumption) ?_
      refine take_h 3 49 rfl rfl (by kernel_rfl) (by kernel_rfl) (by kernel_rfl) (fun _ _ _ h => h) (by kernel_rfl) (by intro w hSw; (try dsimp only at hSw); go_simp; try with_reducible rfl) (by assumption) ?_
      refine take_h 4 50 rfl rfl (by kernel_rfl) (by kernel_rfl) (by kernel_rfl) (fun _ _ _ h => h) (by kernel_rfl) (by intro w hSw; (try dsimp only at hSw); go_simp; try with_reducible rfl) (by assumption) ?_
      refine take_h 5 51 rfl rfl (by kernel_rfl) (by kernel_rfl) (by kernel_rfl) (fun _ _ _ h => h) (by kernel_rfl) (by intro w hSw; (try dsimp only at hSw); go_simp; try with_reducible rfl) (by assumption) ?_
      refine wpAnyH_ready (rs := [6]) (by kernel_rfl) (by simp) (AllReadyH.cons rfl (fun K hK => ?_) AllReadyH.nil)
      go_simp
      go_wp2_with ((go_at_call 27; refine (nthI_is (T6.out.grow (below_drews (Below.refl _ _) 1)) x6 y6 QL.out HT.out).mono ?_; rintro e w8 ⟨rfl, b8⟩; have b8' : Below w6.heap.size w6 w8 := (below_drews (Below.refl _ _) 1).trans b8; have O8 := Lib.hid (O6.out.grow b8'); have S8 := Lib.hid (Nat.le_trans s6 b8'.size); have n8 := new_one w8 (.string (str t)) 9))
      refine hK.out _ _ (by (try dsimp only); exact mkS _ (b8'.block _ PW.out) (b8'.mono B6.out.size)) (fun hHeld => ?_)
      clear hK K
      refine wpAnyH_ready (rs := [7]) (by kernel_rfl) (by simp) (AllReadyH.cons rfl (fun K hK => ?_) AllReadyH.nil)
      go_simp
      refine hK.out _ _ (by (try dsimp only); exact mkS _ ((Below.heap_alloc w8 _ _ (by have := S8.out; omega)).trans hHeld.2.1) (Below.alloc hHeld.1 (Nat.le_trans B6.out.size hHeld.1.size) _)) (fun hHeld => ?_)
      clear hK K
      refine wpAnyH_ready (rs := [8]) (by kernel_rfl) (by simp) (AllReadyH.cons rfl (fun K hK => ?_) AllReadyH.nil)
      refine step_grwv strT rfl _ _ rfl (B := w3.heap.size) _ _ rfl (O8.out.grow (by go_grown)) ⟨w8.heap.size, 0, none⟩ (.string (str t)) rfl rfl n8 (by omega) (Nat.le_trans B6.out.size hHeld.1.size) ?_
      intro v7 w7 hown7 b7 far7
      refine hK.out _ _ (by (try dsimp only); exact mkS _ ((far7 _ (by simp; have := S8.out; omega) (by rcases O.out with h | h; exact .inl h; exact .inr (fun e => Nat.lt_irrefl _ (h.lt _ e).2))).trans hHeld.2.1) (Below.trans hHeld.1 b7)) (fun hHeld => ?_)
      clear hK K
      refine take_h 9 12 rfl rfl (by kernel_rfl) (by kernel_rfl) (by kernel_rfl) (fun _ _ _ h => h) (by kernel_rfl) (by intro w hSw; (try dsimp only at hSw); go_simp; try with_reducible rfl) (by assumption) ?_
      refine wpAnyH_done (by kernel_rfl) ?_ _
      simp only [Exit.then]
      have O9 := Lib.hid hown7
      rw [TK.out] at O9
      have B9 := Lib.hid (B6.out.trans hHeld.1)
      clear hown7 hHeld far7 b7 mkS
      go_wp2_with fail
      go_roundg (gk - 1)
      case measure => have := K.out; omega
      case rel => exact ⟨j + 1, z, r, by go_num, by have := K.out; omega, rfl, rfl, HR.out, .inr O9.out, T2.out, RZ.out, B9.out⟩
    · have R9 : Hid (GrwV 9 wr w3.heap.size u12 (ts.map strV)) := Lib.hid (by have := O.out; rwa [List.take_of_length_le (by rw [TL.out]; omega)] at this)
      go_wp2_with fail
      refine (join_any R9.out (by rw [TL.out]; omega) (by rw [TL.out]; omega) T12.out).mono ?_
      rintro e w9 ⟨rfl, b9⟩
      have B9 := Lib.hid (B3.out.trans ((B.out.trans (b9.mono hsz)).mono B3.out.size))
      clear b9
      go_wp2_with fail
      go_returns
      exact ⟨by rw [R.out]; rfl, B9.out⟩
end Go.Proofs.YtcemgdekcfdfhaaDoor
