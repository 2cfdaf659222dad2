/- The program's OrderParts. -/
import Derived.Test.YtcemgdekcfdfhaaDoorOrdR2
import Derived.Test.YtcemgdekcfdfhaaDoorOrdParts
namespace Go.Proofs.YtcemgdekcfdfhaaDoor
open Go.RowKit

theorem parts_of_sp {L : List UInt8} {ts : List Tx} (h : sp L = some ts) (k : isPar (intA ts) (intB ts) = true) : partsOf L = some (intA ts, intB ts) := by
  unfold partsOf; rw [h]; simp only; rw [if_pos k]
theorem zip_at (ts : List Tx) (j : Nat) (h : j < ((intA ts).zip (intB ts)).length) (h2 : j < ts.length) : ((intA ts).zip (intB ts))[j] = ((na ts[j] : Int), (nb ts[j] : Int)) := by simp [intA, intB]
theorem zip_len (ts : List Tx) : ((intA ts).zip (intB ts)).length = ts.length := by simp [intA, intB]
theorem take_a {ts : List Tx} {j : Nat} (h : j < ts.length) : (intA ts).take j ++ [(na ts[j] : Int)] = (intA ts).take (j + 1) := by
  rw [List.take_succ_eq_append_getElem (by simpa [intA] using h)]; simp [intA]
theorem take_b {ts : List Tx} {j : Nat} (h : j < ts.length) : (intB ts).take j ++ [(nb ts[j] : Int)] = (intB ts).take (j + 1) := by
  rw [List.take_succ_eq_append_getElem (by simpa [intB] using h)]; simp [intB]
set_option maxRecDepth 100000 in
set_option maxHeartbeats 3200000 in
theorem partsImpl_any (L : List UInt8) (hL : L.length ≤ 1048600) {w : World} (hM : ML w) :
    Calls Tryd.prog 10 #[.string (str L)] w fun e w' => PartsB w (partsOf L) e w' := by
  have c0 := orders_any L hL hM
  go_enter Tryd.func10, Tryd.ntmps10
  go_wp2_with fail
  refine c0.mono ?_
  rintro e w1 (⟨hn, rfl, b1⟩ | ⟨ts, g, v, h1, h2, rfl, hc, hr, b1⟩)
  · have R := Lib.hid hn
    have N0 := newI w1 b1
    obtain ⟨wb, hwb⟩ : ∃ x, (w1.alloc (.cells #[] 3)).alloc (.cells #[] 3) = x := ⟨_, rfl⟩
    rw [hwb] at N0
    clear hn b1 c0
    go_wp2_with fail
    clear hwb
    go_loopg [8, 9, 22] 0 (fun k x y z wr => x = .slice (some ⟨w1.heap.size, 0, none⟩) 0 0 ∧ y = .slice (some ⟨w1.heap.size + 1, 0, none⟩) 0 0 ∧ z = .int .i64 0 ∧ wb = wr)
    case atStart => exact ⟨rfl, rfl, rfl, rfl⟩
    case round =>
      obtain ⟨rfl, rfl, rfl, rfl⟩ := hrel
      go_wp2_with fail
      go_returns
      rw [R.out]
      exact ⟨_, _, rfl, N0.out.1, N0.out.2.1, N0.out.2.2.1, N0.out.2.2.2⟩
  · have R := Lib.hid (parts_of_sp h1 h2)
    have N0 := newI w1 (Below.refl w1.heap.size w1)
    obtain ⟨av, cv, rfl, v1, v2, _⟩ := hr.parts
    rw [zip_len] at hr v1 ⊢
    have HR := Lib.hid hr; have B1 := Lib.hid b1
    have t4 : ts.length ≤ 4 := by have := (isPar_iff.1 h2).most; simpa [intA] using this
    unfold maxLen at v2
    obtain ⟨wb, hwb⟩ : ∃ x, (w1.alloc (.cells #[] 3)).alloc (.cells #[] 3) = x := ⟨_, rfl⟩
    rw [hwb] at N0
    have K0 : Hid (IBlk wb w1.heap.size (.slice (some ⟨w1.heap.size, 0, none⟩) 0 0) [] ∧ IBlk wb w1.heap.size (.slice (some ⟨w1.heap.size + 1, 0, none⟩) 0 0) []) := Lib.hid ⟨⟨N0.out.1, _, rfl⟩, ⟨N0.out.2.1, _, rfl⟩⟩
    clear h1 h2 hc hr b1 c0
    go_wp2_with fail
    clear hwb
    go_loopg [8, 9, 22] ts.length (fun k x y z wr => ∃ j : Nat, z = .int .i64 j ∧ j + k = ts.length ∧ IBlk wr w1.heap.size x ((intA ts).take j) ∧ IBlk wr w1.heap.size y ((intB ts).take j) ∧ Apt x y ∧ Below w1.heap.size w1 wr)
    case atStart => exact ⟨0, rfl, by omega, K0.out.1, K0.out.2, N0.out.2.2.1, N0.out.2.2.2⟩
    case round =>
      obtain ⟨j, rfl, hk, ho, hu, hx, hb⟩ := hrel
      have K := Lib.hid hk; have O := Lib.hid ho; have U := Lib.hid hu; have X := Lib.hid hx; have B := Lib.hid hb
      have hjl : j ≤ ts.length := by omega
      have hsz := hb.size
      clear hk ho hu hx hb
      by_cases hlt : j < ts.length
      · obtain ⟨gv, ov, c1, e1, _, _⟩ := HR.out.known (by rw [zip_len]; omega)
        rw [zip_len] at e1
        simp only [Value.slice.injEq, true_and] at e1
        obtain ⟨rfl, rfl⟩ := e1
        obtain ⟨d1, d2⟩ := HR.out.cells j (by rw [zip_len]; exact hlt)
        rw [zip_at ts j (by rw [zip_len]; exact hlt) hlt] at d1 d2
        have y1 := (B.out.cell (cell_below d1)).trans d1
        have y2 := (B.out.cell (cell_below d2)).trans d2
        have i0 : (0 : Int) ≤ (j : Int) := by omega
        have i1 : (j : Int) < (ts.length : Int) := by omega
        have TA := Lib.hid (take_a hlt); have TB' := Lib.hid (take_b hlt)
        have la : ((intA ts).take j).length ≤ 4 := by rw [List.length_take]; simp [intA]; omega
        have lb : ((intB ts).take j).length ≤ 4 := by rw [List.length_take]; simp [intB]; omega
        obtain ⟨x, hx⟩ : ∃ x : Int, (na ts[j] : Int) = x := ⟨_, rfl⟩
        obtain ⟨y, hy⟩ : ∃ x : Int, (nb ts[j] : Int) = x := ⟨_, rfl⟩
        rw [hx] at y1 TA
        rw [hy] at y2 TB'
        obtain ⟨q1, q2, q3⟩ := new_pt wr x y
        obtain ⟨w2, hw2⟩ : ∃ z, wr.alloc (.cells #[.int .i64 x, .int .i64 y] 49) = z := ⟨_, rfl⟩
        have s2 : wr.heap.size + 1 = w2.heap.size := by rw [← hw2]; simp
        rw [hw2] at q1 q2 q3
        have B2 := Lib.hid (B.out.trans (q3.mono hsz))
        have O2 := Lib.hid (O.out.grow q3); have U2 := Lib.hid (U.out.grow q3)
        have OL := Lib.hid (fun k hk => (O.out.own.lt k hk).2)
        have n1 := new_one w2 (.int .i64 x) 3
        have N1 := Lib.hid n1
        have BW := Lib.hid ((Below.refl w2.heap.size w2).alloc (Nat.le_refl _) (.cells #[.int .i64 x] 3))
        have C2 := Lib.hid ((BW.out.cell (cell_below q2)).trans q2)
        have z2 := B2.out.size
        clear d1 d2 hx hy n1 q3 q2
        go_wp2_with (at_builtin; refine iappend_blk inP rfl _ _ rfl (B := w1.heap.size) _ ((intA ts).take j) rfl (O2.out.grow BW.out) ⟨w2.heap.size, 0, none⟩ x rfl N1.out (by omega) (by simp; omega) ?_)
        intro v5 w5 o9 g9 h9
        have O5 := Lib.hid o9
        have UB := Lib.hid (U2.out.grow BW.out)
        have X5 : Hid (Apt v5 u9) := Lib.hid (X.out.new (w := w2.alloc (.cells #[.int .i64 x] 3)) (fun k hk => (UB.out.own.lt k hk).2) (by first | exact h9 | (rw [World.size_alloc]; exact h9)))
        have U5 := Lib.hid (UB.out.stays g9 X.out.symm)
        have B5 := Lib.hid (B2.out.trans ((BW.out.mono z2).trans ((O2.out.grow BW.out).own.below g9 (by simp; omega))))
        have c5 := (World.cell?_of_block (w := w2.alloc (.cells #[.int .i64 x] 3)) (a := ⟨wr.heap.size, 1, none⟩) (g9.block wr.heap.size (by simp; omega) (fun e => Nat.lt_irrefl _ (OL.out _ e.symm)))).trans C2.out
        rw [TA.out] at O5
        clear o9 g9 h9 N1 BW UB O2 U2 C2 q1
        have n1 := new_one w5 (.int .i64 y) 3
        have N1 := Lib.hid n1
        have BW := Lib.hid ((Below.refl w5.heap.size w5).alloc (Nat.le_refl _) (.cells #[.int .i64 y] 3))
        have z5 := B5.out.size
        clear n1
        go_wp2_with (at_builtin; refine iappend_blk inP rfl _ _ rfl (B := w1.heap.size) _ ((intB ts).take j) rfl (U5.out.grow BW.out) ⟨w5.heap.size, 0, none⟩ y rfl N1.out (by omega) (by simp; omega) ?_)
        intro v9 w9 o9 g9 h9
        have U9 := Lib.hid o9
        have UB := Lib.hid (O5.out.grow BW.out)
        have X9 : Hid (Apt v5 v9) := Lib.hid ((X5.out.symm.new (w := w5.alloc (.cells #[.int .i64 y] 3)) (fun k hk => (UB.out.own.lt k hk).2) (by first | exact h9 | (rw [World.size_alloc]; exact h9))).symm)
        have O9 := Lib.hid (UB.out.stays g9 X5.out)
        have B9 := Lib.hid (B5.out.trans ((BW.out.mono z5).trans ((U5.out.grow BW.out).own.below g9 (by simp; omega))))
        rw [TB'.out] at U9
        clear o9 g9 h9 N1 BW UB U5 O5
        go_wp2_with fail
        go_roundg (gk - 1)
        case measure => have := K.out; omega
        case rel => exact ⟨j + 1, by go_num, by have := K.out; omega, O9.out, U9.out, X9.out, B9.out⟩
      · have ea : Hid ((intA ts).take j = intA ts) := Lib.hid (List.take_of_length_le (by simp [intA]; omega))
        have eb : Hid ((intB ts).take j = intB ts) := Lib.hid (List.take_of_length_le (by simp [intB]; omega))
        rw [ea.out] at O
        rw [eb.out] at U
        go_wp2_with fail
        go_returns
        rw [R.out]
        exact ⟨_, _, rfl, O.out.own.mono B1.out.size, U.out.own.mono B1.out.size, X.out, B1.out.trans (B.out.mono B1.out.size)⟩
end Go.Proofs.YtcemgdekcfdfhaaDoor
