/- The contracts of the ties of a matching: the program's and the model's. -/
import Derived.Test.YthhdpjkmjebjhabTieI
import Derived.Test.YthhdpjkmjebjhabEventJ
import Derived.Test.YthhdpjkmjebjhabTieSpec2
import Derived.Test.YthhdpjkmjebjhabEventMost
namespace Go.Proofs.Ythhdpjkmjebjhab
open Go.RowKit

theorem tofN_sub {a b : List Ev} {m : List Int} {n k : Nat} (h : n ≤ k) : (tofN a b m n).Sublist (tofN a b m k) := by
  unfold tofN
  exact List.Sublist.filterMap _ (List.range_sublist.2 h)
theorem tof_put {a b : List Ev} {tol : Int} {m : List Int} (h : okB a b tol m = true) {n : Nat} (hn : n < m.length) {x : Ti} (st : tofN a b m (n + 1) = tofN a b m n ++ [x]) (p q : Int) :
    ((p = x.1 ∧ q = x.2) ∨ (p ≠ x.1 ∧ (p, q) ∈ tofN a b m n)) ↔ (p, q) ∈ tofN a b m (n + 1) := by
  have up := (tof_up h).sublist (tofN_sub (show n + 1 ≤ m.length by omega))
  rw [st] at up ⊢
  rw [List.mem_append, List.mem_singleton]
  have lt := (List.pairwise_append.1 up).2.2
  constructor
  · rintro (⟨rfl, rfl⟩ | ⟨_, h⟩)
    · exact .inr rfl
    · exact .inl h
  · rintro (h | h)
    · refine .inr ⟨fun e => ?_, h⟩
      have := (lt _ h x (by simp)).1
      simp only at this; omega
    · exact .inl ⟨congrArg Prod.fst h, congrArg Prod.snd h⟩
theorem ev64 {l : List Ev} (h : isEv l = true) {j : Nat} (hj : j < l.length) : in64 l[j].1 := by
  have := (isEv_iff.1 h).2.1 _ (List.getElem_mem hj)
  exact in64_of (by omega) (by omega)
theorem okT_is {w : World} {v u x : Value} {a b : List Ev} {m : List Int} {tol : Int} {c : Bool} (h : Row w v a) (k : Row w u b) (hm : IRow w x m) (hc : okB a b tol m = c) :
    Calls Try.prog 48 #[v, u, .int .i64 tol, x] w fun e w' => Val w (.bool c) e w' := by
  have := implOk_any tol h k hm; rwa [hc] at this
set_option maxRecDepth 100000 in
set_option maxHeartbeats 1600000 in
theorem implOf_any {w : World} {v u x : Value} {a b : List Ev} {m : List Int} (tol : Int) (h : Row w v a) (k : Row w u b) (hm : IRow w x m) :
    Calls Try.prog 26 #[v, u, .int .i64 tol, x] w fun e w' => LstB TI w (ofT a b tol m) e w' := by
  obtain ⟨pa, ca, rfl, ha1, ha2⟩ := h.len
  obtain ⟨pb, cb, rfl, hb1, hb2⟩ := k.len
  obtain ⟨pm, cm, rfl, hm1, hm2⟩ := hm.len
  have H := Lib.hid h; have H' := Lib.hid k; have HM := Lib.hid hm
  unfold maxLen at ha2 hb2 hm2
  clear h k hm
  cases hc : okB a b tol m
  · have HC := Lib.hid hc
    have R := Lib.hid (ofT_no hc)
    clear hc
    go_enter Try.func26, Try.ntmps26
    go_wp2_with fail
    refine (okT_is H.out H'.out HM.out HC.out).mono ?_
    rintro e w1 ⟨rfl, b1⟩
    have O1 := lst_new w1 b1
    go_wp2_with fail
    go_ret2
    rw [R.out]
    exact ⟨_, rfl, O1.out.1, O1.out.2⟩
  have HC := Lib.hid hc
  have R := Lib.hid (ofT_yes hc)
  have hl := okB_len hc
  have MK := Lib.hid (okB_iff.1 hc).2
  have HL := Lib.hid hl
  have EA := Lib.hid (argsOk_iff.1 (okB_iff.1 hc).1).1
  have EB := Lib.hid (argsOk_iff.1 (okB_iff.1 hc).1).2.1
  have UP := Lib.hid (tof_up hc)
  have n8 := isEv_len EA.out
  clear hc hl
  go_enter Try.func26, Try.ntmps26
  go_wp2_with fail
  refine (okT_is H.out H'.out HM.out HC.out).mono ?_
  rintro e w1 ⟨rfl, b1⟩
  have mk := made_tieMap w1
  have T1 : Hid (IMt (w1.alloc (.map #[] 0)) w1.heap.size 0 (fun _ _ => False)) := Lib.hid (im_new _ _ w1)
  have B1 : Hid (Below w.heap.size w (w1.alloc (.map #[] 0))) := Lib.hid (b1.alloc b1.size _)
  have hz := b1.size
  clear b1
  go_wp2_with fail
  go_loopg [23] m.length (fun k y wr => ∃ j : Nat, y = .int .i64 j ∧ j + k = m.length ∧ IMt wr w1.heap.size j (fun x y => (x, y) ∈ tofN a b m j) ∧ Below w.heap.size w wr)
  case atStart => exact ⟨0, rfl, by omega, T1.out.iff fun x y => by simp [tofN_zero], B1.out⟩
  case round =>
    obtain ⟨j, rfl, hk, ho, hb⟩ := hrel
    have K := Lib.hid hk; have M := Lib.hid ho; have B := Lib.hid hb
    have hjl : j ≤ m.length := by omega
    clear hk ho hb
    by_cases hlt : j < m.length
    · obtain ⟨gm, om, c3, e3, _, _⟩ := HM.out.known (by omega)
      simp only [Value.slice.injEq, true_and] at e3
      obtain ⟨rfl, rfl⟩ := e3
      have d3 := HM.out.cells j hlt
      have j0 : (0 : Int) ≤ (j : Int) := by omega
      have j1 : (j : Int) < (m.length : Int) := by omega
      have hja : j < a.length := by have := HL.out; omega
      have j2 : (j : Int) < (a.length : Int) := by omega
      rcases MK.out.each j hlt (by rw [sizes_length]; exact hja) with hn | ⟨hn1, hn2, _⟩
      · have ST : Hid (tofN a b m (j + 1) = tofN a b m j) := Lib.hid (tofN_no hlt (by omega))
        rw [hn] at d3
        have y3 := (B.out.cell (cell_below d3)).trans d3
        clear hn
        go_wp2_with fail
        go_roundg (gk - 1)
        case measure => have := K.out; omega
        case rel => exact ⟨j + 1, by go_num, by have := K.out; omega, by rw [ST.out]; exact M.out.mono (by omega), B.out⟩
      · rw [sizes_length] at hn2
        obtain ⟨q, hq⟩ : ∃ q : Nat, m[j] = (q : Int) := ⟨m[j].toNat, by omega⟩
        have hqb : q < b.length := by omega
        obtain ⟨ga, oa, c1, e1, _, _⟩ := H.out.known (by omega)
        simp only [Value.slice.injEq, true_and] at e1
        obtain ⟨rfl, rfl⟩ := e1
        obtain ⟨gb, ob, c2, e2, _, _⟩ := H'.out.known (by omega)
        simp only [Value.slice.injEq, true_and] at e2
        obtain ⟨rfl, rfl⟩ := e2
        have d1 := (H.out.cells j hja).1
        have d4 := (H'.out.cells q hqb).1
        rw [hq] at d3
        have TP := Lib.hid (tof_put HC.out hlt (tofN_yes hlt hja hqb hq))
        have F1 := Lib.hid (ev64 EA.out hja); have F2 := Lib.hid (ev64 EB.out hqb)
        have q0 : (0 : Int) ≤ (q : Int) := by omega
        have q1 : (q : Int) < (b.length : Int) := by omega
        have q2 : ((q : Int) != -1) = true := by simp
        have y3 := (B.out.cell (cell_below d3)).trans d3
        clear hq hn1 hn2
        have hz7 := B.out.size
        have mkS : ∀ w' : World, Below w.heap.size w w' → (Below w.heap.size w w' ∧ w'.cell? ⟨ga, oa + j * 2, none⟩ = some (.int .i64 a[j].1) ∧ w'.cell? ⟨gb, ob + q * 2, none⟩ = some (.int .i64 b[q].1)) := fun w' h => ⟨h, (h.cell (cell_below d1)).trans d1, (h.cell (cell_below d4)).trans d4⟩
        have keep0 := mkS _ B.out.drew
        have x0 := keep0.2.1
        have x1 := keep0.2.2
        have MD : IMt wr.drew w1.heap.size j (fun x y => (x, y) ∈ tofN a b m j) := M.out.same rfl
        obtain ⟨w5, hrun, m5, g5⟩ := MD.store tieMapT (by unfold maxLen; omega) F1.out F2.out
        have M5 := Lib.hid m5
        have B5 := Lib.hid (Below.grown keep0.1 g5 (by simp; omega) (fun k hk => (by cases hk; omega)))
        have keep5 := mkS _ B5.out
        clear MD m5 g5 mkS
        go_wp2_with fail
        go_region_held3 (fun w' => (Below w.heap.size w w' ∧ w'.cell? ⟨ga, oa + j * 2, none⟩ = some (.int .i64 a[j].1) ∧ w'.cell? ⟨gb, ob + q * 2, none⟩ = some (.int .i64 b[q].1)))
          (first | (with_reducible exact keep0) | (with_reducible exact keep5))
          (fail)
        all_goals
          clear hrun keep0 keep5 x0 x1
          go_wp2_with fail
          go_roundg (gk - 1)
          case measure => have := K.out; omega
          case rel => exact ⟨j + 1, by go_num, by have := K.out; omega, M5.out.iff TP.out, B5.out⟩
    · have hj : j = m.length := by omega
      have ME : Hid (IMt wr w1.heap.size 24 (fun x y => (x, y) ∈ tof a b m)) := Lib.hid (by have := M.out.mono (n' := 24) (by have := HL.out; omega); rw [hj] at this; exact this)
      go_wp2_with fail
      refine (sortI_any ME.out (by omega)).mono ?_
      rintro e w5 ⟨x, L, rfl, o5, so, -, b5⟩
      have E : Hid (L = tof a b m) := Lib.hid (so.ord UP.out fun x => Iff.rfl)
      have O5 := Lib.hid (o5.mono B.out.size); have B5 := Lib.hid (B.out.trans (b5.mono B.out.size))
      clear o5 so b5
      go_wp2_with fail
      go_ret2
      rw [R.out]
      refine ⟨_, rfl, ?_, B5.out⟩
      rw [E.out] at O5
      exact O5.out
set_option maxRecDepth 100000 in
set_option maxHeartbeats 3200000 in
theorem specOf_any {w : World} {v u x : Value} {a b : List Ev} {m : List Int} (tol : Int) (h : Row w v a) (k : Row w u b) (hm : IRow w x m) :
    Calls Try.prog 27 #[v, u, .int .i64 tol, x] w fun e w' => LstB TT w (ofT a b tol m) e w' := by
  obtain ⟨pa, ca, rfl, ha1, ha2⟩ := h.len
  obtain ⟨pb, cb, rfl, hb1, hb2⟩ := k.len
  obtain ⟨pm, cm, rfl, hm1, hm2⟩ := hm.len
  have H := Lib.hid h; have H' := Lib.hid k; have HM := Lib.hid hm
  unfold maxLen at ha2 hb2 hm2
  clear h k hm
  cases hc : okB a b tol m
  · have HC := Lib.hid hc
    have R := Lib.hid (ofT_no hc)
    clear hc
    go_enter Try.func27, Try.ntmps27
    go_wp2_with fail
    refine (okS_is (H.out.grow (by go_grown)) (H'.out.grow (by go_grown)) (HM.out.grow (by go_grown)) HC.out).mono ?_
    rintro e w1 ⟨rfl, b1⟩
    have O1 := Lib.hid ((own_new TT (w := w) (B := w.heap.size) (Nat.le_refl _)).grow b1)
    have B1 : Hid (Below w.heap.size w w1) := Lib.hid (Below.trans (by go_grown) (b1.mono (by go_size)))
    clear b1
    go_wp2_with fail
    go_ret2
    rw [R.out]
    exact ⟨_, rfl, O1.out, B1.out⟩
  have HC := Lib.hid hc
  have R := Lib.hid (ofT_yes hc)
  have hl := okB_len hc
  have MK := Lib.hid (okB_iff.1 hc).2
  have HL := Lib.hid hl
  have n8 := isEv_len (argsOk_iff.1 (okB_iff.1 hc).1).1
  have TL : Hid (∀ j, j ≤ m.length → (tofN a b m j).length ≤ 8) := Lib.hid (fun j hj => by rw [tofN_len a b m j hj]; have p : pairs (m.take j) ≤ (m.take j).length := List.countP_le_length; rw [List.length_take] at p; omega)
  clear hc hl
  go_enter Try.func27, Try.ntmps27
  go_wp2_with fail
  refine (okS_is (H.out.grow (by go_grown)) (H'.out.grow (by go_grown)) (HM.out.grow (by go_grown)) HC.out).mono ?_
  rintro e w1 ⟨rfl, b1⟩
  have O1 := Lib.hid ((own_new TT (w := w) (B := w.heap.size) (Nat.le_refl _)).grow b1)
  have B1 : Hid (Below w.heap.size w w1) := Lib.hid (Below.trans (by go_grown) (b1.mono (by go_size)))
  clear b1
  go_wp2_with fail
  go_loopg [10, 11] m.length (fun k x y wr => ∃ j : Nat, y = .int .i64 j ∧ j + k = m.length ∧ Own TT wr w.heap.size x (tofN a b m j) ∧ Below w.heap.size w wr)
  case atStart => exact ⟨0, rfl, by omega, O1.out, B1.out⟩
  case round =>
    obtain ⟨j, rfl, hk, ho, hb⟩ := hrel
    have K := Lib.hid hk; have O := Lib.hid ho; have B := Lib.hid hb
    have hjl : j ≤ m.length := by omega
    have tl := TL.out j hjl
    clear hk ho hb
    by_cases hlt : j < m.length
    · obtain ⟨gm, om, c3, e3, _, _⟩ := HM.out.known (by omega)
      simp only [Value.slice.injEq, true_and] at e3
      obtain ⟨rfl, rfl⟩ := e3
      have d3 := HM.out.cells j hlt
      have j0 : (0 : Int) ≤ (j : Int) := by omega
      have j1 : (j : Int) < (m.length : Int) := by omega
      have hja : j < a.length := by have := HL.out; omega
      have j2 : (j : Int) < (a.length : Int) := by omega
      rcases MK.out.each j hlt (by rw [sizes_length]; exact hja) with hn | ⟨hn1, hn2, _⟩
      · have ST : Hid (tofN a b m (j + 1) = tofN a b m j) := Lib.hid (tofN_no hlt (by omega))
        rw [hn] at d3
        have y3 := (B.out.cell (cell_below d3)).trans d3
        clear hn
        go_wp2_with fail
        go_roundg (gk - 1)
        case measure => have := K.out; omega
        case rel => exact ⟨j + 1, by go_num, by have := K.out; omega, by rw [ST.out]; exact O.out, B.out⟩
      · rw [sizes_length] at hn2
        obtain ⟨q, hq⟩ : ∃ q : Nat, m[j] = (q : Int) := ⟨m[j].toNat, by omega⟩
        have hqb : q < b.length := by omega
        obtain ⟨ga, oa, c1, e1, _, _⟩ := H.out.known (by omega)
        simp only [Value.slice.injEq, true_and] at e1
        obtain ⟨rfl, rfl⟩ := e1
        obtain ⟨gb, ob, c2, e2, _, _⟩ := H'.out.known (by omega)
        simp only [Value.slice.injEq, true_and] at e2
        obtain ⟨rfl, rfl⟩ := e2
        have d1 := (H.out.cells j hja).1
        have d4 := (H'.out.cells q hqb).1
        rw [hq] at d3
        have ST : Hid (tofN a b m j ++ [(a[j].1, b[q].1)] = tofN a b m (j + 1)) := Lib.hid (tofN_yes hlt hja hqb hq).symm
        have q0 : (0 : Int) ≤ (q : Int) := by omega
        have q1 : (q : Int) < (b.length : Int) := by omega
        have y3 := (B.out.cell (cell_below d3)).trans d3
        clear hq hn1 hn2
        have hz7 := B.out.size
        have mkS : ∀ w' : World, Below w.heap.size w w' → (Below w.heap.size w w' ∧ w'.cell? ⟨ga, oa + j * 2, none⟩ = some (.int .i64 a[j].1) ∧ w'.cell? ⟨gm, om + j, none⟩ = some (.int .i64 (q : Int)) ∧ w'.cell? ⟨gb, ob + q * 2, none⟩ = some (.int .i64 b[q].1)) := fun w' h => ⟨h, (h.cell (cell_below d1)).trans d1, (h.cell (cell_below d3)).trans d3, (h.cell (cell_below d4)).trans d4⟩
        have keep0 := mkS _ B.out.drew
        have keepA := mkS _ (B.out.alloc hz7 (.cells #[.int .i64 a[j].1, .int .i64 b[q].1] TT)).drew
        obtain ⟨n1, n2⟩ := new_two_drew wr (.int .i64 a[j].1) (.int .i64 b[q].1) TT
        have N1 := Lib.hid n1; have N2 := Lib.hid n2
        have hown := O.out.lt
        have x0 := keep0.2.1
        have x1 := keep0.2.2.1
        have x2 := keep0.2.2.2
        clear n1 n2
        go_wp2_with fail
        go_region_held3 (fun w' => (Below w.heap.size w w' ∧ w'.cell? ⟨ga, oa + j * 2, none⟩ = some (.int .i64 a[j].1) ∧ w'.cell? ⟨gm, om + j, none⟩ = some (.int .i64 (q : Int)) ∧ w'.cell? ⟨gb, ob + q * 2, none⟩ = some (.int .i64 b[q].1)))
          (first | (with_reducible exact keep0) | (with_reducible exact keepA) | exact mkS _ (Below.grown keepA.1 hgrow (by simp; omega) (fun k hk => (hown k hk).1)))
          ((refine step_append_pair tieT (by rfl) _ _ (by rfl) (B := w.heap.size) _ _ (by rfl) (O.out.grow (by go_grown)) ⟨wr.heap.size, 0, none⟩ (a[j].1, b[q].1) (by rfl) N1.out N2.out (by omega) (by simp; omega) ?_; intro v5 w5 hown5 hgrow))
        all_goals
          rw [ST.out] at hown5
          have O5 := Lib.hid hown5
          have B5 := Lib.hid (Below.grown keepA.1 hgrow (by simp; omega) (fun k hk => (hown k hk).1))
          clear hown5 hgrow hown keep0 keepA mkS x0 x1 x2
          go_wp2_with fail
          go_roundg (gk - 1)
          case measure => have := K.out; omega
          case rel => exact ⟨j + 1, by go_num, by have := K.out; omega, O5.out, B5.out⟩
    · have hj : j = m.length := by omega
      have O6 : Hid (Own TT wr w.heap.size u10 (tof a b m)) := Lib.hid (by have := O.out; rwa [hj] at this)
      go_wp2_with fail
      go_ret2
      rw [R.out]
      exact ⟨_, rfl, O6.out, B.out⟩
end Go.Proofs.Ythhdpjkmjebjhab
