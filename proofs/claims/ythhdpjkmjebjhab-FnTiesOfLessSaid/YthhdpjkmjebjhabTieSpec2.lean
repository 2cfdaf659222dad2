/- The contracts of the model's functions on ties: ties that fit, joined, turned ties, ties through a second core, as a curve, of a matching. -/
import Derived.Test.YthhdpjkmjebjhabTieAll
import Derived.Test.YthhdpjkmjebjhabTieCurveB
namespace Go.Proofs.Ythhdpjkmjebjhab
open Go.RowKit

set_option maxHeartbeats 1600000 in
theorem specFit_any {w : World} {v u : Value} {a b : List Pc} (h : Row w v a) (k : Row w u b) :
    Calls Try.prog 52 #[v, u] w fun e w' => Val w (.bool (fitT a b)) e w' := by
  have H := Lib.hid h; have H' := Lib.hid k
  clear h k
  cases h1 : isTies a
  · have HA := Lib.hid h1
    have R : Hid (fitT a b = false) := Lib.hid (by unfold fitT; rw [h1]; rfl)
    clear h1
    go_enter Try.func52, Try.ntmps52
    go_wp2_with fail
    refine (tiesS_is H.out HA.out).mono ?_
    rintro e w1 ⟨rfl, b1⟩
    go_wp2_with fail
    go_ret
    exact ⟨by rw [R.out]; rfl, b1⟩
  have HA := Lib.hid h1
  cases h2 : isTies b
  · have HB := Lib.hid h2
    have R : Hid (fitT a b = false) := Lib.hid (by unfold fitT; rw [h1, h2]; rfl)
    clear h1 h2
    go_enter Try.func52, Try.ntmps52
    go_wp2_with fail
    refine (tiesS_is H.out HA.out).mono ?_
    rintro e w1 ⟨rfl, b1⟩
    go_wp2_with fail
    refine (tiesS_is (H'.out.grow b1) HB.out).mono ?_
    rintro e w2 ⟨rfl, b2⟩
    go_wp2_with fail
    go_ret
    exact ⟨by rw [R.out]; rfl, b1.trans (b2.mono b1.size)⟩
  have HB := Lib.hid h2
  have a12 := isTies_len h1
  have b12 := isTies_len h2
  obtain ⟨c, hc⟩ : ∃ c, ordT (mgT a b) = c := ⟨_, rfl⟩
  have HC := Lib.hid hc
  have R : Hid (fitT a b = c) := Lib.hid (by unfold fitT; rw [h1, h2, hc]; rfl)
  clear h1 h2 hc
  go_enter Try.func52, Try.ntmps52
  go_wp2_with fail
  refine (tiesS_is H.out HA.out).mono ?_
  rintro e w1 ⟨rfl, b1⟩
  go_wp2_with fail
  refine (tiesS_is (H'.out.grow b1) HB.out).mono ?_
  rintro e w2 ⟨rfl, b2⟩
  have B2 := Lib.hid (b1.trans (b2.mono b1.size))
  go_wp2_with fail
  refine (specAll_any (H.out.grow B2.out) (H'.out.grow B2.out) (by omega) (by omega)).mono ?_
  rintro e w3 ⟨x, rfl, o3, b3⟩
  have O3 := Lib.hid o3.row; have B3 := Lib.hid (B2.out.trans (b3.mono B2.out.size))
  clear o3 b3
  go_wp2_with fail
  refine (ordS_is O3.out HC.out).mono ?_
  rintro e w4 ⟨rfl, b4⟩
  go_wp2_with fail
  go_ret
  exact ⟨by rw [R.out]; rfl, B3.out.trans (b4.mono B3.out.size)⟩
theorem fitS_is {w : World} {v u : Value} {a b : List Pc} {c : Bool} (h : Row w v a) (k : Row w u b) (hc : fitT a b = c) : Calls Try.prog 52 #[v, u] w fun e w' => Val w (.bool c) e w' := by
  have := specFit_any h k
  rwa [hc] at this
set_option maxHeartbeats 1600000 in
theorem specJoin_any {w : World} {v u : Value} {a b : List Pc} (h : Row w v a) (k : Row w u b) :
    Calls Try.prog 31 #[v, u] w fun e w' => LstB TT w (joinT a b) e w' := by
  have H := Lib.hid h; have H' := Lib.hid k
  clear h k
  have O9 : ∀ w1 : World, Below w.heap.size w w1 → Hid (Own TT (w1.alloc (.cells #[] TT)) w.heap.size (.slice (some ⟨w1.heap.size, 0, none⟩) 0 0) [] ∧ Below w.heap.size w (w1.alloc (.cells #[] TT))) := fun w1 k => Lib.hid ⟨own_new TT k.size, k.alloc k.size _⟩
  have ON := Lib.hid O9
  clear O9
  cases h1 : fitT a b
  · have HF := Lib.hid h1
    have R : Hid (joinT a b = none) := Lib.hid (if_neg (by simp [h1]))
    clear h1
    go_enter Try.func31, Try.ntmps31
    go_wp2_with fail
    refine (fitS_is H.out H'.out HF.out).mono ?_
    rintro e w1 ⟨rfl, b1⟩
    have O1 := ON.out w1 b1
    go_wp2_with fail
    go_ret2
    rw [R.out]
    exact ⟨_, rfl, O1.out.1, O1.out.2⟩
  have HF := Lib.hid h1
  obtain ⟨f1, f2⟩ := fit_parts h1
  have a12 := isTies_len f1
  have b12 := isTies_len f2
  obtain ⟨_, _, f3⟩ := fitT_iff.1 h1
  have od := ordT_iff.1 ((mgT_ord (isTies_iff.1 f1).1 (isTies_iff.1 f2).1).2 f3)
  by_cases h12 : (mgT a b).length ≤ 12
  case neg =>
    have HV : Hid (isTies (mgT a b) = false) := Lib.hid (by cases hc : isTies (mgT a b); rfl; exact absurd (isTies_len hc) h12)
    have R : Hid (joinT a b = none) := Lib.hid (if_neg (by simp [h12]))
    clear h1 f1 f2 f3 od
    go_enter Try.func31, Try.ntmps31
    go_wp2_with fail
    refine (fitS_is H.out H'.out HF.out).mono ?_
    rintro e w1 ⟨rfl, b1⟩
    go_wp2_with fail
    refine (specAll_any (H.out.grow b1) (H'.out.grow b1) (by omega) (by omega)).mono ?_
    rintro e w2 ⟨x, rfl, o2, b2⟩
    have O2 := Lib.hid o2.row; have B2 := Lib.hid (b1.trans (b2.mono b1.size))
    clear o2 b2 b1
    go_wp2_with fail
    refine (tiesS_is O2.out HV.out).mono ?_
    rintro e w3 ⟨rfl, b3⟩
    have O1 := ON.out w3 (B2.out.trans (b3.mono B2.out.size))
    go_wp2_with fail
    go_ret2
    rw [R.out]
    exact ⟨_, rfl, O1.out.1, O1.out.2⟩
  have HV : Hid (isTies (mgT a b) = true) := Lib.hid (isTies_iff.2 ⟨od, h12⟩)
  have R : Hid (joinT a b = some (mgT a b)) := Lib.hid (if_pos ⟨h1, h12⟩)
  clear h1 f1 f2 f3 od
  go_enter Try.func31, Try.ntmps31
  go_wp2_with fail
  refine (fitS_is H.out H'.out HF.out).mono ?_
  rintro e w1 ⟨rfl, b1⟩
  go_wp2_with fail
  refine (specAll_any (H.out.grow b1) (H'.out.grow b1) (by omega) (by omega)).mono ?_
  rintro e w2 ⟨x, rfl, o2, b2⟩
  have O2 := Lib.hid o2.row; have B2 := Lib.hid (b1.trans (b2.mono b1.size))
  clear o2 b2 b1
  go_wp2_with fail
  refine (tiesS_is O2.out HV.out).mono ?_
  rintro e w3 ⟨rfl, b3⟩
  have B3 := Lib.hid (B2.out.trans (b3.mono B2.out.size))
  clear b3
  go_wp2_with fail
  refine (specAll_any (H.out.grow B3.out) (H'.out.grow B3.out) (by omega) (by omega)).mono ?_
  rintro e w4 ⟨y, rfl, o4, b4⟩
  have O4 := Lib.hid (o4.mono B3.out.size); have B4 := Lib.hid (B3.out.trans (b4.mono B3.out.size))
  clear o4 b4
  go_wp2_with fail
  go_ret2
  rw [R.out]
  exact ⟨_, rfl, O4.out, B4.out⟩
set_option maxRecDepth 100000 in
set_option maxHeartbeats 3200000 in
theorem specThr_any {w : World} {v u : Value} {a b : List Pc} (h : Row w v a) (k : Row w u b) :
    Calls Try.prog 14 #[v, u] w fun e w' => LstB TT w (thrT a b) e w' := by
  obtain ⟨pa, ca, rfl, ha1, ha2⟩ := h.len
  obtain ⟨pb, cb, rfl, hb1, hb2⟩ := k.len
  have H := Lib.hid h; have H' := Lib.hid k
  unfold maxLen at ha2 hb2
  clear h k
  cases h1 : isTies a
  · have HA := Lib.hid h1
    have R := Lib.hid (thrT_no (l := a) (k := b) (.inl h1))
    clear h1
    go_enter Try.func14, Try.ntmps14
    go_wp2_with fail
    refine (tiesS_is (H.out.grow (by go_grown)) HA.out).mono ?_
    rintro e w1 ⟨rfl, b1⟩
    have O1 := Lib.hid ((own_new TT (w := w) (B := w.heap.size) (Nat.le_refl _)).grow b1)
    have B1 : Hid (Below w.heap.size w w1) := Lib.hid (Below.trans (by go_grown) (b1.mono (by go_size)))
    clear b1
    go_wp2_with fail
    go_ret2
    rw [R.out]
    exact ⟨_, rfl, O1.out, B1.out⟩
  have HA := Lib.hid h1
  cases h2 : isTies b
  · have HB := Lib.hid h2
    have R := Lib.hid (thrT_no (l := a) (k := b) (.inr h2))
    clear h1 h2
    go_enter Try.func14, Try.ntmps14
    go_wp2_with fail
    refine (tiesS_is (H.out.grow (by go_grown)) HA.out).mono ?_
    rintro e w1 ⟨rfl, b1⟩
    have O1 := Lib.hid ((own_new TT (w := w) (B := w.heap.size) (Nat.le_refl _)).grow b1)
    have B1 : Hid (Below w.heap.size w w1) := Lib.hid (Below.trans (by go_grown) (b1.mono (by go_size)))
    clear b1
    go_wp2_with fail
    refine (tiesS_is (H'.out.grow B1.out) HB.out).mono ?_
    rintro e w2 ⟨rfl, b2⟩
    replace O1 := Lib.hid (O1.out.grow b2)
    replace B1 := Lib.hid (B1.out.trans (b2.mono B1.out.size))
    clear b2
    go_wp2_with fail
    go_ret2
    rw [R.out]
    exact ⟨_, rfl, O1.out, B1.out⟩
  have HB := Lib.hid h2
  have a12 := isTies_len h1
  have b12 := isTies_len h2
  have NL : Hid (∀ (p : Ti) (j : Nat), (nextT p (b.take j)).length ≤ 1) := Lib.hid (fun p j => next_len (isTies_iff.1 (isTies_take h2 j)).1.up)
  have TL : Hid (∀ j : Nat, (thr (a.take j) b).length ≤ 12) := Lib.hid (fun j => Nat.le_trans (thr_len (isTies_iff.1 h2).1.up) (by rw [List.length_take]; omega))
  have R := Lib.hid (thrT_yes h1 h2)
  clear h1 h2
  go_enter Try.func14, Try.ntmps14
  go_wp2_with fail
  refine (tiesS_is (H.out.grow (by go_grown)) HA.out).mono ?_
  rintro e w1 ⟨rfl, b1⟩
  have O1 := Lib.hid ((own_new TT (w := w) (B := w.heap.size) (Nat.le_refl _)).grow b1)
  have B1 : Hid (Below w.heap.size w w1) := Lib.hid (Below.trans (by go_grown) (b1.mono (by go_size)))
  clear b1
  go_wp2_with fail
  refine (tiesS_is (H'.out.grow B1.out) HB.out).mono ?_
  rintro e w2 ⟨rfl, b2⟩
  replace O1 := Lib.hid (O1.out.grow b2)
  replace B1 := Lib.hid (B1.out.trans (b2.mono B1.out.size))
  clear b2
  go_wp2_with fail
  go_loopg [6, 7] a.length (fun k x y wr => ∃ i : Nat, y = .int .i64 i ∧ i + k = a.length ∧ Own TT wr w.heap.size x (thr (a.take i) b) ∧ Below w.heap.size w wr)
  case atStart => exact ⟨0, rfl, by omega, O1.out, B1.out⟩
  case round =>
    obtain ⟨w5, rfl⟩ : ∃ x, x = wr := ⟨wr, rfl⟩
    obtain ⟨g1, rfl⟩ : ∃ g, g = gk := ⟨_, rfl⟩
    obtain ⟨i, rfl, hk, ho, hb⟩ := hrel
    have K1 := Lib.hid hk; have OO := Lib.hid ho; have BO := Lib.hid hb
    have hil : i ≤ a.length := by omega
    clear hk ho hb O1 B1
    by_cases hla : i < a.length
    · obtain ⟨ga, oa, c', e', _, _⟩ := H.out.known (by omega)
      simp only [Value.slice.injEq, true_and] at e'
      obtain ⟨rfl, rfl⟩ := e'
      obtain ⟨d1, d2⟩ := H.out.cells i hla
      have i0 : (0 : Int) ≤ (i : Int) := by omega
      have i1 : (i : Int) < (a.length : Int) := by omega
      go_wp2_with fail
      go_loopg [6, 8] b.length (fun k x y wr => ∃ j : Nat, y = .int .i64 j ∧ j + k = b.length ∧ Own TT wr w.heap.size x (thr (a.take i) b ++ nextT a[i] (b.take j)) ∧ Below w.heap.size w wr)
      case atStart => exact ⟨0, rfl, by omega, by simpa [nextT] using OO.out, BO.out⟩
      case round =>
        obtain ⟨j, rfl, hk, ho, hb⟩ := hrel
        have K := Lib.hid hk; have O := Lib.hid ho; have B := Lib.hid hb
        have hjl : j ≤ b.length := by omega
        have nl := NL.out a[i] j
        have tl := TL.out i
        clear hk ho hb
        by_cases hlt : j < b.length
        · obtain ⟨gb, ob, c'', e'', _, _⟩ := H'.out.known (by omega)
          simp only [Value.slice.injEq, true_and] at e''
          obtain ⟨rfl, rfl⟩ := e''
          obtain ⟨d3, d4⟩ := H'.out.cells j hlt
          have y2 := (B.out.cell (cell_below d2)).trans d2
          have y3 := (B.out.cell (cell_below d3)).trans d3
          have j0 : (0 : Int) ≤ (j : Int) := by omega
          have j1 : (j : Int) < (b.length : Int) := by omega
          by_cases hq : a[i].2 = b[j].1
          · have hq2 : (a[i].2 == b[j].1) = true := by simpa using hq
            have ST : Hid (thr (a.take i) b ++ nextT a[i] (b.take j) ++ [(a[i].1, b[j].2)] = thr (a.take i) b ++ nextT a[i] (b.take (j + 1))) := Lib.hid (by rw [next_yes hlt hq, List.append_assoc])
            clear hq
            go_wp2_with fail
            go_quiet (fail)
            clear y2 y3
            replace O := Lib.hid (O.out.drews nq)
            replace B := Lib.hid (below_drews B.out nq)
            obtain ⟨wy, hwy⟩ : ∃ x, wr.drewN nq = x := ⟨_, rfl⟩
            simp only [hwy] at O B ⊢
            clear hwy
            have hz7 := B.out.size
            have mkS : ∀ w' : World, Below w.heap.size w w' → (Below w.heap.size w w' ∧ w'.cell? ⟨ga, oa + i * 2, none⟩ = some (.int .i64 a[i].1) ∧ w'.cell? ⟨gb, ob + j * 2 + 1, none⟩ = some (.int .i64 b[j].2)) := fun w' h => ⟨h, (h.cell (cell_below d1)).trans d1, (h.cell (cell_below d4)).trans d4⟩
            have keep0 := mkS _ B.out.drew
            have keepA := mkS _ (B.out.alloc hz7 (.cells #[.int .i64 a[i].1, .int .i64 b[j].2] TT)).drew
            obtain ⟨n1, n2⟩ := new_two_drew wy (.int .i64 a[i].1) (.int .i64 b[j].2) TT
            have N1 := Lib.hid n1; have N2 := Lib.hid n2
            have hown := O.out.lt
            have x0 := keep0.2.1
            have x1 := keep0.2.2
            clear n1 n2
            go_wp2_with fail
            go_region_held3 (fun w' => (Below w.heap.size w w' ∧ w'.cell? ⟨ga, oa + i * 2, none⟩ = some (.int .i64 a[i].1) ∧ w'.cell? ⟨gb, ob + j * 2 + 1, none⟩ = some (.int .i64 b[j].2)))
              (first | (with_reducible exact keep0) | (with_reducible exact keepA) | exact mkS _ (Below.grown keepA.1 hgrow (by simp; omega) (fun k hk => (hown k hk).1)))
              ((refine step_append_pair tieT (by rfl) _ _ (by rfl) (B := w.heap.size) _ _ (by rfl) (O.out.grow (by go_grown)) ⟨wy.heap.size, 0, none⟩ (a[i].1, b[j].2) (by rfl) N1.out N2.out (by simp; omega) (by simp; omega) ?_; intro v5 w5 hown5 hgrow))
            all_goals
              rw [ST.out] at hown5
              have O5 := Lib.hid hown5
              have B5 := Lib.hid (Below.grown keepA.1 hgrow (by simp; omega) (fun k hk => (hown k hk).1))
              clear hown5 hgrow hown keep0 keepA mkS x0 x1
              go_wp2_with fail
              go_roundg (gk - 1)
              case measure => have := K.out; omega
              case rel => exact ⟨j + 1, by go_num, by have := K.out; omega, O5.out, B5.out⟩
          · have hq2 : (a[i].2 == b[j].1) = false := by simpa using hq
            have ST : Hid (nextT a[i] (b.take (j + 1)) = nextT a[i] (b.take j)) := Lib.hid (next_no hlt hq)
            clear hq
            go_wp2_with fail
            go_quiet (fail)
            go_wp2_with fail
            go_roundg (gk - 1)
            case measure => have := K.out; omega
            case rel => exact ⟨j + 1, by go_num, by have := K.out; omega, by rw [ST.out]; exact O.out.drews _, below_drews B.out _⟩
        · have hj : j = b.length := by omega
          have O6 : Hid (Own TT wr w.heap.size u6 (thr (a.take (i + 1)) b)) := Lib.hid (by have := O.out; rwa [hj, List.take_length, ← thr_step hla] at this)
          go_wp2_with fail
          go_roundg (g1 - 1)
          case measure => have := K1.out; omega
          case rel => exact ⟨i + 1, by go_num, by have := K1.out; omega, O6.out, B.out⟩
    · have hi : i = a.length := by omega
      have O6 : Hid (Own TT w5 w.heap.size u6 (thr a b)) := Lib.hid (by have := OO.out; rwa [hi, List.take_length] at this)
      go_wp2_with fail
      go_ret2
      rw [R.out]
      exact ⟨_, rfl, O6.out, BO.out⟩
theorem knT : PairT 68 32 := ⟨by kernel_rfl, Try.underlying32⟩
set_option maxRecDepth 100000 in
set_option maxHeartbeats 1600000 in
theorem specCur_any {w : World} {v : Value} {l : List Pc} (h : Row w v l) :
    Calls Try.prog 19 #[v] w fun e w' => LstB 68 w (curT l) e w' := by
  obtain ⟨a, c, rfl, h1, h2⟩ := h.len
  have H := Lib.hid h
  unfold maxLen at h2
  clear h
  cases hc : isTies l
  · have HC := Lib.hid hc
    have R := Lib.hid (curT_no (.inl hc))
    clear hc
    go_enter Try.func19, Try.ntmps19
    go_wp2_with fail
    refine (tiesS_is (H.out.grow (by go_grown)) HC.out).mono ?_
    rintro e w1 ⟨rfl, b1⟩
    have O1 := Lib.hid ((own_new 68 (w := w) (B := w.heap.size) (Nat.le_refl _)).grow b1)
    have B1 : Hid (Below w.heap.size w w1) := Lib.hid (Below.trans (by go_grown) (b1.mono (by go_size)))
    clear b1
    go_wp2_with fail
    go_ret2
    rw [R.out]
    exact ⟨_, rfl, O1.out, B1.out⟩
  · have HC := Lib.hid hc
    have h12 := isTies_len hc
    by_cases h2l : l.length < 2
    · have R : Hid (curT l = none) := Lib.hid (curT_no (.inr h2l))
      have i2 : (l.length : Int) < 2 := by omega
      clear hc
      go_enter Try.func19, Try.ntmps19
      go_wp2_with fail
      refine (tiesS_is (H.out.grow (by go_grown)) HC.out).mono ?_
      rintro e w1 ⟨rfl, b1⟩
      have O1 := Lib.hid ((own_new 68 (w := w) (B := w.heap.size) (Nat.le_refl _)).grow b1)
      have B1 : Hid (Below w.heap.size w w1) := Lib.hid (Below.trans (by go_grown) (b1.mono (by go_size)))
      clear b1
      go_wp2_with fail
      go_ret2
      rw [R.out]
      exact ⟨_, rfl, O1.out, B1.out⟩

    have i2 : ¬ (l.length : Int) < 2 := by omega
    have R := Lib.hid (curT_yes hc (by omega))
    clear hc
    go_enter Try.func19, Try.ntmps19
    go_wp2_with fail
    refine (tiesS_is (H.out.grow (by go_grown)) HC.out).mono ?_
    rintro e w1 ⟨rfl, b1⟩
    have O1 := Lib.hid ((own_new 68 (w := w) (B := w.heap.size) (Nat.le_refl _)).grow b1)
    have B1 : Hid (Below w.heap.size w w1) := Lib.hid (Below.trans (by go_grown) (b1.mono (by go_size)))
    clear b1
    go_wp2_with fail
    go_loopg [4, 5] l.length (fun k x y wr => ∃ j : Nat, y = .int .i64 j ∧ j + k = l.length ∧ Own 68 wr w.heap.size x (l.take j) ∧ Below w.heap.size w wr)
    case atStart => exact ⟨0, rfl, by omega, O1.out, B1.out⟩
    case round =>
      obtain ⟨j, rfl, hk, ho, hb⟩ := hrel
      have K := Lib.hid hk; have O := Lib.hid ho; have B := Lib.hid hb
      have hjl : j ≤ l.length := by omega
      clear hk ho hb
      by_cases hlt : j < l.length
      · obtain ⟨g, o, c', e', _, _⟩ := H.out.known (by omega)
        simp only [Value.slice.injEq, true_and] at e'
        obtain ⟨rfl, rfl⟩ := e'
        obtain ⟨d1, d2⟩ := H.out.cells j hlt
        have ST : Hid (l.take j ++ [(l[j].1, l[j].2)] = l.take (j + 1)) := Lib.hid (by rw [List.take_succ_eq_append_getElem hlt])
        have i0 : (0 : Int) ≤ (j : Int) := by omega
        have ltI : (j : Int) < (l.length : Int) := by omega
        have hz7 := B.out.size
        have mkS : ∀ w' : World, Below w.heap.size w w' → (Below w.heap.size w w' ∧ w'.cell? ⟨g, o + j * 2, none⟩ = some (.int .i64 l[j].1) ∧ w'.cell? ⟨g, o + j * 2 + 1, none⟩ = some (.int .i64 l[j].2)) := fun w' h => ⟨h, (h.cell (cell_below d1)).trans d1, (h.cell (cell_below d2)).trans d2⟩
        have keep0 := mkS _ B.out.drew
        have keepA := mkS _ (B.out.alloc hz7 (.cells #[.int .i64 l[j].1, .int .i64 l[j].2] 68)).drew
        obtain ⟨n1, n2⟩ := new_two_drew wr (.int .i64 l[j].1) (.int .i64 l[j].2) 68
        have N1 := Lib.hid n1; have N2 := Lib.hid n2
        have hown := O.out.lt
        have x0 := keep0.2.1
        have x1 := keep0.2.2
        clear n1 n2
        go_wp2_with fail
        go_region_held3 (fun w' => (Below w.heap.size w w' ∧ w'.cell? ⟨g, o + j * 2, none⟩ = some (.int .i64 l[j].1) ∧ w'.cell? ⟨g, o + j * 2 + 1, none⟩ = some (.int .i64 l[j].2)))
          (first | (with_reducible exact keep0) | (with_reducible exact keepA) | exact mkS _ (Below.grown keepA.1 hgrow (by simp; omega) (fun k hk => (hown k hk).1)))
          ((refine step_append_pair knT (by rfl) _ _ (by rfl) (B := w.heap.size) _ _ (by rfl) (O.out.grow (by go_grown)) ⟨wr.heap.size, 0, none⟩ (l[j].1, l[j].2) (by rfl) N1.out N2.out (by simp; omega) (by simp; omega) ?_; intro v5 w5 hown5 hgrow))
        all_goals
          rw [ST.out] at hown5
          have O5 := Lib.hid hown5
          have B5 := Lib.hid (Below.grown keepA.1 hgrow (by simp; omega) (fun k hk => (hown k hk).1))
          clear hown5 hgrow hown keep0 keepA mkS x0 x1
          go_wp2_with fail
          go_roundg (gk - 1)
          case measure => have := K.out; omega
          case rel => exact ⟨j + 1, by go_num, by have := K.out; omega, O5.out, B5.out⟩
      · have hj : j = l.length := by omega
        go_wp2_with fail
        go_ret2
        rw [R.out]
        refine ⟨_, rfl, ?_, B.out⟩
        have := O.out
        rwa [hj, List.take_length] at this
end Go.Proofs.Ythhdpjkmjebjhab
