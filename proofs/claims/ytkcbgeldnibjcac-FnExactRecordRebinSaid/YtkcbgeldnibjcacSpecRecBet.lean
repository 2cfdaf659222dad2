/- The contracts of the model's functions on records: the amount between two depths. -/
import Derived.Test.YtkcbgeldnibjcacSpecRec
import Derived.Test.YtkcbgeldnibjcacRecBetween
namespace Go.Proofs.Ytkcbgeldnibjcac
open Go.RowKit

theorem l11Whole_any (n : Int) (w : World) :
    Calls Try.prog 26 #[.int .i64 n] w fun e w' => e = .returned (.agg #[.int .i64 n, .int .i64 1]) ∧ Below w.heap.size w w' := by
  go_enter Try.func26, Try.ntmps26
  go_wp2
  go_returns
  exact ⟨rfl, by go_grown⟩
theorem isIn_bounds {t b : Int} (h0 : 0 ≤ t) (h1 : t ≤ b) (h2 : b ≤ 30000) : isIn t 0 30000 = true ∧ isIn b t 30000 = true := ⟨isIn_yes h0 (by omega), isIn_yes h1 h2⟩

/-- What a statement leaves that only reads: a word. -/
def Mid1 (v : Value) (w0 : World) (s : Value) (w : World) : Prop := s = v ∧ w = w0.drew
set_option maxRecDepth 100000 in
set_option maxHeartbeats 3200000 in
theorem specRecordBetween_any {w : World} {v u : Value} {l m : List Int} (t b : Int) (h : IRow w v l) (k : IRow w u m) :
    Calls Try.prog 7 #[v, u, .int .i64 t, .int .i64 b] w fun e w' => GotO (bet l m t b) w w' e := by
  cases hr : isRec l m
  · obtain ⟨a, c, rfl, h1, h2⟩ := h.len
    obtain ⟨a', c', rfl, h1', h2'⟩ := k.len
    have R := Lib.hid h; have RU := Lib.hid k
    have HR := Lib.hid hr
    have T := Lib.hid (bet_no_rec (t := t) (b := b) hr)
    clear hr h k
    go_enter Try.func7, Try.ntmps7
    go_wp2_with fail
    refine (recS_is (R.out.grow (by go_grown)) (RU.out.grow (by go_grown)) HR.out).mono ?_
    rintro e w1 ⟨rfl, b1⟩
    have B1 : Hid (Below w.heap.size w w1) := Lib.hid (Below.trans (by go_grown) (b1.mono (by go_size)))
    obtain ⟨r0, r1, r2, r3⟩ := below_two w.heap.size (.int .i64 0) (.int .i64 0) b1 (by go_cell) (by go_cell) (by go_simp) (by go_simp)
    clear b1
    go_wp2_with fail
    refine back_frac 8 (x := .int .i64 0) (y := .int .i64 0) rfl rfl rfl (by go_cell) (by go_cell) rfl ?_
    exact gotO_no T.out (by have := B1.out; go_grown)
  have HL := Lib.hid (rec_len hr)
  have h20 : m.length ≤ 20 := HL.out.2.2
  obtain ⟨g, o, c, rfl, k1, k2⟩ := h.known (by have := HL.out; omega)
  obtain ⟨g', o', c', rfl, k1', k2'⟩ := k.known (by have := HL.out; omega)
  unfold maxLen at k2 k2'
  have R0 := Lib.hid h; have RU0 := Lib.hid k
  have HR := Lib.hid hr
  clear hr h k
  cases dt : isIn t 0 30000
  · have DT := Lib.hid dt
    have T : Hid (bet l m t b = none) := Lib.hid (by
      cases hb : bet l m t b with
      | none => rfl
      | some r =>
        have := bet_is hb
        rw [(isIn_bounds this.2.2.2.1 this.2.2.2.2.1 this.2.2.2.2.2).1] at dt; cases dt)
    clear dt
    go_enter Try.func7, Try.ntmps7
    go_wp2_with fail
    refine (recS_is (R0.out.grow (by go_grown)) (RU0.out.grow (by go_grown)) HR.out).mono ?_
    rintro e w1 ⟨rfl, b1⟩
    have B1 : Hid (Below w.heap.size w w1) := Lib.hid (Below.trans (by go_grown) (b1.mono (by go_size)))
    obtain ⟨r0, r1, r2, r3⟩ := below_two w.heap.size (.int .i64 0) (.int .i64 0) b1 (by go_cell) (by go_cell) (by go_simp) (by go_simp)
    clear b1
    go_wp2_with fail
    refine (l11Depth_is DT.out _).mono ?_
    rintro e w2 ⟨rfl, rfl⟩
    go_wp2_with fail
    refine back_frac 8 (x := .int .i64 0) (y := .int .i64 0) rfl rfl rfl (by go_cell) (by go_cell) rfl ?_
    exact gotO_no T.out (by have := B1.out; go_grown)
  have DT := Lib.hid dt
  clear dt
  cases db : isIn b t 30000
  · have DB := Lib.hid db
    have T : Hid (bet l m t b = none) := Lib.hid (by
      cases hb : bet l m t b with
      | none => rfl
      | some r =>
        have := bet_is hb
        rw [(isIn_bounds this.2.2.2.1 this.2.2.2.2.1 this.2.2.2.2.2).2] at db; cases db)
    clear db
    go_enter Try.func7, Try.ntmps7
    go_wp2_with fail
    refine (recS_is (R0.out.grow (by go_grown)) (RU0.out.grow (by go_grown)) HR.out).mono ?_
    rintro e w1 ⟨rfl, b1⟩
    have B1 : Hid (Below w.heap.size w w1) := Lib.hid (Below.trans (by go_grown) (b1.mono (by go_size)))
    obtain ⟨r0, r1, r2, r3⟩ := below_two w.heap.size (.int .i64 0) (.int .i64 0) b1 (by go_cell) (by go_cell) (by go_simp) (by go_simp)
    clear b1
    go_wp2_with fail
    refine (l11Depth_is DT.out _).mono ?_
    rintro e w2 ⟨rfl, rfl⟩
    go_wp2_with fail
    refine (l6In_is DB.out _).mono ?_
    rintro e w2 ⟨rfl, rfl⟩
    go_wp2_with fail
    refine back_frac 8 (x := .int .i64 0) (y := .int .i64 0) rfl rfl rfl (by go_cell) (by go_cell) rfl ?_
    exact gotO_no T.out (by have := B1.out; go_grown)
  have DB := Lib.hid db
  have t0 := (isIn_range DT.out).1
  have hT := (isIn_range DT.out).2
  have tb := (isIn_range db).1
  have b1 := (isIn_range db).2
  have hB : 0 ≤ b := by omega
  clear db
  rw [bet_yes_range HR.out t0 tb b1]
  go_enter Try.func7, Try.ntmps7
  go_wp2_with fail
  refine (recS_is (R0.out.grow (by go_grown)) (RU0.out.grow (by go_grown)) HR.out).mono ?_
  rintro e w1 ⟨rfl, b2⟩
  have B1 : Hid (Below w.heap.size w w1) := Lib.hid (Below.trans (by go_grown) (b2.mono (by go_size)))
  have S1 := ((St.start (Below.refl w.heap.size w)).alloc 0 0).next b2
  clear b2
  go_wp2_with fail
  refine (l11Depth_is DT.out _).mono ?_
  rintro e w2 ⟨rfl, rfl⟩
  go_wp2_with fail
  refine (l6In_is DB.out _).mono ?_
  rintro e w2 ⟨rfl, rfl⟩
  go_wp2_with fail
  refine (l11Whole_any _ _).mono ?_
  rintro e w2 ⟨rfl, b2⟩
  have hw2 : w.heap.size < w2.heap.size := by have := (S1.next b2).holds; simp only [Holds, and_true] at this; exact this.2.2.2.2
  have S2 := (S1.next b2).alloc 0 1
  have ne1 : ¬ w2.heap.size = w.heap.size := by omega
  have ne2 : ¬ w.heap.size = w2.heap.size := by omega
  clear b2 S1 B1
  go_wp2_with fail
  go_loopg [11] m.length (fun k x wr => ∃ (j : Nat) (n d : Int) (s : Rat), x = .int .i64 j ∧ j + k = m.length ∧ fv n d = true ∧ fq n d = s ∧ addAll t b l m = addUp t b s (l.getD j 0) (l.drop (j + 1)) (m.drop j) ∧ St w wr [(w2.heap.size, n, d), (w.heap.size, 0, 0)])
  case atStart => exact ⟨0, 0, 1, 0, rfl, by omega, fv_none, fq_none, addAll_start (by have := HL.out; omega), S2⟩
  case round =>
    obtain ⟨wv1, rfl⟩ : ∃ x, x = wr := ⟨wr, rfl⟩
    obtain ⟨j, n, d, s, rfl, hk, hf, hq, hin, S⟩ := hrel
    have K := Lib.hid hk; have HF := Lib.hid hf; have HQ := Lib.hid hq; have IN := Lib.hid hin
    have hjl : j ≤ m.length := by omega
    clear hk hf hq hin S2
    have R := Lib.hid (R0.out.grow S.below)
    have RU := Lib.hid (RU0.out.grow S.below)
    by_cases hlt : j < m.length
    · have hj1 : j + 1 < l.length := by have := HL.out; omega
      have i1 : (j : Int) < (m.length : Int) := by omega
      have i2 : (0 : Int) ≤ (j : Int) := by omega
      have i3 : (j : Int) < (l.length : Int) := by omega
      have i4 : (j : Int) + 1 < (l.length : Int) := by omega
      have i5 : (0 : Int) ≤ (j : Int) + 1 := by omega
      have i6 : ((j : Int) + 1).toNat = j + 1 := by omega
      have a0 : IntKind.i64.wrap ((j : Int) + 1) = (j : Int) + 1 := IntWalk.i64_in _ (by omega)
      have ra := edges_range (rec_edges HR.out) j (by omega)
      have rb := edges_range (rec_edges HR.out) (j + 1) hj1
      have rm := rec_amount HR.out j hlt
      have up := edges_up (rec_edges HR.out) j (j + 1) (by omega) hj1
      obtain ⟨sf, so, p0, p1⟩ := share_fits (t := t) (u := b) rm.1 rm.2 ra.1 up rb.2
      have e1 : IntKind.i64.wrap (m[j] * common t b l[j] l[j + 1]) = m[j] * common t b l[j] l[j + 1] := IntWalk.i64_in _ (by omega)
      have e2 : IntKind.i64.wrap (l[j + 1] - l[j]) = l[j + 1] - l[j] := IntWalk.i64_in _ (by omega)
      obtain ⟨x, hx⟩ : ∃ x : Int, (if l[j + 1] < b then l[j + 1] else b) = x := ⟨_, rfl⟩
      obtain ⟨y, hy⟩ : ∃ y : Int, (if t < l[j] then l[j] else t) = y := ⟨_, rfl⟩
      obtain ⟨z, hz⟩ : ∃ z : Int, x - y = z := ⟨_, rfl⟩
      have e3 : IntKind.i64.wrap z = z := IntWalk.i64_in _ (by rw [← hz, ← hx, ← hy]; split <;> split <;> omega)
      have hz2 : (if 0 < z then z else 0) = common t b l[j] l[j + 1] := by
        rw [← hz, ← hx, ← hy]; unfold common
        split <;> split <;> split <;> omega
      have ea := R.out.cells j (by omega)
      have eb := R.out.cells (j + 1) hj1
      have am := RU.out.cells j hlt
      have SF := Lib.hid sf; have SO := Lib.hid so
      have SP := Lib.hid (addUp_step (t := t) (u := b) (s := s) hj1 hlt)
      clear sf so p0 p1 ra rb rm up
      go_upto_region 7 with fail
      go_cut [12] (fun s wx => Mid1 (.int .i64 z) wv1 s wx)
      case first =>
        go_region_held3 (fun w' => w'.cell? ⟨g, o + j, none⟩ = some (.int .i64 l[j]) ∧ w'.cell? ⟨g, o + (j + 1), none⟩ = some (.int .i64 l[j + 1])) (first | go_keep) (fail)
        all_goals
          go_wp2
          go_meet
          exact ⟨rfl, rfl⟩
      case rest =>
        obtain ⟨rfl, rfl⟩ := hcut
        clear hx hy hz ea eb am e3
        have bd := (Below.refl wv1.heap.size wv1).drew
        replace S := S.drew
        replace R := Lib.hid (R.out.grow bd)
        replace RU := Lib.hid (RU.out.grow bd)
        have ea := R.out.cells j (by omega)
        have eb := R.out.cells (j + 1) hj1
        have am := RU.out.cells j hlt
        have r := S.holds
        simp only [Holds, and_true] at r
        go_upto_region 8 with fail
        generalize wv1.drew = W1 at S R RU ea eb am r ⊢
        go_cut [13, 14] (fun s0 s1 wx => TwoMid (true) (share t b m[j] l[j] l[j + 1]) W1 [] s0 s1 wx)
        case first =>
          have mkS : ∀ w' : World, Below W1.heap.size W1 w' → (Below W1.heap.size W1 w' ∧ w'.cell? ⟨g, o + j, none⟩ = some (.int .i64 l[j]) ∧ w'.cell? ⟨g, o + (j + 1), none⟩ = some (.int .i64 l[j + 1]) ∧ w'.cell? ⟨g', o' + j, none⟩ = some (.int .i64 m[j])) := fun w' b => ⟨b, (b.cell (cell_below ea)).trans ea, (b.cell (cell_below eb)).trans eb, (b.cell (cell_below am)).trans am⟩
          have held : ∀ W w' : World, Below W.heap.size W w' → (Below W1.heap.size W1 W ∧ W.cell? ⟨g, o + j, none⟩ = some (.int .i64 l[j]) ∧ W.cell? ⟨g, o + (j + 1), none⟩ = some (.int .i64 l[j + 1]) ∧ W.cell? ⟨g', o' + j, none⟩ = some (.int .i64 m[j])) → (Below W1.heap.size W1 w' ∧ w'.cell? ⟨g, o + j, none⟩ = some (.int .i64 l[j]) ∧ w'.cell? ⟨g, o + (j + 1), none⟩ = some (.int .i64 l[j + 1]) ∧ w'.cell? ⟨g', o' + j, none⟩ = some (.int .i64 m[j])) := fun W w' b h => mkS w' (h.1.trans (b.mono h.1.size))
          have heldSet : ∀ (W w' : World) (k' : Nat) (x y : Int), W1.heap.size ≤ k' → w' = (W.setCell ⟨k', 0, none⟩ (.int .i64 x)).setCell ⟨k', 1, none⟩ (.int .i64 y) → (Below W1.heap.size W1 W ∧ W.cell? ⟨g, o + j, none⟩ = some (.int .i64 l[j]) ∧ W.cell? ⟨g, o + (j + 1), none⟩ = some (.int .i64 l[j + 1]) ∧ W.cell? ⟨g', o' + j, none⟩ = some (.int .i64 m[j])) → (Below W1.heap.size W1 w' ∧ w'.cell? ⟨g, o + j, none⟩ = some (.int .i64 l[j]) ∧ w'.cell? ⟨g, o + (j + 1), none⟩ = some (.int .i64 l[j + 1]) ∧ w'.cell? ⟨g', o' + j, none⟩ = some (.int .i64 m[j])) := fun W w' k' x y hk e h => by
            subst e
            exact mkS _ ((h.1.setCell (p := ⟨k', 0, none⟩) hk _).setCell (p := ⟨k', 1, none⟩) hk _)
          have keep0 := mkS _ (Below.refl W1.heap.size W1).drew
          have keepY := mkS _ ((Below.refl W1.heap.size W1).alloc (Nat.le_refl _) (.cells #[.int .i64 0, .int .i64 0] 24)).drew
          have atR := fun (W : World) (h : (Below W1.heap.size W1 W ∧ W.cell? ⟨g, o + j, none⟩ = some (.int .i64 l[j]) ∧ W.cell? ⟨g, o + (j + 1), none⟩ = some (.int .i64 l[j + 1]) ∧ W.cell? ⟨g', o' + j, none⟩ = some (.int .i64 m[j]))) => R.out.grow h.1
          have atRU := fun (W : World) (h : (Below W1.heap.size W1 W ∧ W.cell? ⟨g, o + j, none⟩ = some (.int .i64 l[j]) ∧ W.cell? ⟨g, o + (j + 1), none⟩ = some (.int .i64 l[j + 1]) ∧ W.cell? ⟨g', o' + j, none⟩ = some (.int .i64 m[j]))) => RU.out.grow h.1
          have tok0 : True := trivial
          go_region_held3 (fun w' => (Below W1.heap.size W1 w' ∧ w'.cell? ⟨g, o + j, none⟩ = some (.int .i64 l[j]) ∧ w'.cell? ⟨g, o + (j + 1), none⟩ = some (.int .i64 l[j + 1]) ∧ w'.cell? ⟨g', o' + j, none⟩ = some (.int .i64 m[j]))) (first | exact keep0 | exact keepY | exact hs0 | (have _q := hs0; exact held _ _ ((Below.refl _ _).alloc (Nat.le_refl _) _) hs0) | (have _q := hs0; exact heldSet _ _ _ _ _ (by omega) rfl hs0)) (first | (go_at_call 27; refine (specFracOf_any _ _ _).mono ?_; rintro e x0 ⟨n5, d5, ok5, rfl, hr5, b0⟩; have hs0 := held _ _ b0 (by assumption); have hz0 := hs0.1.size; (first | (have zz := top_two (u := .int .i64 0) (v := .int .i64 0) (t := 24) b0) | (have zz := top_two_drew (u := .int .i64 0) (v := .int .i64 0) (t := 24) b0) | (replace zz := later_two b0 zz) | (have zz := later_two (k := W1.heap.size) (u := .int .i64 0) (v := .int .i64 0) b0 ⟨by go_cell, by go_cell, by go_simp, by go_simp, by simp; omega⟩) | skip); (try simp only [World.size_alloc] at zz)))
          all_goals
            clear keep0 keepY held heldSet
            have S5 : St W1 x0 [] := ⟨hs0.1, trivial⟩
            first
              | (
                  fail_if_success (have q := zz)
                  go_wp2
                  go_meet
                  exact TwoMid.mk (part_res SO.out hr5) (S5.alloc _ _))
              | (
                  go_wp2
                  go_meet
                  exact TwoMid.mk (part_res SO.out hr5) (St.put2 (St.put zz S5) (by omega) (by simp only [Apart]) _ _))
        case rest =>
          revert hcut
          revert wc
          intro wv2 hcut
          obtain ⟨k2, n9, d9, ok, rfl, rfl, hr, S5⟩ := hcut
          replace R := Lib.hid (R.out.grow S5.below)
          replace RU := Lib.hid (RU.out.grow S5.below)
          replace S := S.more S5
          clear S5
          clear r
          have r := S.holds
          simp only [Holds, and_true] at r
          try simp only [World.size_alloc] at r
          obtain ⟨rfl, hf9, hq9⟩ := res_got hr rfl SF.out
          have HF9 := Lib.hid hf9; have HQ9 := Lib.hid hq9
          clear hr hf9 hq9 ea eb am
          go_wp2_with fail
          refine (specFracAdd_any _ _ _ _ _).mono ?_
          rintro e wv3 ⟨n6, d6, ok6, rfl, hr6, b6⟩
          have S3 := (S.next b6).alloc n6 d6
          have hz6 := b6.size
          have hzk := r.1.2.2.2.2
          have hzw := r.2.1.2.2.2.2
          clear b6 S r R RU
          rcases hr6 with ⟨rfl, _, hf6, hq6⟩ | ⟨rfl, rfl, rfl, hno⟩
          · have HF6 := Lib.hid hf6; have HQ6 : Hid (fq n6 d6 = s + share t b m[j] l[j] l[j + 1]) := Lib.hid (by rw [hq6, HQ.out, HQ9.out])
            have IN6 : Hid (addAll t b l m = addUp t b (s + share t b m[j] l[j] l[j + 1]) (l.getD (j + 1) 0) (l.drop (j + 1 + 1)) (m.drop (j + 1))) := Lib.hid (by
              rw [IN.out, SP.out, SF.out, ← HQ6.out, fq_fits HF6.out]; rfl)
            have S6 := Lib.hid (St.put2 S3.tail.tail (by omega) (by simp only [Apart, and_true]; omega) n6 d6)
            have r3 := S3.holds
            simp only [Holds, and_true] at r3
            clear hf6 hq6 S3
            go_wp2_with fail
            go_roundg (gk - 1)
            case measure => have := K.out; omega
            case rel => exact ⟨j + 1, n6, d6, _, by go_num, by have := K.out; omega, HF6.out, HQ6.out, IN6.out, S6.out⟩
          · have AE : Hid (addAll t b l m = none) := Lib.hid (by
              rw [IN.out, SP.out, SF.out]
              rcases hno with hno | hno
              · rw [HF.out, HF9.out] at hno; cases hno
              · rw [HQ.out, HQ9.out] at hno; rw [hno]; rfl)
            have r3 := S3.holds
            simp only [Holds, and_true] at r3
            have B3 := Lib.hid S3.below
            clear hno S3
            go_wp2_with fail
            refine back_frac 8 (x := .int .i64 0) (y := .int .i64 0) rfl rfl rfl (by go_cell) (by go_cell) rfl ?_
            exact gotO_no AE.out (by have := B3.out; go_grown)
    · have hj : j = m.length := by omega
      have AE : Hid (addAll t b l m = some s) := Lib.hid (by rw [IN.out]; exact addUp_end (by omega))
      have r := S.holds
      simp only [Holds, and_true] at r
      obtain ⟨⟨q0, q1, q2, q3, q4⟩, x0, x1, x2, x3, x4⟩ := r
      go_wp2_with fail
      refine back_frac 8 rfl rfl rfl (stored0 _ _ x0) (stored1 _ _ x1) rfl ?_
      exact gotO_yes AE.out HF.out HQ.out (by have := S.below; go_grown)
end Go.Proofs.Ytkcbgeldnibjcac
