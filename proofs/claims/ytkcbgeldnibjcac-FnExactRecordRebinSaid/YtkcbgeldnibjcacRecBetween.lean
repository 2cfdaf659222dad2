/- The contracts of the program's functions on records: the amount between two depths. -/
import Derived.Test.YtkcbgeldnibjcacRecImpl
import Derived.Test.YtkcbgeldnibjcacFracOps
import Derived.Test.YtkcbgeldnibjcacTopCut
namespace Go.Proofs.Ytkcbgeldnibjcac
open Go.RowKit

/-- A fraction, or none. -/
def GotO (o : Option Rat) (w w' : World) (e : Ending) : Prop := GotFrac o.isSome (o.getD 0) w w' e
theorem gotO_yes {o : Option Rat} {r : Rat} {w w' : World} {n d : Int} (h : o = some r) (hf : fv n d = true) (hq : fq n d = r) (hb : Below w.heap.size w w') : GotO o w w' (.returned (.tuple #[.agg #[.int .i64 n, .int .i64 d], .bool true])) := by
  subst h; exact ⟨n, d, true, rfl, Res.yes rfl hf hq, hb⟩
theorem gotO_no {o : Option Rat} {w w' : World} (h : o = none) (hb : Below w.heap.size w w') : GotO o w w' (.returned (.tuple #[.agg #[.int .i64 0, .int .i64 0], .bool false])) := by
  subst h; exact ⟨0, 0, false, rfl, Res.no (.inl rfl), hb⟩
theorem St.tail {w0 w : World} {a : Nat × Int × Int} {l : List (Nat × Int × Int)} (h : St w0 w (a :: l)) : St w0 w l := ⟨h.below, h.holds.2⟩
theorem St.more {w0 w w' : World} {L : List (Nat × Int × Int)} {b : Nat} {n d : Int} (h : St w0 w L) (k : St w w' [(b, n, d)]) : St w0 w' ((b, n, d) :: L) :=
  ⟨h.below.trans (k.below.mono h.below.size), k.holds.1, h.holds.next k.below⟩

/-- A cell holds a value. -/
def CellIs (w : World) (a : Addr) (v : Value) : Prop := w.cell? a = some v
theorem CellIs.grow {w w' : World} {a : Addr} {v : Value} (h : CellIs w a v) (k : Below w.heap.size w w') : CellIs w' a v := (k.cell (cell_below h)).trans h
set_option maxHeartbeats 3200000 in
theorem between_any {w : World} {v u : Value} {l m : List Int} (h : Rec w v u l m) (hr : isRec l m = true) {t b : Int} (t0 : 0 ≤ t) (tb : t ≤ b) (b1 : b ≤ 30000) :
    Calls Try.prog 30 #[.agg #[v, u], .int .i64 t, .int .i64 b] w fun e w' => GotO (addAll t b l m) w w' e := by
  have HL := Lib.hid (rec_len hr)
  have h20 : m.length ≤ 20 := HL.out.2.2
  obtain ⟨g, o, c, rfl, k1, k2⟩ := h.1.known (by have := HL.out; omega)
  obtain ⟨g', o', c', rfl, k1', k2'⟩ := h.2.known (by have := HL.out; omega)
  unfold maxLen at k2 k2'
  have H := Lib.hid h
  have HR := Lib.hid hr
  clear h hr
  have hT : t ≤ 30000 := by omega
  have hB : 0 ≤ b := by omega
  go_enter Try.func30, Try.ntmps30
  go_wp2_with fail
  go_loopg [18] m.length (fun k x wr => ∃ (j : Nat) (n d : Int) (s : Rat), x = .int .i64 j ∧ j + k = m.length ∧ fv n d = true ∧ fq n d = s ∧ addAll t b l m = addUp t b s (l.getD j 0) (l.drop (j + 1)) (m.drop j) ∧
    wr.cell? ⟨w.heap.size, 0, none⟩ = some (.slice (some ⟨g, o, none⟩) l.length c) ∧ St w wr [(w.heap.size + 1 + 1, n, d), (w.heap.size + 1, 0, 0)])
  case atStart =>
    refine ⟨0, 0, 1, 0, rfl, by omega, fv_none, fq_none, addAll_start (by have := HL.out; omega), by go_cell, ?_⟩
    have S := (((St.start (Below.refl w.heap.size w)).alloc1 #[.slice (some ⟨g, o, none⟩) l.length c, .slice (some ⟨g', o', none⟩) m.length c'] 48).alloc 0 0).alloc 0 1
    simpa only [World.size_alloc] using S
  case round =>
    obtain ⟨wv1, rfl⟩ : ∃ x, x = wr := ⟨wr, rfl⟩
    obtain ⟨j, n, d, s, rfl, hk, hf, hq, hin, c0, S⟩ := hrel
    have K := Lib.hid hk; have HF := Lib.hid hf; have HQ := Lib.hid hq; have IN := Lib.hid hin
    have hjl : j ≤ m.length := by omega
    clear hk hf hq hin
    have r := S.holds
    simp only [Holds, and_true] at r
    have R := Lib.hid (H.out.grow S.below)
    by_cases hlt : j < m.length
    · have d1 := R.out.2.cells j hlt
      have i1 : (j : Int) < (m.length : Int) := by omega
      have i2 : (0 : Int) ≤ (j : Int) := by omega
      have hj1 : j + 1 < l.length := by have := HL.out; omega
      have ra := edges_range (rec_edges HR.out) j (by omega)
      have rb := edges_range (rec_edges HR.out) (j + 1) hj1
      have rm := rec_amount HR.out j hlt
      obtain ⟨sf, so, p0, p1⟩ := share_fits (t := t) (u := b) rm.1 rm.2 ra.1 (edges_up (rec_edges HR.out) j (j + 1) (by omega) hj1) rb.2
      have e1 : IntKind.i64.wrap (m[j] * common t b l[j] l[j + 1]) = m[j] * common t b l[j] l[j + 1] := IntWalk.i64_in _ (by omega)
      have SF := Lib.hid sf; have SO := Lib.hid so
      have SP := Lib.hid (addUp_step (t := t) (u := b) (s := s) hj1 hlt)
      clear sf so p0 p1 ra rb rm
      have CR : Hid (CellIs wv1 ⟨w.heap.size, 0, none⟩ (.slice (some ⟨g, o, none⟩) l.length c)) := Lib.hid c0
      go_upto_region 5 with fail
      go_cut [12, 13] (fun s0 s1 wx => TwoMid (true) (share t b m[j] l[j] l[j + 1]) wv1 [] s0 s1 wx)
      case first =>
        have mkS : ∀ w' : World, Below wv1.heap.size wv1 w' → (Below wv1.heap.size wv1 w' ∧ w'.cell? ⟨w.heap.size, 0, none⟩ = some (.slice (some ⟨g, o, none⟩) l.length c)) := fun w' b => ⟨b, (b.cell (cell_below c0)).trans c0⟩
        have held : ∀ W w' : World, Below W.heap.size W w' → (Below wv1.heap.size wv1 W ∧ W.cell? ⟨w.heap.size, 0, none⟩ = some (.slice (some ⟨g, o, none⟩) l.length c)) → (Below wv1.heap.size wv1 w' ∧ w'.cell? ⟨w.heap.size, 0, none⟩ = some (.slice (some ⟨g, o, none⟩) l.length c)) := fun W w' b h => mkS w' (h.1.trans (b.mono h.1.size))
        have heldSet : ∀ (W w' : World) (k' : Nat) (x y : Int), wv1.heap.size ≤ k' → w' = (W.setCell ⟨k', 0, none⟩ (.int .i64 x)).setCell ⟨k', 1, none⟩ (.int .i64 y) → (Below wv1.heap.size wv1 W ∧ W.cell? ⟨w.heap.size, 0, none⟩ = some (.slice (some ⟨g, o, none⟩) l.length c)) → (Below wv1.heap.size wv1 w' ∧ w'.cell? ⟨w.heap.size, 0, none⟩ = some (.slice (some ⟨g, o, none⟩) l.length c)) := fun W w' k' x y hk e h => by
          subst e
          exact mkS _ ((h.1.setCell (p := ⟨k', 0, none⟩) hk _).setCell (p := ⟨k', 1, none⟩) hk _)
        have keep0 := mkS _ (Below.refl wv1.heap.size wv1).drew
        have keepY := mkS _ ((Below.refl wv1.heap.size wv1).alloc (Nat.le_refl _) (.cells #[.int .i64 0, .int .i64 0] 24)).drew
        have atR := fun (W : World) (h : (Below wv1.heap.size wv1 W ∧ W.cell? ⟨w.heap.size, 0, none⟩ = some (.slice (some ⟨g, o, none⟩) l.length c))) => R.out.grow h.1
        have atCR := fun (W : World) (h : (Below wv1.heap.size wv1 W ∧ W.cell? ⟨w.heap.size, 0, none⟩ = some (.slice (some ⟨g, o, none⟩) l.length c))) => CR.out.grow h.1
        have tok0 : True := trivial
        have tok1 : True := trivial
        have tok2 : True := trivial
        go_region_held3 (fun w' => (Below wv1.heap.size wv1 w' ∧ w'.cell? ⟨w.heap.size, 0, none⟩ = some (.slice (some ⟨g, o, none⟩) l.length c))) (first | exact keep0 | exact keepY | exact hs0 | exact hs1 | exact hs2 | (have _q := hs0; exact held _ _ ((Below.refl _ _).alloc (Nat.le_refl _) _) hs0) | (have _q := hs1; exact held _ _ ((Below.refl _ _).alloc (Nat.le_refl _) _) hs1) | (have _q := hs2; exact held _ _ ((Below.refl _ _).alloc (Nat.le_refl _) _) hs2) | (have _q := hs2; exact heldSet _ _ _ _ _ (by omega) rfl hs2)) (first | (have _t := tok0; clear tok0 _t; go_at_call 43; refine (common_any (atR _ (by assumption)).1 (rec_edges HR.out) hj1 t0 hT hB b1).mono ?_; rintro e x0 ⟨cx, rfl, rfl, b0⟩; have hs0 := held _ _ b0 (by assumption); have hz0 := hs0.1.size; (first | (have zz := top_two (u := .int .i64 0) (v := .int .i64 0) (t := 24) b0) | (have zz := top_two_drew (u := .int .i64 0) (v := .int .i64 0) (t := 24) b0) | (replace zz := later_two b0 zz) | (have zz := later_two (k := wv1.heap.size) (u := .int .i64 0) (v := .int .i64 0) b0 ⟨by go_cell, by go_cell, by go_simp, by go_simp, by simp; omega⟩) | skip); (try simp only [World.size_alloc] at zz)) | (have _t := tok1; clear tok1 _t; go_at_call 44; refine (length_any (atR _ (by assumption)).1 (rec_edges HR.out) hj1).mono ?_; rintro e x1 ⟨lx, rfl, rfl, b1⟩; have hs1 := held _ _ b1 (by assumption); have hz1 := hs1.1.size; (first | (have zz := top_two (u := .int .i64 0) (v := .int .i64 0) (t := 24) b1) | (have zz := top_two_drew (u := .int .i64 0) (v := .int .i64 0) (t := 24) b1) | (replace zz := later_two b1 zz) | (have zz := later_two (k := wv1.heap.size) (u := .int .i64 0) (v := .int .i64 0) b1 ⟨by go_cell, by go_cell, by go_simp, by go_simp, by simp; omega⟩) | skip); (try simp only [World.size_alloc] at zz)) | (have _t := tok2; clear tok2 _t; go_at_call 42; refine (implFracOf_any _ _ _).mono ?_; rintro e x2 ⟨n5, d5, ok5, rfl, hr5, b2⟩; have hs2 := held _ _ b2 (by assumption); have hz2 := hs2.1.size; (first | (have zz := top_two (u := .int .i64 0) (v := .int .i64 0) (t := 24) b2) | (have zz := top_two_drew (u := .int .i64 0) (v := .int .i64 0) (t := 24) b2) | (replace zz := later_two b2 zz) | (have zz := later_two (k := wv1.heap.size) (u := .int .i64 0) (v := .int .i64 0) b2 ⟨by go_cell, by go_cell, by go_simp, by go_simp, by simp; omega⟩) | skip); (try simp only [World.size_alloc] at zz)))
        all_goals
          clear keep0 keepY held heldSet
          have S5 : St wv1 x2 [] := ⟨hs2.1, trivial⟩
          first
            | (
                fail_if_success (have q := zz)
                go_wp2
                go_meet
                exact TwoMid.mk (part_res SO.out hr5) (S5.alloc _ _))
            | (
                go_wp2
                go_meet
                exact TwoMid.mk (part_res SO.out hr5) (St.put2 (St.put zz S5) (by omega) (by simp only [Apart]) _ _))
      case rest =>
        revert hcut
        revert wc
        intro wv2 hcut
        obtain ⟨k2, n9, d9, ok, rfl, rfl, hr, S5⟩ := hcut
        replace R := Lib.hid (R.out.grow S5.below)
        replace CR := Lib.hid (CR.out.grow S5.below)
        replace S := S.more S5
        clear S5
        clear r
        have r := S.holds
        simp only [Holds, and_true] at r
        try simp only [World.size_alloc] at r
        obtain ⟨rfl, hf9, hq9⟩ := res_got hr rfl SF.out
        have HF9 := Lib.hid hf9; have HQ9 := Lib.hid hq9
        clear hr hf9 hq9
        go_wp2_with fail
        refine (implFracAdd_any _ _ _ _ _).mono ?_
        rintro e wv3 ⟨n6, d6, ok6, rfl, hr6, b6⟩
        have S3 := (S.next b6).tail
        have C3 := Lib.hid (CR.out.grow b6)
        rcases hr6 with ⟨rfl, _, hf6, hq6⟩ | ⟨rfl, rfl, rfl, hno⟩
        · have HF6 := Lib.hid hf6; have HQ6 : Hid (fq n6 d6 = s + share t b m[j] l[j] l[j + 1]) := Lib.hid (by rw [hq6, HQ.out, HQ9.out])
          have IN6 : Hid (addAll t b l m = addUp t b (s + share t b m[j] l[j] l[j + 1]) (l.getD (j + 1) 0) (l.drop (j + 1 + 1)) (m.drop (j + 1))) := Lib.hid (by
            rw [IN.out, SP.out, SF.out, ← HQ6.out, fq_fits HF6.out]; rfl)
          have S6 := Lib.hid (St.put2 S3 (by omega) (by simp only [Apart, and_true]; omega) n6 d6)
          have C6 : Hid (((wv3.setCell ⟨w.heap.size + 1 + 1, 0, none⟩ (.int .i64 n6)).setCell ⟨w.heap.size + 1 + 1, 1, none⟩ (.int .i64 d6)).cell? ⟨w.heap.size, 0, none⟩ = some (.slice (some ⟨g, o, none⟩) l.length c)) := Lib.hid (by
            rw [World.cell?_setCell_other _ _ _ _ (by simp), World.cell?_setCell_other _ _ _ _ (by simp)]; exact C3.out)
          have r3 := S3.holds
          simp only [Holds, and_true] at r3
          obtain ⟨⟨q0, q1, q2, q3, q4⟩, x0, x1, x2, x3, x4⟩ := r3
          clear hf6 hq6 b6 S S3 r
          go_wp2_with fail
          go_roundg (gk - 1)
          case measure => have := K.out; omega
          case rel => exact ⟨j + 1, n6, d6, _, by go_num, by have := K.out; omega, HF6.out, HQ6.out, IN6.out, C6.out, S6.out⟩
        · have AE : Hid (addAll t b l m = none) := Lib.hid (by
            rw [IN.out, SP.out, SF.out]
            rcases hno with hno | hno
            · rw [HF.out, HF9.out] at hno; cases hno
            · rw [HQ.out, HQ9.out] at hno; rw [hno]; rfl)
          have r3 := S3.holds
          simp only [Holds, and_true] at r3
          obtain ⟨⟨q0, q1, q2, q3, q4⟩, x0, x1, x2, x3, x4⟩ := r3
          have ne1 : ¬ w.heap.size + 1 + 1 = w.heap.size + 1 := by omega
          have ne2 : ¬ w.heap.size + 1 = w.heap.size + 1 + 1 := by omega
          have B3 := Lib.hid S3.below
          clear hno b6 S S3 r
          go_wp2_with fail
          refine back_frac 6 (x := .int .i64 0) (y := .int .i64 0) rfl rfl rfl (by go_cell) (by go_cell) rfl ?_
          exact gotO_no AE.out (by have := B3.out; go_grown)
    · have hj : j = m.length := by omega
      have AE : Hid (addAll t b l m = some s) := Lib.hid (by rw [IN.out]; exact addUp_end (by omega))
      obtain ⟨⟨q0, q1, q2, q3, q4⟩, x0, x1, x2, x3, x4⟩ := r
      have ne1 : ¬ w.heap.size + 1 + 1 = w.heap.size + 1 := by omega
      have ne2 : ¬ w.heap.size + 1 = w.heap.size + 1 + 1 := by omega
      go_wp2_with fail
      refine back_frac 6 rfl rfl rfl (stored0 _ _ x0) (stored1 _ _ x1) rfl ?_
      exact gotO_yes AE.out HF.out HQ.out (by have := S.below; go_grown)

theorem bet_no_rec {l m : List Int} {t b : Int} (h : isRec l m = false) : bet l m t b = none := by unfold bet betOk; rw [h]; rfl
theorem bet_no_range {l m : List Int} {t b : Int} (h : t < 0 ∨ b < t ∨ 30000 < b) : bet l m t b = none := by
  unfold bet
  rw [if_neg]
  intro k
  have := betOk_iff.1 k
  omega
theorem bet_yes_range {l m : List Int} {t b : Int} (hr : isRec l m = true) (h0 : 0 ≤ t) (h1 : t ≤ b) (h2 : b ≤ 30000) : bet l m t b = addAll t b l m := by
  unfold bet
  rw [if_pos (betOk_iff.2 ⟨hr, h0, h1, h2⟩)]
set_option maxHeartbeats 1600000 in
theorem implRecordBetween_any {w : World} {v u : Value} {l m : List Int} (t b : Int) (h : Rec w v u l m) :
    Calls Try.prog 9 #[v, u, .int .i64 t, .int .i64 b] w fun e w' => GotO (bet l m t b) w w' e := by
  obtain ⟨a, c, rfl, h1, h2⟩ := h.1.len
  obtain ⟨a', c', rfl, h1', h2'⟩ := h.2.len
  have H := Lib.hid h
  clear h
  cases hr : isRec l m
  · have HR := Lib.hid hr
    have T := Lib.hid (bet_no_rec (t := t) (b := b) hr)
    clear hr
    go_enter Try.func9, Try.ntmps9
    go_wp2_with fail
    refine (recOf_is (H.out.grow (by go_grown)) HR.out).mono ?_
    rintro e w1 ⟨rfl, b1⟩
    have B1 : Hid (Below w.heap.size w w1) := Lib.hid (Below.trans (by go_grown) (b1.mono (by go_size)))
    obtain ⟨r0, r1, r2, r3⟩ := below_two w.heap.size (.int .i64 0) (.int .i64 0) b1 (by go_cell) (by go_cell) (by go_simp) (by go_simp)
    have hz := b1.size
    simp only [World.size_alloc] at hz
    have hl1 : w.heap.size < w1.heap.size := by omega
    have ne1 : ¬ w1.heap.size = w.heap.size := by omega
    have ne2 : ¬ w.heap.size = w1.heap.size := by omega
    clear b1
    go_wp2_with fail
    refine back_frac 8 (x := .int .i64 0) (y := .int .i64 0) rfl rfl rfl (by go_cell) (by go_cell) rfl ?_
    exact gotO_no T.out (by have := B1.out; go_grown)
  · have HR := Lib.hid hr
    clear hr
    by_cases hb : t < 0 ∨ b < t ∨ 30000 < b
    · have T := Lib.hid (bet_no_range (l := l) (m := m) hb)
      go_enter Try.func9, Try.ntmps9
      go_wp2_with fail
      refine (recOf_is (H.out.grow (by go_grown)) HR.out).mono ?_
      rintro e w1 ⟨rfl, b1⟩
      have B1 : Hid (Below w.heap.size w w1) := Lib.hid (Below.trans (by go_grown) (b1.mono (by go_size)))
      obtain ⟨r0, r1, r2, r3⟩ := below_two w.heap.size (.int .i64 0) (.int .i64 0) b1 (by go_cell) (by go_cell) (by go_simp) (by go_simp)
      have hz := b1.size
      simp only [World.size_alloc] at hz
      have hl1 : w.heap.size < w1.heap.size := by omega
      have ne1 : ¬ w1.heap.size = w.heap.size := by omega
      have ne2 : ¬ w.heap.size = w1.heap.size := by omega
      clear b1
      by_cases b0 : t < 0
      · have d0 : decide (t < 0) = true := by simpa using b0
        clear hb
        go_wp2_with fail
        refine back_frac 8 (x := .int .i64 0) (y := .int .i64 0) rfl rfl rfl (by go_cell) (by go_cell) rfl ?_
        exact gotO_no T.out (by have := B1.out; go_grown)
      · have d0 : decide (t < 0) = false := by simpa using b0
        by_cases b2 : b < t
        · have d2 : decide (b < t) = true := by simpa using b2
          clear hb
          go_wp2_with fail
          refine back_frac 8 (x := .int .i64 0) (y := .int .i64 0) rfl rfl rfl (by go_cell) (by go_cell) rfl ?_
          exact gotO_no T.out (by have := B1.out; go_grown)
        · have d2 : decide (b < t) = false := by simpa using b2
          have d3 : decide (30000 < b) = true := by simp; omega
          clear hb
          go_wp2_with fail
          refine back_frac 8 (x := .int .i64 0) (y := .int .i64 0) rfl rfl rfl (by go_cell) (by go_cell) rfl ?_
          exact gotO_no T.out (by have := B1.out; go_grown)
    · have b0 : 0 ≤ t := by omega
      have b2 : t ≤ b := by omega
      have b3 : b ≤ 30000 := by omega
      have T := Lib.hid (bet_yes_range HR.out b0 b2 b3)
      have d0 : decide (t < 0) = false := by simp; omega
      have d2 : decide (b < t) = false := by simp; omega
      have d3 : decide (30000 < b) = false := by simp; omega
      clear hb
      go_enter Try.func9, Try.ntmps9
      go_wp2_with fail
      refine (recOf_is (H.out.grow (by go_grown)) HR.out).mono ?_
      rintro e w1 ⟨rfl, b1⟩
      have B1 : Hid (Below w.heap.size w w1) := Lib.hid (Below.trans (by go_grown) (b1.mono (by go_size)))
      obtain ⟨r0, r1, r2, r3⟩ := below_two w.heap.size (.int .i64 0) (.int .i64 0) b1 (by go_cell) (by go_cell) (by go_simp) (by go_simp)
      have hz := b1.size
      simp only [World.size_alloc] at hz
      have hl1 : w.heap.size < w1.heap.size := by omega
      have ne1 : ¬ w1.heap.size = w.heap.size := by omega
      have ne2 : ¬ w.heap.size = w1.heap.size := by omega
      clear b1
      go_wp2_with fail
      refine (between_any (H.out.grow (by have := B1.out; go_grown)) HR.out b0 b2 b3).mono ?_
      rintro e w2 ⟨n, d, ok, rfl, hr, b4⟩
      obtain ⟨q0, q1, q2, q3⟩ := below_two w.heap.size (.int .i64 0) (.int .i64 0) b4 (by go_cell) (by go_cell) (by go_simp) (by go_simp)
      have B2 : Hid (Below w.heap.size w w2) := Lib.hid (Below.trans (by have := B1.out; go_grown) (b4.mono (by have := B1.out.size; simp; omega)))
      have RR := Lib.hid hr
      clear hr b4 r0 r1 r2 r3
      go_wp2_with fail
      refine back_frac 8 rfl rfl rfl (stored0 _ _ q0) (stored1 _ _ q1) rfl ?_
      rw [T.out]
      exact ⟨n, d, ok, rfl, RR.out, by have := B2.out; go_grown⟩
end Go.Proofs.Ytkcbgeldnibjcac
