/- The contract of the program's RecordRebin. -/
import Derived.Test.YtkcbgeldnibjcacRebLaw
import Derived.Test.YtkcbgeldnibjcacRecBetween
namespace Go.Proofs.Ytkcbgeldnibjcac
open Go.RowKit

theorem fracT : PairT 24 31 := ⟨by kernel_rfl, by kernel_rfl⟩
/-- A list of fractions of the call's own, or none. -/
def RebB (w : World) (o : Option (List Rat)) (e : Ending) (w' : World) : Prop :=
  ∃ v, e = .returned (.tuple #[v, .bool o.isSome]) ∧ Own 24 w' w.heap.size v ((o.getD []).map pr) ∧ Below w.heap.size w w'
theorem rebB_no {w w1 : World} {o : Option (List Rat)} (h : o = none) (B : Below w.heap.size w w1) :
    RebB w o (.returned (.tuple #[.slice (some ⟨w1.heap.size, 0, none⟩) 0 0, .bool false])) (w1.alloc (.cells #[] 24)) := by
  subst h
  exact ⟨_, rfl, own_new _ B.size, B.alloc B.size _⟩
theorem between_bet {w : World} {v u : Value} {l m : List Int} (h : Rec w v u l m) (hr : isRec l m = true) {t b : Int} (t0 : 0 ≤ t) (tb : t ≤ b) (b1 : b ≤ 30000) :
    Calls Try.prog 30 #[.agg #[v, u], .int .i64 t, .int .i64 b] w fun e w' => GotO (bet l m t b) w w' e := by
  rw [bet_yes_range hr t0 tb b1]; exact between_any h hr t0 tb b1
set_option maxRecDepth 100000 in
set_option maxHeartbeats 3200000 in
theorem implRecordRebin_any {w : World} {v u x : Value} {l m o : List Int} (h : Rec w v u l m) (hx : IRow w x o) :
    Calls Try.prog 13 #[v, u, x] w fun e w' => RebB w (rebOf l m o) e w' := by
  obtain ⟨a, c, rfl, h1, h2⟩ := h.1.len
  obtain ⟨a', c', rfl, h1', h2'⟩ := h.2.len
  have H := Lib.hid h; have HX := Lib.hid hx
  clear h hx
  cases hr : isRec l m
  · have HR := Lib.hid hr
    have T := Lib.hid (reb_no_rec (o := o) hr)
    clear hr
    go_enter Try.func13, Try.ntmps13
    go_wp2_with fail
    refine (recOf_is H.out HR.out).mono ?_
    rintro e w1 ⟨rfl, b1⟩
    have B1 : Hid (Below w.heap.size w (w1.alloc (.cells #[.slice a l.length c, .slice a' m.length c'] 48))) := Lib.hid (b1.alloc b1.size _)
    clear b1
    go_wp2_with fail
    go_ret2
    have := rebB_no T.out B1.out
    simp only [World.size_alloc] at this
    exact this
  have HR := Lib.hid hr
  clear hr
  cases he : isEdges o
  · have HE := Lib.hid he
    have T := Lib.hid (reb_no_edges (l := l) (m := m) he)
    clear he
    go_enter Try.func13, Try.ntmps13
    go_wp2_with fail
    refine (recOf_is H.out HR.out).mono ?_
    rintro e w1 ⟨rfl, b1⟩
    have B1 : Hid (Below w.heap.size w (w1.alloc (.cells #[.slice a l.length c, .slice a' m.length c'] 48))) := Lib.hid (b1.alloc b1.size _)
    clear b1
    go_wp2_with fail
    refine (edgesValid_any (HX.out.grow B1.out)).mono ?_
    rintro e w2 ⟨rfl, rfl⟩
    rw [HE.out]
    go_wp2_with fail
    go_ret2
    have := rebB_no T.out B1.out
    simp only [World.size_alloc] at this
    exact this
  have HE := Lib.hid he
  have RS := Lib.hid (reb_start HR.out he)
  have hlo := isEdges_len he
  clear he
  obtain ⟨g, of, cp, rfl, k1, k2⟩ := HX.out.known (by omega)
  unfold maxLen at k2
  have nc : ¬ cp = 1 := by omega
  have j1 : (1 : Int) ≤ (o.length : Int) := by omega
  have j2 : (1 : Int) ≤ (cp : Int) := by omega
  go_enter Try.func13, Try.ntmps13
  go_wp2_with fail
  refine (recOf_is H.out HR.out).mono ?_
  rintro e w1 ⟨rfl, b1⟩
  have B1 := b1.alloc b1.size (.cells #[.slice a l.length c, .slice a' m.length c'] 48)
  have z1 := b1.size
  have x0 : (w1.alloc (.cells #[.slice a l.length c, .slice a' m.length c'] 48)).cell? ⟨w1.heap.size, 0, none⟩ = some (.slice a l.length c) := by go_cell
  have x1 : (w1.alloc (.cells #[.slice a l.length c, .slice a' m.length c'] 48)).cell? ⟨w1.heap.size, 1, none⟩ = some (.slice a' m.length c') := by go_cell
  have X0 : Hid (CellIs _ _ _) := Lib.hid x0
  have X1 : Hid (CellIs _ _ _) := Lib.hid x1
  clear b1 x0 x1
  have B1 := Lib.hid B1
  go_wp2_with fail
  refine (edgesValid_any (HX.out.grow B1.out)).mono ?_
  rintro e w2 ⟨rfl, rfl⟩
  rw [HE.out]
  go_wp2_with fail
  have hz : (w1.alloc (.cells #[.slice a l.length c, .slice a' m.length c'] 48)).heap.size = w1.heap.size + 1 := by simp
  generalize (w1.alloc (.cells #[.slice a l.length c, .slice a' m.length c'] 48)) = W at B1 X0 X1 hz ⊢
  rw [← hz]
  have hzl : w1.heap.size < W.heap.size := by omega
  have OW := Lib.hid (own_new 24 (Nat.le_refl W.heap.size))
  have BL := Lib.hid ((Below.refl W.heap.size W).alloc (Nat.le_refl _) (.cells #[] 24))
  clear hz
  go_loopg [10, 33] (o.length - 1) (fun k y x wr => ∃ (j : Nat) (rs : List Rat), x = .int .i64 j ∧ j + 1 + k = o.length ∧ RebAt l m o j rs ∧ Own 24 wr W.heap.size y (rs.map pr) ∧ Below W.heap.size W wr)
  case atStart => exact ⟨0, [], rfl, by omega, RS.out, OW.out, BL.out⟩
  case round =>
    obtain ⟨wv1, rfl⟩ : ∃ x, x = wr := ⟨wr, rfl⟩
    obtain ⟨j, rs, rfl, hk, ha, ho, hb⟩ := hrel
    have K := Lib.hid hk; have RA := Lib.hid ha; have OL := Lib.hid ho; have BB := Lib.hid hb
    have hsz := hb.size
    have hrl := ha.1
    clear hk ha ho hb
    by_cases hlt : j + 1 < o.length
    · have R := Lib.hid (H.out.grow (B1.out.trans (BB.out.mono B1.out.size)))
      have RX := Lib.hid (HX.out.grow (B1.out.trans (BB.out.mono B1.out.size)))
      have CV := Lib.hid (X0.out.grow BB.out); have CU := Lib.hid (X1.out.grow BB.out)
      have S := St.start (Below.refl wv1.heap.size wv1)
      have hj0 : j < o.length := by omega
      have d0 := RX.out.cells j hj0
      have d1 := RX.out.cells (j + 1) hlt
      rw [show of + (j + 1) = of + 1 + j by omega] at d1
      have v0 : wv1.cell? ⟨w1.heap.size, 0, none⟩ = some (.slice a l.length c) := CV.out
      have v1 : wv1.cell? ⟨w1.heap.size, 1, none⟩ = some (.slice a' m.length c') := CU.out
      have i1 : (j : Int) < (o.length : Int) - 1 := by omega
      have i1' : (j : Int) < ((o.length - 1 : Nat) : Int) := by omega
      have i1'' : j < o.length - 1 := by omega
      have i2 : (0 : Int) ≤ (j : Int) := by omega
      have i3 : (j : Int) < (o.length : Int) := by omega
      have p0 := (edges_range HE.out j hj0).1
      have p1 := Int.le_of_lt (edges_up HE.out j (j + 1) (by omega) hlt)
      have p2 := (edges_range HE.out (j + 1) hlt).2
      go_upto_region 8 with fail
      go_cut [13, 14] (fun s0 s1 wx => TwoMid ((bet l m o[j] o[j + 1]).isSome) ((bet l m o[j] o[j + 1]).getD 0) wv1 [] s0 s1 wx)
      case first =>
        have mkS : ∀ w' : World, Below wv1.heap.size wv1 w' → (Below wv1.heap.size wv1 w' ∧ w'.cell? ⟨g, of + j, none⟩ = some (.int .i64 o[j]) ∧ w'.cell? ⟨w1.heap.size, 0, none⟩ = some (.slice a l.length c) ∧ w'.cell? ⟨w1.heap.size, 1, none⟩ = some (.slice a' m.length c')) := fun w' b => ⟨b, (b.cell (cell_below d0)).trans d0, (b.cell (cell_below v0)).trans v0, (b.cell (cell_below v1)).trans v1⟩
        have held : ∀ W w' : World, Below W.heap.size W w' → (Below wv1.heap.size wv1 W ∧ W.cell? ⟨g, of + j, none⟩ = some (.int .i64 o[j]) ∧ W.cell? ⟨w1.heap.size, 0, none⟩ = some (.slice a l.length c) ∧ W.cell? ⟨w1.heap.size, 1, none⟩ = some (.slice a' m.length c')) → (Below wv1.heap.size wv1 w' ∧ w'.cell? ⟨g, of + j, none⟩ = some (.int .i64 o[j]) ∧ w'.cell? ⟨w1.heap.size, 0, none⟩ = some (.slice a l.length c) ∧ w'.cell? ⟨w1.heap.size, 1, none⟩ = some (.slice a' m.length c')) := fun W w' b h => mkS w' (h.1.trans (b.mono h.1.size))
        have heldSet : ∀ (W w' : World) (k' : Nat) (x y : Int), wv1.heap.size ≤ k' → w' = (W.setCell ⟨k', 0, none⟩ (.int .i64 x)).setCell ⟨k', 1, none⟩ (.int .i64 y) → (Below wv1.heap.size wv1 W ∧ W.cell? ⟨g, of + j, none⟩ = some (.int .i64 o[j]) ∧ W.cell? ⟨w1.heap.size, 0, none⟩ = some (.slice a l.length c) ∧ W.cell? ⟨w1.heap.size, 1, none⟩ = some (.slice a' m.length c')) → (Below wv1.heap.size wv1 w' ∧ w'.cell? ⟨g, of + j, none⟩ = some (.int .i64 o[j]) ∧ w'.cell? ⟨w1.heap.size, 0, none⟩ = some (.slice a l.length c) ∧ w'.cell? ⟨w1.heap.size, 1, none⟩ = some (.slice a' m.length c')) := fun W w' k' x y hk e h => by
          subst e
          exact mkS _ ((h.1.setCell (p := ⟨k', 0, none⟩) hk _).setCell (p := ⟨k', 1, none⟩) hk _)
        have keep0 := mkS _ (Below.refl wv1.heap.size wv1).drew
        have keepY := mkS _ ((Below.refl wv1.heap.size wv1).alloc (Nat.le_refl _) (.cells #[.int .i64 0, .int .i64 0] 24)).drew
        have atR := fun (W : World) (h : (Below wv1.heap.size wv1 W ∧ W.cell? ⟨g, of + j, none⟩ = some (.int .i64 o[j]) ∧ W.cell? ⟨w1.heap.size, 0, none⟩ = some (.slice a l.length c) ∧ W.cell? ⟨w1.heap.size, 1, none⟩ = some (.slice a' m.length c'))) => R.out.grow h.1
        have tok0 : True := trivial
        go_region_held3 (fun w' => (Below wv1.heap.size wv1 w' ∧ w'.cell? ⟨g, of + j, none⟩ = some (.int .i64 o[j]) ∧ w'.cell? ⟨w1.heap.size, 0, none⟩ = some (.slice a l.length c) ∧ w'.cell? ⟨w1.heap.size, 1, none⟩ = some (.slice a' m.length c'))) (first | exact keep0 | exact keepY | exact hs0 | (have _q := hs0; exact held _ _ ((Below.refl _ _).alloc (Nat.le_refl _) _) hs0) | (have _q := hs0; exact heldSet _ _ _ _ _ (by omega) rfl hs0)) (first | (go_at_call 30; refine (between_bet (atR _ (by assumption)) HR.out p0 p1 p2).mono ?_; rintro e x0 ⟨n5, d5, ok5, rfl, hr5, b0⟩; have hs0 := held _ _ b0 (by assumption); have hz0 := hs0.1.size; (first | (have zz := top_two (u := .int .i64 0) (v := .int .i64 0) (t := 24) b0) | (have zz := top_two_drew (u := .int .i64 0) (v := .int .i64 0) (t := 24) b0) | (replace zz := later_two b0 zz) | (have zz := later_two (k := wv1.heap.size) (u := .int .i64 0) (v := .int .i64 0) b0 ⟨by go_cell, by go_cell, by go_simp, by go_simp, by simp; omega⟩) | skip); (try simp only [World.size_alloc] at zz)))
        all_goals
          clear keep0 keepY held heldSet
          have S5 : St wv1 x0 [] := ⟨hs0.1, trivial⟩
          first
            | (
                fail_if_success (have q := zz)
                go_wp2
                go_meet
                exact TwoMid.mk hr5 (S5.alloc _ _))
            | (
                go_wp2
                go_meet
                exact TwoMid.mk hr5 (St.put2 (St.put zz S5) (by omega) (by simp only [Apart]) _ _))
      case rest =>
        revert hcut
        revert wc
        intro wv2 hcut
        obtain ⟨k2, n9, d9, ok, rfl, rfl, hr, S5⟩ := hcut
        replace R := Lib.hid (R.out.grow S5.below)
        replace S := S.more S5
        clear S5
        have r := S.holds
        simp only [Holds, and_true] at r
        try simp only [World.size_alloc] at r
        have B2 := Lib.hid (BB.out.trans (S.below.mono hsz))
        have hsz2 := B2.out.size
        have OL2 := Lib.hid (OL.out.grow S.below)
        obtain ⟨q0, q1, q2, q3, q4⟩ := r
        clear d0 d1 v0 v1 S q2 q3
        rcases hr with ⟨rfl, hv, hf, hq⟩ | ⟨rfl, rfl, rfl, hno⟩
        · obtain ⟨q, hbq⟩ := Option.isSome_iff_exists.1 hv
          rw [hbq] at hq
          have RA2 := Lib.hid (RA.out.next hlt (by rw [show o.getD j 0 = o[j] by simp [hj0]]; exact hbq))
          have EP : Hid (pr q = (n9, d9)) := Lib.hid (pr_is hf hq)
          clear hv hf hq hbq
          obtain ⟨n1, n2⟩ := new_two wv2 (.int .i64 n9) (.int .i64 d9) 24
          have N1 := Lib.hid n1; have N2 := Lib.hid n2
          have BW := Lib.hid ((Below.refl wv2.heap.size wv2).alloc (Nat.le_refl _) (.cells #[.int .i64 n9, .int .i64 d9] 24))
          clear n1 n2
          have hsz3 : W.heap.size ≤ (wv2.alloc (.cells #[.int .i64 n9, .int .i64 d9] 24)).heap.size := by simp; omega
          go_wp2_with (at_builtin; refine append_pair fracT rfl _ _ rfl (B := W.heap.size) _ _ rfl (OL2.out.grow BW.out) ⟨wv2.heap.size, 0, none⟩ (n9, d9) rfl N1.out N2.out (by simp; omega) hsz3 ?_; intro v5 w5 hown5 hg5)
          have O5 : Hid (Own 24 w5 W.heap.size v5 ((rs ++ [q]).map pr)) := Lib.hid (by rw [List.map_append, List.map_singleton, EP.out]; exact hown5)
          have B5 := Lib.hid (B2.out.trans ((BW.out.mono hsz2).trans ((OL2.out.grow BW.out).below hg5 hsz3)))
          clear hown5 hg5
          go_wp2_with fail
          go_roundg (gk - 1)
          case measure => have := K.out; omega
          case rel => exact ⟨j + 1, rs ++ [q], by go_num, by have := K.out; omega, RA2.out, O5.out, B5.out⟩
        · have T : Hid (rebOf l m o = none) := Lib.hid (RA.out.none hlt (by
            rw [show o.getD j 0 = o[j] by simp [hj0]]
            cases hb : bet l m o[j] o[j + 1] with
            | none => rfl
            | some q =>
              have hfit := (bet_is hb).2.1
              rw [hb] at hno
              rcases hno with hno | hno
              · cases hno
              · rw [show (some q).getD 0 = q from rfl, hfit] at hno; cases hno))
          clear hno
          have BN := Lib.hid (B1.out.trans (B2.out.mono B1.out.size))
          go_wp2_with fail
          go_ret2
          exact rebB_no T.out BN.out
    · have hj : o.length ≤ j + 1 := by omega
      have i1 : ¬ (j : Int) < (o.length : Int) - 1 := by omega
      have i1' : ¬ (j : Int) < ((o.length - 1 : Nat) : Int) := by omega
      have i1'' : ¬ j < o.length - 1 := by omega
      have T := Lib.hid (RA.out.all hj)
      go_wp2_with fail
      go_ret2
      rw [T.out]
      exact ⟨_, rfl, OL.out.mono B1.out.size, B1.out.trans (BB.out.mono B1.out.size)⟩
end Go.Proofs.Ytkcbgeldnibjcac
