/- The contract of the model's RecordRebin. -/
import Derived.Test.YtkcbgeldnibjcacRebImpl
import Derived.Test.YtkcbgeldnibjcacSpecRecBet
namespace Go.Proofs.Ytkcbgeldnibjcac
open Go.RowKit

theorem rebB_old {w w1 : World} {o : Option (List Rat)} {v : Value} (h : o = none) (hv : Own 24 w1 w.heap.size v []) (B : Below w.heap.size w w1) :
    RebB w o (.returned (.tuple #[v, .bool false])) w1 := by
  subst h
  exact ⟨_, rfl, hv, B⟩
set_option maxRecDepth 100000 in
set_option maxHeartbeats 3200000 in
theorem specRecordRebin_any {w : World} {v u x : Value} {l m o : List Int} (h : IRow w v l) (hm : IRow w u m) (hx : IRow w x o) :
    Calls Try.prog 12 #[v, u, x] w fun e w' => RebB w (rebOf l m o) e w' := by
  have H := Lib.hid (show Rec w v u l m from ⟨h, hm⟩); have HX := Lib.hid (hx.grow ((Below.refl w.heap.size w).alloc (Nat.le_refl _) (.cells #[] 24)))
  have HX0 := Lib.hid hx
  have OW := own_new 24 (Nat.le_refl w.heap.size)
  have OW := Lib.hid OW
  have B0 := Lib.hid ((Below.refl w.heap.size w).alloc (Nat.le_refl _) (.cells #[] 24))
  clear h hm hx
  cases he : isEdges o
  · have HE := Lib.hid he
    have T := Lib.hid (reb_no_edges (l := l) (m := m) he)
    clear he
    go_enter Try.func12, Try.ntmps12
    go_wp2_with fail
    refine (edgesS_is HX.out HE.out).mono ?_
    rintro e w1 ⟨rfl, b1⟩
    have O1 := Lib.hid (OW.out.grow b1)
    have B1 := Lib.hid (B0.out.trans (b1.mono B0.out.size))
    clear b1
    go_wp2_with fail
    go_ret2
    exact rebB_old T.out O1.out B1.out
  have HE := Lib.hid he
  have RS := Lib.hid (reb_start_any (l := l) (m := m) he)
  have hlo := isEdges_len he
  clear he
  obtain ⟨g, of, cp, rfl, k1, k2⟩ := HX0.out.known (by omega)
  unfold maxLen at k2
  go_enter Try.func12, Try.ntmps12
  go_wp2_with fail
  refine (edgesS_is HX.out HE.out).mono ?_
  rintro e w1 ⟨rfl, b1⟩
  have O1 := Lib.hid (OW.out.grow b1)
  have B1 := Lib.hid (B0.out.trans (b1.mono B0.out.size))
  clear b1
  go_wp2_with fail
  go_loopg [8, 9] (o.length - 1) (fun k y x wr => ∃ (j : Nat) (rs : List Rat), x = .int .i64 ((j : Int) + 1) ∧ j + 1 + k = o.length ∧ RebAt l m o j rs ∧ Own 24 wr w.heap.size y (rs.map pr) ∧ Below w.heap.size w wr)
  case atStart => exact ⟨0, [], rfl, by omega, RS.out, O1.out, B1.out⟩
  case round =>
    obtain ⟨wv1, rfl⟩ : ∃ x, x = wr := ⟨wr, rfl⟩
    obtain ⟨j, rs, rfl, hk, ha, ho, hb⟩ := hrel
    have K := Lib.hid hk; have RA := Lib.hid ha; have OL := Lib.hid ho; have BB := Lib.hid hb
    have hsz := hb.size
    have hrl := ha.1
    clear hk ha ho hb
    by_cases hlt : j + 1 < o.length
    · have R := Lib.hid (H.out.grow BB.out)
      have RX := Lib.hid (HX0.out.grow BB.out)
      have S := St.start (Below.refl wv1.heap.size wv1)
      have hj0 : j < o.length := by omega
      have d0 := RX.out.cells j hj0
      have d1 := RX.out.cells (j + 1) hlt
      have i1 : (j : Int) + 1 < (o.length : Int) := by omega
      have i2 : (0 : Int) ≤ (j : Int) := by omega
      have i3 : (j : Int) < (o.length : Int) := by omega
      have i4 : (0 : Int) ≤ (j : Int) + 1 := by omega
      have i5 : ((j : Int) + 1).toNat = j + 1 := by omega
      have e1 : IntKind.i64.wrap ((j : Int) + 1) = (j : Int) + 1 := IntWalk.i64_in _ (by omega)
      have e2 : IntKind.i64.wrap ((j : Int) + 1 - 1) = (j : Int) := by rw [show (j : Int) + 1 - 1 = j by omega]; exact IntWalk.i64_in _ (by omega)
      have e3 : IntKind.i64.wrap ((j : Int) + 1 + 1) = (j : Int) + 1 + 1 := IntWalk.i64_in _ (by omega)
      have e4 : IntKind.i64.wrap (j : Int) = (j : Int) := IntWalk.i64_in _ (by omega)
      go_upto_region 7 with fail
      go_cut [10, 11] (fun s0 s1 wx => TwoMid ((bet l m o[j] o[j + 1]).isSome) ((bet l m o[j] o[j + 1]).getD 0) wv1 [] s0 s1 wx)
      case first =>
        have mkS : ∀ w' : World, Below wv1.heap.size wv1 w' → (Below wv1.heap.size wv1 w' ∧ w'.cell? ⟨g, of + j, none⟩ = some (.int .i64 o[j]) ∧ w'.cell? ⟨g, of + (j + 1), none⟩ = some (.int .i64 o[j + 1])) := fun w' b => ⟨b, (b.cell (cell_below d0)).trans d0, (b.cell (cell_below d1)).trans d1⟩
        have held : ∀ W w' : World, Below W.heap.size W w' → (Below wv1.heap.size wv1 W ∧ W.cell? ⟨g, of + j, none⟩ = some (.int .i64 o[j]) ∧ W.cell? ⟨g, of + (j + 1), none⟩ = some (.int .i64 o[j + 1])) → (Below wv1.heap.size wv1 w' ∧ w'.cell? ⟨g, of + j, none⟩ = some (.int .i64 o[j]) ∧ w'.cell? ⟨g, of + (j + 1), none⟩ = some (.int .i64 o[j + 1])) := fun W w' b h => mkS w' (h.1.trans (b.mono h.1.size))
        have heldSet : ∀ (W w' : World) (k' : Nat) (x y : Int), wv1.heap.size ≤ k' → w' = (W.setCell ⟨k', 0, none⟩ (.int .i64 x)).setCell ⟨k', 1, none⟩ (.int .i64 y) → (Below wv1.heap.size wv1 W ∧ W.cell? ⟨g, of + j, none⟩ = some (.int .i64 o[j]) ∧ W.cell? ⟨g, of + (j + 1), none⟩ = some (.int .i64 o[j + 1])) → (Below wv1.heap.size wv1 w' ∧ w'.cell? ⟨g, of + j, none⟩ = some (.int .i64 o[j]) ∧ w'.cell? ⟨g, of + (j + 1), none⟩ = some (.int .i64 o[j + 1])) := fun W w' k' x y hk e h => by
          subst e
          exact mkS _ ((h.1.setCell (p := ⟨k', 0, none⟩) hk _).setCell (p := ⟨k', 1, none⟩) hk _)
        have keep0 := mkS _ (Below.refl wv1.heap.size wv1).drew
        have keepY := mkS _ ((Below.refl wv1.heap.size wv1).alloc (Nat.le_refl _) (.cells #[.int .i64 0, .int .i64 0] 24)).drew
        have atR := fun (W : World) (h : (Below wv1.heap.size wv1 W ∧ W.cell? ⟨g, of + j, none⟩ = some (.int .i64 o[j]) ∧ W.cell? ⟨g, of + (j + 1), none⟩ = some (.int .i64 o[j + 1]))) => R.out.grow h.1
        have tok0 : True := trivial
        go_region_held3 (fun w' => (Below wv1.heap.size wv1 w' ∧ w'.cell? ⟨g, of + j, none⟩ = some (.int .i64 o[j]) ∧ w'.cell? ⟨g, of + (j + 1), none⟩ = some (.int .i64 o[j + 1]))) (first | exact keep0 | exact keepY | exact hs0 | (have _q := hs0; exact held _ _ ((Below.refl _ _).alloc (Nat.le_refl _) _) hs0) | (have _q := hs0; exact heldSet _ _ _ _ _ (by omega) rfl hs0)) (first | (go_at_call 7; refine (specRecordBetween_any _ _ (atR _ (by assumption)).1 (atR _ (by assumption)).2).mono ?_; rintro e x0 ⟨n5, d5, ok5, rfl, hr5, b0⟩; have hs0 := held _ _ b0 (by assumption); have hz0 := hs0.1.size; (first | (have zz := top_two (u := .int .i64 0) (v := .int .i64 0) (t := 24) b0) | (have zz := top_two_drew (u := .int .i64 0) (v := .int .i64 0) (t := 24) b0) | (replace zz := later_two b0 zz) | (have zz := later_two (k := wv1.heap.size) (u := .int .i64 0) (v := .int .i64 0) b0 ⟨by go_cell, by go_cell, by go_simp, by go_simp, by simp; omega⟩) | skip); (try simp only [World.size_alloc] at zz)))
        all_goals
          clear keep0 keepY held heldSet
          have S5 : St wv1 x0 [] := ⟨hs0.1, trivial⟩
          first
            | (
                fail_if_success (have q := zz)
                go_wp2
                go_meet
                exact TwoMid.mk hr5 (S5.alloc _ _))
            | (
                go_wp2
                go_meet
                exact TwoMid.mk hr5 (St.put2 (St.put zz S5) (by omega) (by simp only [Apart]) _ _))
      case rest =>
        revert hcut
        revert wc
        intro wv2 hcut
        obtain ⟨k2, n9, d9, ok, rfl, rfl, hr, S5⟩ := hcut
        replace R := Lib.hid (R.out.grow S5.below)
        replace S := S.more S5
        clear S5
        have r := S.holds
        simp only [Holds, and_true] at r
        try simp only [World.size_alloc] at r
        have B2 := Lib.hid (BB.out.trans (S.below.mono hsz))
        have hsz2 := B2.out.size
        have OL2 := Lib.hid (OL.out.grow S.below)
        obtain ⟨q0, q1, q2, q3, q4⟩ := r
        clear d0 d1 S q2 q3
        rcases hr with ⟨rfl, hv, hf, hq⟩ | ⟨rfl, rfl, rfl, hno⟩
        · obtain ⟨q, hbq⟩ := Option.isSome_iff_exists.1 hv
          rw [hbq] at hq
          have RA2 := Lib.hid (RA.out.next hlt (by rw [show o.getD j 0 = o[j] by simp [hj0]]; exact hbq))
          have EP : Hid (pr q = (n9, d9)) := Lib.hid (pr_is hf hq)
          clear hv hf hq hbq
          obtain ⟨n1, n2⟩ := new_two wv2 (.int .i64 n9) (.int .i64 d9) 24
          have N1 := Lib.hid n1; have N2 := Lib.hid n2
          have BW := Lib.hid ((Below.refl wv2.heap.size wv2).alloc (Nat.le_refl _) (.cells #[.int .i64 n9, .int .i64 d9] 24))
          clear n1 n2
          have hsz3 : w.heap.size ≤ (wv2.alloc (.cells #[.int .i64 n9, .int .i64 d9] 24)).heap.size := by simp; omega
          go_wp2_with (at_builtin; refine append_pair fracT rfl _ _ rfl (B := w.heap.size) _ _ rfl (OL2.out.grow BW.out) ⟨wv2.heap.size, 0, none⟩ (n9, d9) rfl N1.out N2.out (by simp; omega) hsz3 ?_; intro v5 w5 hown5 hg5)
          have O5 : Hid (Own 24 w5 w.heap.size v5 ((rs ++ [q]).map pr)) := Lib.hid (by rw [List.map_append, List.map_singleton, EP.out]; exact hown5)
          have B5 := Lib.hid (B2.out.trans ((BW.out.mono hsz2).trans ((OL2.out.grow BW.out).below hg5 hsz3)))
          clear hown5 hg5
          go_wp2_with fail
          go_roundg (gk - 1)
          case measure => have := K.out; omega
          case rel => exact ⟨j + 1, rs ++ [q], by go_num, by have := K.out; omega, RA2.out, O5.out, B5.out⟩
        · have T : Hid (rebOf l m o = none) := Lib.hid (RA.out.none hlt (by
            rw [show o.getD j 0 = o[j] by simp [hj0]]
            cases hb : bet l m o[j] o[j + 1] with
            | none => rfl
            | some q =>
              have hfit := (bet_is hb).2.1
              rw [hb] at hno
              rcases hno with hno | hno
              · cases hno
              · rw [show (some q).getD 0 = q from rfl, hfit] at hno; cases hno))
          clear hno
          go_wp2_with fail
          go_ret2
          exact rebB_no T.out B2.out
    · have hj : o.length ≤ j + 1 := by omega
      have i1 : ¬ (j : Int) + 1 < (o.length : Int) := by omega
      have T := Lib.hid (RA.out.all hj)
      go_wp2_with fail
      go_ret2
      rw [T.out]
      exact ⟨_, rfl, OL.out, BB.out⟩
end Go.Proofs.Ytkcbgeldnibjcac
