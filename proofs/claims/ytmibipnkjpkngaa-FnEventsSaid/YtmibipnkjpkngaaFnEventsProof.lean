/- For every input, the law FnEvents of the given statements returns true over the program at this commit, and its arguments read afterwards as before: no condition. -/
import Derived.Test.YtmibipnkjpkngaaRows
import Derived.Test.YtmibipnkjpkngaaLawE5
import Derived.WalkKit
import Derived.ProofKit
import Derived.OpenShut
import Derived.ShutString
import Derived.ChangeOld
import Derived.Below
namespace Go.Proofs.Ytmibipnkjpkngaa.fnEvents
open Go.ChangeShapes Go.WideShapes Go.ChangeAt Go.RowKit
open Go.ChangeMaps (open_string shut_string)
set_option linter.unusedVariables false

theorem own : ownKnob Try.prog.godebug = none := by kernel_rfl
theorem laidOut : laidOutB Try.prog = true := by kernel_rfl

/-- WHAT THE WALK IS TOLD OF A SLICE OF INTEGERS THAT CAME IN: it is nil; or it leads to a row of 'cap' cells, the numbers 'zs' (the first 'len' are its elements, the rest its spare room), each fitting its kind. -/
def IsRow (k : IntKind) (w : World) (a : Option Addr) (len cap : Nat) (zs : List Int) : Prop :=
  (a = none ∧ len = 0 ∧ cap = 0 ∧ zs = []) ∨
  ∃ x, a = some x ∧ len ≤ cap ∧ cap ≤ maxLen ∧ zs.length = cap ∧ (∀ i, i < zs.length → w.cell? (x.add i) = some (.int k (zs.getD i 0))) ∧ ∀ n ∈ zs, (Lit.int k n).wf = true

set_option maxRecDepth 100000 in
set_option maxHeartbeats 3200000 in
theorem walk (a0 : Option Addr) (len0 cap0 : Nat) (z0 : List Int) (a1 : Option Addr) (len1 cap1 : Nat) (z1 : List Int) (w : World) (w0 : IsRow .u8 w a0 len0 cap0 z0) (w1 : IsRow .u8 w a1 len1 cap1 z1) :
    Calls Try.prog 3 #[.slice a0 len0 cap0, .slice a1 len1 cap1] w fun e w' => e = .returned (.bool true) ∧ Below w.heap.size w w' := by
  have hB := bytes_of w0
  have hB1 := bytes_len (bytes_of w1)
  unfold maxLen at hB1
  by_cases hl : 1048576 < len0
  · have hdec : decide (1048576 < len0) = true := by simpa using hl
    go_enter Try.func3, Try.ntmps3
    go_wp2_with fail
    go_ret
    exact ⟨rfl, Below.refl _ _⟩
  have hdec : decide (1048576 < len0) = false := by simpa using hl
  by_cases hl1 : 1048576 < len1
  · go_enter Try.func3, Try.ntmps3
    go_wp2_with fail
    go_ret
    exact ⟨rfl, Below.refl _ _⟩
  have hm : len0 ≤ 1048576 := by omega
  have hm1 : len1 ≤ 1048576 := by omega
  clear hB1
  go_enter Try.func3, Try.ntmps3
  go_wp2_with fail
  refine (DrawEventsValidO_any hB).mono ?_
  rintro e wv1 ⟨v, a, rfl, r0, da, b1⟩
  clear w0 w1 hB
  have BB := Lib.hid b1
  clear b1
  have R := Lib.hid r0
  clear r0
  have ha6 := da.1
  obtain ⟨aR, cR, rfl, kR, mR⟩ := elen_n R.out.row
  cases hv : isEv a
  · have HV := Lib.hid hv
    clear hv
    go_wp2_with fail
    refine (evI_is R.out.row HV.out).mono ?_
    rintro e wv2 ⟨rfl, b9⟩
    replace R := Lib.hid (R.out.grow b9)
    replace BB := Lib.hid (BB.out.trans (b9.mono BB.out.size))
    clear b9
    go_wp2_with fail
    refine (evSB R.out.row HV.out).mono ?_
    rintro e wv3 ⟨rfl, b9⟩
    replace R := Lib.hid (R.out.grow b9)
    replace BB := Lib.hid (BB.out.trans (b9.mono BB.out.size))
    clear b9
    go_wp2_with fail
    go_ret
    exact ⟨by first | rfl | (simp; done) | (simp; omega), BB.out⟩
  · have HV := Lib.hid hv
    clear hv
    go_wp2_with fail
    refine (evI_is R.out.row HV.out).mono ?_
    rintro e wv2 ⟨rfl, b9⟩
    replace R := Lib.hid (R.out.grow b9)
    replace BB := Lib.hid (BB.out.trans (b9.mono BB.out.size))
    clear b9
    go_wp2_with fail
    refine (evSB R.out.row HV.out).mono ?_
    rintro e wv3 ⟨rfl, b9⟩
    replace R := Lib.hid (R.out.grow b9)
    replace BB := Lib.hid (BB.out.trans (b9.mono BB.out.size))
    clear b9
    obtain ⟨j, hj⟩ : ∃ j : Nat, len1 % (a.length + 1) = j := ⟨_, rfl⟩
    have hjn : j ≤ a.length := by have := Nat.mod_lt len1 (show 0 < a.length + 1 by omega); omega
    have ej : (len1 : Int) % ((a.length : Int) + 1) = (j : Int) := by rw [← hj, Int.natCast_emod]; rfl
    have et : IntKind.i64.wrap ((len1 : Int).tmod ((a.length : Int) + 1)) = (j : Int) := by rw [Int.tmod_eq_emod_of_nonneg (by omega), ej]; exact IntWalk.i64_in _ (by omega)
    have z2 : IntKind.i64.wrap ((a.length : Int) + 1) = (a.length : Int) + 1 := IntWalk.i64_in _ (by omega)
    have zz : (((a.length : Int) + 1) == 0) = false := beq_eq_false_iff_ne.2 (by omega)
    have z3 : IntKind.i64.wrap (j : Int) = (j : Int) := IntWalk.i64_in _ (by omega)
    have z4 : (0 : Int) ≤ (j : Int) := by omega
    have EJ := Lib.hid (isEv_take HV.out j)
    clear hj
    go_upto_region 9 with fail
    simp only [ej]
    clear ej et z2 zz
    by_cases n0 : a.length = 0
    · obtain rfl : a = [] := List.eq_nil_of_length_eq_zero n0
      obtain rfl : j = 0 := by simpa using hjn
      clear n0
      rcases R.out.none_or with e | ⟨g, c, e, hc⟩
      · simp only [Value.slice.injEq] at e
        obtain ⟨rfl, -, rfl⟩ := e
        go_wp2_with fail
        refine (evI_is (row_empty none (by unfold maxLen; omega)) isEv_nil).mono ?_
        rintro e wv4 ⟨rfl, b9⟩
        replace R := Lib.hid (R.out.grow b9)
        replace BB := Lib.hid (BB.out.trans (b9.mono BB.out.size))
        clear b9
        go_wp2_with fail
        go_ret
        exact ⟨by first | rfl | (simp; done) | (simp; omega), BB.out⟩
      · simp only [Value.slice.injEq] at e
        obtain ⟨rfl, -, rfl⟩ := e
        unfold maxLen at hc
        go_wp2_with fail
        refine (evI_is (row_empty (some ⟨g, 0, none⟩) (show cR ≤ maxLen by unfold maxLen; omega)) isEv_nil).mono ?_
        rintro e wv4 ⟨rfl, b9⟩
        replace R := Lib.hid (R.out.grow b9)
        replace BB := Lib.hid (BB.out.trans (b9.mono BB.out.size))
        clear b9
        go_wp2_with fail
        go_ret
        exact ⟨by first | rfl | (simp; done) | (simp; omega), BB.out⟩
    · have p0 : 0 < a.length := by omega
      have i0 : ¬ (a.length : Int) = 0 := by omega
      obtain ⟨g, pR, eR, k5, k6, k7, k8, hp⟩ := R.out.at p0
      simp only [Value.slice.injEq, true_and] at eR
      obtain ⟨rfl, rfl⟩ := eR
      clear hp k5 k6 k7 k8
      obtain ⟨q, hq⟩ : ∃ q, a.length - 1 = q := ⟨_, rfl⟩
      have hqa : q < a.length := by omega
      have w2 : IntKind.i64.wrap ((a.length : Int) - 1) = (q : Int) := by rw [show (a.length : Int) - 1 = (q : Int) by omega]; exact IntWalk.i64_in _ (by omega)
      have i1 : (0 : Int) ≤ (q : Int) := by omega
      have i3 : (q : Int) < (a.length : Int) := by omega
      have i4 : (j : Int) ≤ (cR : Int) := by omega
      obtain ⟨x1, hx1⟩ : ∃ x, a[q].1 = x := ⟨_, rfl⟩
      obtain ⟨x2, hx2⟩ : ∃ x, a[q].2 = x := ⟨_, rfl⟩
      have ET : Hid (isEv (a ++ [(x1, x2)]) = false) := Lib.hid (by have := isEv_twice p0; simp only [hq] at this; rwa [show a[q] = (x1, x2) by rw [← hx1, ← hx2]] at this)
      have HX1 := Lib.hid hx1; have HX2 := Lib.hid hx2
      clear hx1 hx2 hq
      obtain ⟨r, hr⟩ : ∃ r : Nat, len1 % a.length = r := ⟨_, rfl⟩
      have hra : r < a.length := by rw [← hr]; exact Nat.mod_lt _ p0
      have er : (len1 : Int) % (a.length : Int) = (r : Int) := by rw [← hr, Int.natCast_emod]
      have eu : IntKind.i64.wrap ((len1 : Int).tmod (a.length : Int)) = (r : Int) := by rw [Int.tmod_eq_emod_of_nonneg (by omega), er]; exact IntWalk.i64_in _ (by omega)
      have zr : ((a.length : Int) == 0) = false := beq_eq_false_iff_ne.2 (by omega)
      have r0 : (0 : Int) ≤ (r : Int) := by omega
      have r1 : (r : Int) < (a.length : Int) := by omega
      have EZ := Lib.hid (isEv_zero hra (a[r].1))
      clear hr
      have EA := Lib.hid (own_new 27 (Nat.le_refl wv3.heap.size))
      have BA := Lib.hid ((Below.refl wv3.heap.size wv3).alloc (Nat.le_refl _) (.cells #[] 27))
      have XA := Lib.hid (R.out.grow BA.out)
      go_wp2_with (at_builtin; refine append_copy evT rfl _ _ rfl (B := wv3.heap.size) _ rfl EA.out _ _ rfl XA.out (by omega) (by simp) ?_; intro v5 w5 hown5 b5; have O5 := Lib.hid hown5; have B5 := Lib.hid (BA.out.trans b5); clear hown5 b5; obtain ⟨gX, pX, rfl, k5, k6, k7, k8, hp⟩ := O5.out.at p0; have d0 := (hp r hra).bot; have f0 := (hp r hra).f1; have st := (hp r hra).setBot 0; have ST := Lib.hid st; have BS := Lib.hid (B5.out.setCell (p := ⟨gX, r * 2 + 1, none⟩) k7 (.int .i64 0)); unfold maxLen at k6; clear hp st)
      go_upto_region 13 with fail
      replace R := Lib.hid (R.out.grow BS.out)
      replace BB := Lib.hid (BB.out.trans (BS.out.mono BB.out.size))
      generalize (w5.setCell ⟨gX, r * 2 + 1, none⟩ (.int .i64 0)) = WX at ST BS R BB ⊢
      obtain ⟨gR2, pR2, eR, k5', k6', k7', k8', hp⟩ := R.out.at p0
      simp only [Value.slice.injEq, Option.some.injEq, Addr.mk.injEq, true_and, and_true] at eR
      obtain ⟨rfl, rfl⟩ := eR
      have d1 := (hp q hqa).top
      have d2 := (hp q hqa).bot
      rw [HX1.out] at d1
      rw [HX2.out] at d2
      have TX := Lib.hid (rests2_own R.out)
      clear hp k5' k6' k7' k8' EA BA XA d0 f0
      have mkS : ∀ w' : World, Below WX.heap.size WX w' → (Below WX.heap.size WX w' ∧ w'.cell? ⟨g, q * 2, none⟩ = some (.int .i64 x1) ∧ w'.cell? ⟨g, q * 2 + 1, none⟩ = some (.int .i64 x2)) := fun w' h => ⟨h, (h.cell (cell_below d1)).trans d1, (h.cell (cell_below d2)).trans d2⟩
      refine wp_region_held_drew (S := (fun w' => (Below WX.heap.size WX w' ∧ w'.cell? ⟨g, q * 2, none⟩ = some (.int .i64 x1) ∧ w'.cell? ⟨g, q * 2 + 1, none⟩ = some (.int .i64 x2)))) (by kernel_rfl) (by exact mkS _ (Below.refl _ _).drew) (fun hHeld => ?_)
      refine take_h 0 58 rfl rfl (by kernel_rfl) (by kernel_rfl) (by kernel_rfl) (fun _ _ _ h => h) (by kernel_rfl) (by intro w hSw; (try dsimp only at hSw); go_simp; try with_reducible rfl) (by assumption) ?_
      refine take_h 1 59 rfl rfl (by kernel_rfl) (by kernel_rfl) (by kernel_rfl) (fun _ _ _ h => h) (by kernel_rfl) (by intro w hSw; (try dsimp only at hSw); go_simp; try with_reducible rfl) (by assumption) ?_
      refine take_h 2 60 rfl rfl (by kernel_rfl) (by kernel_rfl) (by kernel_rfl) (fun _ _ _ h => h) (by kernel_rfl) (by intro w hSw; (try dsimp only at hSw); go_simp; try with_reducible rfl) (by assumption) ?_
      refine wpAnyH_ready (rs := [3]) (by kernel_rfl) (by simp) (AllReadyH.cons rfl (fun K hK => ?_) AllReadyH.nil)
      go_simp
      go_wp2_with ((go_at_call 13; refine (evI_is ((R.out.row.take j (by omega)).grow hHeld.1) EJ.out).mono ?_; rintro e y3 ⟨rfl, b9⟩))
      refine hK.out _ _ (by (try dsimp only); exact mkS _ (hHeld.1.trans (b9.mono (Below.size hHeld.1)))) (fun hHeld => ?_)
      clear hK K
      refine take_h 4 62 rfl rfl (by kernel_rfl) (by kernel_rfl) (by kernel_rfl) (fun _ _ _ h => h) (by kernel_rfl) (by intro w hSw; (try dsimp only at hSw); go_simp; try with_reducible rfl) (by assumption) ?_
      refine take_h 6 64 rfl rfl (by kernel_rfl) (by kernel_rfl) (by kernel_rfl) (fun _ _ _ h => h) (by kernel_rfl) (by intro w hSw; (try dsimp only at hSw); go_simp; try with_reducible rfl) (by assumption) ?_
      refine take_h 8 66 rfl rfl (by kernel_rfl) (by kernel_rfl) (by kernel_rfl) (fun _ _ _ h => h) (by kernel_rfl) (by intro w hSw; (try dsimp only at hSw); go_simp; try with_reducible rfl) (by assumption) ?_
      refine take_h 9 67 rfl rfl (by kernel_rfl) (by kernel_rfl) (by kernel_rfl) (fun _ _ _ h => h) (by kernel_rfl) (by intro w hSw; (try dsimp only at hSw); go_simp; try with_reducible rfl) (by assumption) ?_
      refine take_h 10 68 rfl rfl (by kernel_rfl) (by kernel_rfl) (by kernel_rfl) (fun _ _ _ h => h) (by kernel_rfl) (by intro w hSw; (try dsimp only at hSw); go_simp; try with_reducible rfl) (by assumption) ?_
      refine take_h 11 69 rfl rfl (by kernel_rfl) (by kernel_rfl) (by kernel_rfl) (fun _ _ _ h => h) (by kernel_rfl) (by intro w hSw; (try dsimp only at hSw); go_simp; try with_reducible rfl) (by assumption) ?_
      refine take_h 12 70 rfl rfl (by kernel_rfl) (by kernel_rfl) (by kernel_rfl) (fun _ _ _ h => h) (by kernel_rfl) (by intro w hSw; (try dsimp only at hSw); go_simp; try with_reducible rfl) (by assumption) ?_
      refine take_h 13 71 rfl rfl (by kernel_rfl) (by kernel_rfl) (by kernel_rfl) (fun _ _ _ h => h) (by kernel_rfl) (by intro w hSw; (try dsimp only at hSw); go_simp; try with_reducible rfl) (by assumption) ?_
      refine wpAnyH_ready (rs := [5, 14]) (by kernel_rfl) (by simp) (AllReadyH.cons rfl (fun K hK => ?_) (AllReadyH.cons rfl (fun K hK => ?_) AllReadyH.nil))
      · have hz3 : WX.heap.size ≤ y3.heap.size := Below.size hHeld.1
        go_simp
        refine hK.out _ _ (by (try dsimp only); exact mkS _ (hHeld.1.alloc (Below.size hHeld.1) _)) (fun hHeld => ?_)
        clear hK K
        refine wpAnyH_ready (rs := [7, 14]) (by kernel_rfl) (by simp) (AllReadyH.cons rfl (fun K hK => ?_) (AllReadyH.cons rfl (fun K hK => ?_) AllReadyH.nil))
        · refine step_append_list_g evT (by go_simp) _ _ rfl (B := WX.heap.size) _ [] rfl (own_empty (W := WX) (b := y3.heap.size) (by first | exact Array.getElem?_push_size | exact first_block _ _ _ | exact second_block _ _ _) (by omega)) ⟨g, 0, none⟩ a.length cR a rfl rfl (TX.out.grow hHeld.1) (by simp; omega) (Below.size hHeld.1) ?_
          intro vA wA hownA hgA
          rw [List.nil_append] at hownA
          refine hK.out _ _ (by (try dsimp only); exact mkS _ (Below.grown hHeld.1 hgA (Below.size hHeld.1) (fun k hk => by have h9 : y3.heap.size = k := Option.some.inj hk; omega))) (fun hHeld => ?_)
          clear hK K
          refine wpAnyH_ready (rs := [14]) (by kernel_rfl) (by simp) (AllReadyH.cons rfl (fun K hK => ?_) AllReadyH.nil)
          go_simp
          refine hK.out _ _ (by (try dsimp only); exact mkS _ (hHeld.1.alloc (Below.size hHeld.1) _)) (fun hHeld => ?_)
          clear hK K
          refine wpAnyH_ready (rs := [15]) (by kernel_rfl) (by simp) (AllReadyH.cons rfl (fun K hK => ?_) AllReadyH.nil)
          refine step_append_list_g evT (by go_simp) _ _ rfl (B := WX.heap.size) _ a rfl (hownA.grow ((Below.refl _ _).alloc (Nat.le_refl _) _)) ⟨wA.heap.size, 0, none⟩ 1 1 [(x1, x2)] rfl rfl (rests2_one (by go_cell) (by go_cell)) (by omega) (Below.size hHeld.1) ?_
          intro vB wB hownB hgB
          refine hK.out _ _ (by (try dsimp only); exact mkS _ (Below.grown hHeld.1 hgB (Below.size hHeld.1) (fun k hk => (hownA.lt k hk).1))) (fun hHeld => ?_)
          clear hK K
          refine wpAnyH_ready (rs := [16]) (by kernel_rfl) (by simp) (AllReadyH.cons rfl (fun K hK => ?_) AllReadyH.nil)
          go_simp
          go_wp2_with ((go_at_call 13; refine (evI_is hownB.row ET.out).mono ?_; rintro e y16 ⟨rfl, b9⟩))
          refine hK.out _ _ (by (try dsimp only); exact mkS _ (hHeld.1.trans (b9.mono (Below.size hHeld.1)))) (fun hHeld => ?_)
          clear hK K
          refine take_h 17 75 rfl rfl (by kernel_rfl) (by kernel_rfl) (by kernel_rfl) (fun _ _ _ h => h) (by kernel_rfl) (by intro w hSw; (try dsimp only at hSw); go_simp; try with_reducible rfl) (by assumption) ?_
          refine take_h 18 76 rfl rfl (by kernel_rfl) (by kernel_rfl) (by kernel_rfl) (fun _ _ _ h => h) (by kernel_rfl) (by intro w hSw; (try dsimp only at hSw); go_simp; try with_reducible rfl) (by assumption) ?_
          refine take_h 19 77 rfl rfl (by kernel_rfl) (by kernel_rfl) (by kernel_rfl) (fun _ _ _ h => h) (by kernel_rfl) (by intro w hSw; (try dsimp only at hSw); go_simp; try with_reducible rfl) (by assumption) ?_
          refine take_h 20 78 rfl rfl (by kernel_rfl) (by kernel_rfl) (by kernel_rfl) (fun _ _ _ h => h) (by kernel_rfl) (by intro w hSw; (try dsimp only at hSw); go_simp; try with_reducible rfl) (by assumption) ?_
          refine wpAnyH_ready (rs := [21]) (by kernel_rfl) (by simp) (AllReadyH.cons rfl (fun K hK => ?_) AllReadyH.nil)
          go_simp
          go_wp2_with ((go_at_call 13; refine (evI_is (ST.out.row.grow hHeld.1) EZ.out).mono ?_; rintro e y21 ⟨rfl, b9⟩))
          refine hK.out _ _ (by (try dsimp only); exact mkS _ (hHeld.1.trans (b9.mono (Below.size hHeld.1)))) (fun hHeld => ?_)
          clear hK K
          refine take_h 22 80 rfl rfl (by kernel_rfl) (by kernel_rfl) (by kernel_rfl) (fun _ _ _ h => h) (by kernel_rfl) (by intro w hSw; (try dsimp only at hSw); go_simp; try with_reducible rfl) (by assumption) ?_
          refine take_h 23 81 rfl rfl (by kernel_rfl) (by kernel_rfl) (by kernel_rfl) (fun _ _ _ h => h) (by kernel_rfl) (by intro w hSw; (try dsimp only at hSw); go_simp; try with_reducible rfl) (by assumption) ?_
          refine take_h 24 4 rfl rfl (by kernel_rfl) (by kernel_rfl) (by kernel_rfl) (fun _ _ _ h => h) (by kernel_rfl) (by intro w hSw; (try dsimp only at hSw); go_simp; try with_reducible rfl) (by assumption) ?_
          refine wpAnyH_done (by kernel_rfl) ?_ _
          simp only [Exit.then]
          try simp only [Act.put, List.setIfInBounds_toArray]
          replace BB := Lib.hid (BB.out.trans (hHeld.1.mono BB.out.size))
          clear hHeld
          go_wp2_with fail
          go_ret
          exact ⟨by first | rfl | (simp; done) | (simp; omega), BB.out⟩
        · go_simp
          refine hK.out _ _ (by (try dsimp only); exact mkS _ (hHeld.1.alloc (Below.size hHeld.1) _)) (fun hHeld => ?_)
          clear hK K
          refine wpAnyH_ready (rs := [7]) (by kernel_rfl) (by simp) (AllReadyH.cons rfl (fun K hK => ?_) AllReadyH.nil)
          refine step_append_list_g evT (by go_simp) _ _ rfl (B := WX.heap.size) _ [] rfl (own_empty (W := WX) (b := y3.heap.size) (by first | exact Array.getElem?_push_size | exact first_block _ _ _ | exact second_block _ _ _) (by omega)) ⟨g, 0, none⟩ a.length cR a rfl rfl (TX.out.grow hHeld.1) (by simp; omega) (Below.size hHeld.1) ?_
          intro vA wA hownA hgA
          rw [List.nil_append] at hownA
          have kN : wA.cell? ⟨y3.heap.size + 1, 0, none⟩ = some (.int .i64 x1) := hgA.cell (by go_cell) (fun e => by have h9 : y3.heap.size + 1 = y3.heap.size := Option.some.inj e; omega)
          have kM : wA.cell? ⟨y3.heap.size + 1, 1, none⟩ = some (.int .i64 x2) := hgA.cell (by go_cell) (fun e => by have h9 : y3.heap.size + 1 = y3.heap.size := Option.some.inj e; omega)
          refine hK.out _ _ (by (try dsimp only); exact mkS _ (Below.grown hHeld.1 hgA (Below.size hHeld.1) (fun k hk => by have h9 : y3.heap.size = k := Option.some.inj hk; omega))) (fun hHeld => ?_)
          clear hK K
          refine wpAnyH_ready (rs := [15]) (by kernel_rfl) (by simp) (AllReadyH.cons rfl (fun K hK => ?_) AllReadyH.nil)
          refine step_append_list_g evT (by go_simp) _ _ rfl (B := WX.heap.size) _ a rfl hownA ⟨y3.heap.size + 1, 0, none⟩ 1 1 [(x1, x2)] rfl rfl (rests2_one kN kM) (by omega) (Below.size hHeld.1) ?_
          intro vB wB hownB hgB
          refine hK.out _ _ (by (try dsimp only); exact mkS _ (Below.grown hHeld.1 hgB (Below.size hHeld.1) (fun k hk => (hownA.lt k hk).1))) (fun hHeld => ?_)
          clear hK K
          refine wpAnyH_ready (rs := [16]) (by kernel_rfl) (by simp) (AllReadyH.cons rfl (fun K hK => ?_) AllReadyH.nil)
          go_simp
          go_wp2_with ((go_at_call 13; refine (evI_is hownB.row ET.out).mono ?_; rintro e y16 ⟨rfl, b9⟩))
          refine hK.out _ _ (by (try dsimp only); exact mkS _ (hHeld.1.trans (b9.mono (Below.size hHeld.1)))) (fun hHeld => ?_)
          clear hK K
          refine take_h 17 75 rfl rfl (by kernel_rfl) (by kernel_rfl) (by kernel_rfl) (fun _ _ _ h => h) (by kernel_rfl) (by intro w hSw; (try dsimp only at hSw); go_simp; try with_reducible rfl) (by assumption) ?_
          refine take_h 18 76 rfl rfl (by kernel_rfl) (by kernel_rfl) (by kernel_rfl) (fun _ _ _ h => h) (by kernel_rfl) (by intro w hSw; (try dsimp only at hSw); go_simp; try with_reducible rfl) (by assumption) ?_
          refine take_h 19 77 rfl rfl (by kernel_rfl) (by kernel_rfl) (by kernel_rfl) (fun _ _ _ h => h) (by kernel_rfl) (by intro w hSw; (try dsimp only at hSw); go_simp; try with_reducible rfl) (by assumption) ?_
          refine take_h 20 78 rfl rfl (by kernel_rfl) (by kernel_rfl) (by kernel_rfl) (fun _ _ _ h => h) (by kernel_rfl) (by intro w hSw; (try dsimp only at hSw); go_simp; try with_reducible rfl) (by assumption) ?_
          refine wpAnyH_ready (rs := [21]) (by kernel_rfl) (by simp) (AllReadyH.cons rfl (fun K hK => ?_) AllReadyH.nil)
          go_simp
          go_wp2_with ((go_at_call 13; refine (evI_is (ST.out.row.grow hHeld.1) EZ.out).mono ?_; rintro e y21 ⟨rfl, b9⟩))
          refine hK.out _ _ (by (try dsimp only); exact mkS _ (hHeld.1.trans (b9.mono (Below.size hHeld.1)))) (fun hHeld => ?_)
          clear hK K
          refine take_h 22 80 rfl rfl (by kernel_rfl) (by kernel_rfl) (by kernel_rfl) (fun _ _ _ h => h) (by kernel_rfl) (by intro w hSw; (try dsimp only at hSw); go_simp; try with_reducible rfl) (by assumption) ?_
          refine take_h 23 81 rfl rfl (by kernel_rfl) (by kernel_rfl) (by kernel_rfl) (fun _ _ _ h => h) (by kernel_rfl) (by intro w hSw; (try dsimp only at hSw); go_simp; try with_reducible rfl) (by assumption) ?_
          refine take_h 24 4 rfl rfl (by kernel_rfl) (by kernel_rfl) (by kernel_rfl) (fun _ _ _ h => h) (by kernel_rfl) (by intro w hSw; (try dsimp only at hSw); go_simp; try with_reducible rfl) (by assumption) ?_
          refine wpAnyH_done (by kernel_rfl) ?_ _
          simp only [Exit.then]
          try simp only [Act.put, List.setIfInBounds_toArray]
          replace BB := Lib.hid (BB.out.trans (hHeld.1.mono BB.out.size))
          clear hHeld
          go_wp2_with fail
          go_ret
          exact ⟨by first | rfl | (simp; done) | (simp; omega), BB.out⟩
      · have hz3 : WX.heap.size ≤ y3.heap.size := Below.size hHeld.1
        go_simp
        refine hK.out _ _ (by (try dsimp only); exact mkS _ (hHeld.1.alloc (Below.size hHeld.1) _)) (fun hHeld => ?_)
        clear hK K
        refine wpAnyH_ready (rs := [5]) (by kernel_rfl) (by simp) (AllReadyH.cons rfl (fun K hK => ?_) AllReadyH.nil)
        go_simp
        refine hK.out _ _ (by (try dsimp only); exact mkS _ (hHeld.1.alloc (Below.size hHeld.1) _)) (fun hHeld => ?_)
        clear hK K
        refine wpAnyH_ready (rs := [7]) (by kernel_rfl) (by simp) (AllReadyH.cons rfl (fun K hK => ?_) AllReadyH.nil)
        refine step_append_list_g evT (by go_simp) _ _ rfl (B := WX.heap.size) _ [] rfl (own_empty (W := WX) (b := y3.heap.size + 1) (by first | exact Array.getElem?_push_size | exact first_block _ _ _ | exact second_block _ _ _) (by omega)) ⟨g, 0, none⟩ a.length cR a rfl rfl (TX.out.grow hHeld.1) (by simp; omega) (Below.size hHeld.1) ?_
        intro vA wA hownA hgA
        rw [List.nil_append] at hownA
        have kN : wA.cell? ⟨y3.heap.size, 0, none⟩ = some (.int .i64 x1) := hgA.cell (by go_cell) (fun e => by have h9 : y3.heap.size = y3.heap.size + 1 := Option.some.inj e; omega)
        have kM : wA.cell? ⟨y3.heap.size, 1, none⟩ = some (.int .i64 x2) := hgA.cell (by go_cell) (fun e => by have h9 : y3.heap.size = y3.heap.size + 1 := Option.some.inj e; omega)
        refine hK.out _ _ (by (try dsimp only); exact mkS _ (Below.grown hHeld.1 hgA (Below.size hHeld.1) (fun k hk => by have h9 : y3.heap.size + 1 = k := Option.some.inj hk; omega))) (fun hHeld => ?_)
        clear hK K
        refine wpAnyH_ready (rs := [15]) (by kernel_rfl) (by simp) (AllReadyH.cons rfl (fun K hK => ?_) AllReadyH.nil)
        refine step_append_list_g evT (by go_simp) _ _ rfl (B := WX.heap.size) _ a rfl hownA ⟨y3.heap.size, 0, none⟩ 1 1 [(x1, x2)] rfl rfl (rests2_one kN kM) (by omega) (Below.size hHeld.1) ?_
        intro vB wB hownB hgB
        refine hK.out _ _ (by (try dsimp only); exact mkS _ (Below.grown hHeld.1 hgB (Below.size hHeld.1) (fun k hk => (hownA.lt k hk).1))) (fun hHeld => ?_)
        clear hK K
        refine wpAnyH_ready (rs := [16]) (by kernel_rfl) (by simp) (AllReadyH.cons rfl (fun K hK => ?_) AllReadyH.nil)
        go_simp
        go_wp2_with ((go_at_call 13; refine (evI_is hownB.row ET.out).mono ?_; rintro e y16 ⟨rfl, b9⟩))
        refine hK.out _ _ (by (try dsimp only); exact mkS _ (hHeld.1.trans (b9.mono (Below.size hHeld.1)))) (fun hHeld => ?_)
        clear hK K
        refine take_h 17 75 rfl rfl (by kernel_rfl) (by kernel_rfl) (by kernel_rfl) (fun _ _ _ h => h) (by kernel_rfl) (by intro w hSw; (try dsimp only at hSw); go_simp; try with_reducible rfl) (by assumption) ?_
        refine take_h 18 76 rfl rfl (by kernel_rfl) (by kernel_rfl) (by kernel_rfl) (fun _ _ _ h => h) (by kernel_rfl) (by intro w hSw; (try dsimp only at hSw); go_simp; try with_reducible rfl) (by assumption) ?_
        refine take_h 19 77 rfl rfl (by kernel_rfl) (by kernel_rfl) (by kernel_rfl) (fun _ _ _ h => h) (by kernel_rfl) (by intro w hSw; (try dsimp only at hSw); go_simp; try with_reducible rfl) (by assumption) ?_
        refine take_h 20 78 rfl rfl (by kernel_rfl) (by kernel_rfl) (by kernel_rfl) (fun _ _ _ h => h) (by kernel_rfl) (by intro w hSw; (try dsimp only at hSw); go_simp; try with_reducible rfl) (by assumption) ?_
        refine wpAnyH_ready (rs := [21]) (by kernel_rfl) (by simp) (AllReadyH.cons rfl (fun K hK => ?_) AllReadyH.nil)
        go_simp
        go_wp2_with ((go_at_call 13; refine (evI_is (ST.out.row.grow hHeld.1) EZ.out).mono ?_; rintro e y21 ⟨rfl, b9⟩))
        refine hK.out _ _ (by (try dsimp only); exact mkS _ (hHeld.1.trans (b9.mono (Below.size hHeld.1)))) (fun hHeld => ?_)
        clear hK K
        refine take_h 22 80 rfl rfl (by kernel_rfl) (by kernel_rfl) (by kernel_rfl) (fun _ _ _ h => h) (by kernel_rfl) (by intro w hSw; (try dsimp only at hSw); go_simp; try with_reducible rfl) (by assumption) ?_
        refine take_h 23 81 rfl rfl (by kernel_rfl) (by kernel_rfl) (by kernel_rfl) (fun _ _ _ h => h) (by kernel_rfl) (by intro w hSw; (try dsimp only at hSw); go_simp; try with_reducible rfl) (by assumption) ?_
        refine take_h 24 4 rfl rfl (by kernel_rfl) (by kernel_rfl) (by kernel_rfl) (fun _ _ _ h => h) (by kernel_rfl) (by intro w hSw; (try dsimp only at hSw); go_simp; try with_reducible rfl) (by assumption) ?_
        refine wpAnyH_done (by kernel_rfl) ?_ _
        simp only [Exit.then]
        try simp only [Act.put, List.setIfInBounds_toArray]
        replace BB := Lib.hid (BB.out.trans (hHeld.1.mono BB.out.size))
        clear hHeld
        go_wp2_with fail
        go_ret
        exact ⟨by first | rfl | (simp; done) | (simp; omega), BB.out⟩

set_option maxRecDepth 100000 in
theorem lifted (os : Os) (started : os.Started) (H : Type) (enc : TypeId × Value → H) :
    ReturnsInHanded {} Try.checked os 3 .any (Rows.fnEventsSpec.pre6 enc Try.prog Try.f3 Rows.fnEventsRow.domain false) (Rows.fnEventsSpec.post enc Try.prog Try.f3 false true false false) := by
  refine returnsInHanded_of_change (C := Try.checked) own started (by kernel_rfl) Try.func3
    (ChangeSpec.witness6 (enc := enc) (C := Try.checked) false ⟨#[], #[.slice none 0 0, .slice none 0 0], []⟩ 8 (by kernel_rfl) (by kernel_rfl) (by kernel_rfl) (by kernel_rfl)) ?_
  intro W base args ds gs before hval0 hW hcnd _
  have hval : ∀ (j : Nat) t v, Try.f3.params[j]? = some t → args[j]? = some v → Value.okWide Try.prog W .any base t v := hval0
  have hW' := hW
  obtain ⟨p, q, hA0, hV, rfl, hfz, hnd⟩ := hW
  have hA : DataW.TrodAll enc Try.prog W 0 (fun _ => true) true Try.f3.params.toList args.toList ds p := hA0
  rw [Try.params3] at hA hval
  obtain ⟨v0, vs0, d0, ds0, p0, q0, hargs, rfl, rfl, h0, r0⟩ := trodAll_cons hA
  obtain ⟨v1, vs1, d1, ds1, p1, q1, rfl, rfl, rfl, h1, r1⟩ := trodAll_cons r0
  obtain ⟨rfl, rfl, rfl⟩ := trodAll_nil r1
  obtain rfl : args = #[v0, v1] := by cases args; simp_all
  obtain ⟨rfl, rfl⟩ := trodVars_none hV
  obtain ⟨a0, len0, cap0, rfl⟩ := okWide_slice Try.underlying22 (hval 0 22 v0 rfl rfl)
  have k0 := h0
  have lt0 : ∀ x ∈ p0, x.block < W.heap.size := by obtain ⟨m, hm⟩ := k0; exact DataW.trod_lt m _ _ _ hm
  obtain ⟨z0, w0⟩ : ∃ zs, IsRow .u8 W a0 len0 cap0 zs := by
    obtain ⟨fuel, hf⟩ := h0
    rcases open_ints Try.underlying22 Try.underlying5 (by kernel_rfl) hf with ⟨hcs, _⟩ | ⟨x, l, c, zs, hcs, _, hl, hm, hz, _, hcell, hwz⟩
    · simp [Value.cells] at hcs
      obtain ⟨rfl, rfl, rfl⟩ := hcs
      exact ⟨[], .inl ⟨rfl, rfl, rfl, rfl⟩⟩
    · simp [Value.cells] at hcs
      obtain ⟨rfl, rfl, rfl⟩ := hcs
      exact ⟨zs, .inr ⟨_, rfl, hl, hm, by simpa using hz, hcell, hwz⟩⟩
  obtain ⟨a1, len1, cap1, rfl⟩ := okWide_slice Try.underlying22 (hval 1 22 v1 rfl rfl)
  have k1 := h1
  have lt1 : ∀ x ∈ p1, x.block < W.heap.size := by obtain ⟨m, hm⟩ := k1; exact DataW.trod_lt m _ _ _ hm
  obtain ⟨z1, w1⟩ : ∃ zs, IsRow .u8 W a1 len1 cap1 zs := by
    obtain ⟨fuel, hf⟩ := h1
    rcases open_ints Try.underlying22 Try.underlying5 (by kernel_rfl) hf with ⟨hcs, _⟩ | ⟨x, l, c, zs, hcs, _, hl, hm, hz, _, hcell, hwz⟩
    · simp [Value.cells] at hcs
      obtain ⟨rfl, rfl, rfl⟩ := hcs
      exact ⟨[], .inl ⟨rfl, rfl, rfl, rfl⟩⟩
    · simp [Value.cells] at hcs
      obtain ⟨rfl, rfl, rfl⟩ := hcs
      exact ⟨zs, .inr ⟨_, rfl, hl, hm, by simpa using hz, hcell, hwz⟩⟩
  clear hA0 hval0
  refine (walk a0 len0 cap0 z0 a1 len1 cap1 z1 W w0 w1).mono fun e W' ⟨he, bel⟩ => ?_
  subst he
  exact ⟨_, rfl, _, _, _, [], _, [], hW', trodAll_mk1 (shut_bool Try.underlying4 _), (trodAll_cons_mk (Below.trod laidOut (by kernel_rfl) (of_decide_eq_true (by kernel_rfl)) k0 bel lt0) (trodAll_cons_mk (Below.trod laidOut (by kernel_rfl) (of_decide_eq_true (by kernel_rfl)) k1 bel lt1) trodAll_mk0)), rfl, bel.frame _, fun h => by cases h⟩

theorem over : Rows.fnEventsRow.holds Try.pinned (OpenSpec.ofChange Rows.fnEventsSpec) :=
  OpenClaim.holds_of_wide 3 Try.f3 rfl rfl rfl rfl rfl rfl rfl ⟨rfl, rfl, rfl, rfl, rfl⟩ rfl rfl rfl rfl rfl (by kernel_rfl) Try.func3 (by kernel_rfl)
    (of_decide_eq_true (by kernel_rfl)) (by unfold Func.isWrapper; first | (rw [if_pos (by decide +kernel)]; kernel_rfl) | (rw [if_neg (by decide +kernel)]; exact ⟨rfl, rfl⟩))
    (fun os started H enc _ => lifted os started H enc)

/-- ████ THE STATEMENT ████ -/
theorem proved : Rows.FnEventsSaid := over
#print axioms proved
end Go.Proofs.Ytmibipnkjpkngaa.fnEvents
