/- For every input, the law FnRecord of the given statements returns true over the program at this commit, and its arguments read afterwards as before: no condition. -/
import Derived.Test.YtkcbgeldnibjcaaRows
import Derived.Test.YtkcbgeldnibjcaaStepG
import Derived.WalkKit
import Derived.ProofKit
import Derived.OpenShut
import Derived.ShutString
import Derived.ChangeOld
import Derived.Below
namespace Go.Proofs.Ytkcbgeldnibjcaa.fnRecord
open Go.ChangeShapes Go.WideShapes Go.ChangeAt Go.RowKit
open Go.ChangeMaps (open_string shut_string)
set_option linter.unusedVariables false

theorem own : ownKnob Try.prog.godebug = none := by kernel_rfl
theorem laidOut : laidOutB Try.prog = true := by kernel_rfl

/-- WHAT THE WALK IS TOLD OF A SLICE OF INTEGERS THAT CAME IN: it is nil; or it leads to a row of 'cap' cells, the numbers 'zs' (the first 'len' are its elements, the rest its spare room), each fitting its kind. -/
def IsRow (k : IntKind) (w : World) (a : Option Addr) (len cap : Nat) (zs : List Int) : Prop :=
  (a = none ∧ len = 0 ∧ cap = 0 ∧ zs = []) ∨
  ∃ x, a = some x ∧ len ≤ cap ∧ cap ≤ maxLen ∧ zs.length = cap ∧ (∀ i, i < zs.length → w.cell? (x.add i) = some (.int k (zs.getD i 0))) ∧ ∀ n ∈ zs, (Lit.int k n).wf = true

set_option maxRecDepth 100000 in
set_option maxHeartbeats 3200000 in
theorem walk (a0 : Option Addr) (len0 cap0 : Nat) (z0 : List Int) (a1 : Option Addr) (len1 cap1 : Nat) (z1 : List Int) (w : World) (w0 : IsRow .u8 w a0 len0 cap0 z0) (w1 : IsRow .u8 w a1 len1 cap1 z1) :
    Calls Try.prog 3 #[.slice a0 len0 cap0, .slice a1 len1 cap1] w fun e w' => e = .returned (.bool true) ∧ Below w.heap.size w w' := by
  have hB := bytes_of w0
  have hB1 := bytes_len (bytes_of w1)
  unfold maxLen at hB1
  by_cases hl : 1048576 < len0
  · have hdec : decide (1048576 < len0) = true := by simpa using hl
    go_enter Try.func3, Try.ntmps3
    go_wp2_with fail
    go_ret
    exact ⟨rfl, Below.refl _ _⟩
  have hdec : decide (1048576 < len0) = false := by simpa using hl
  by_cases hl1 : 1048576 < len1
  · go_enter Try.func3, Try.ntmps3
    go_wp2_with fail
    go_ret
    exact ⟨rfl, Below.refl _ _⟩
  have hm : len0 ≤ 1048576 := by omega
  have hm1 : len1 ≤ 1048576 := by omega
  clear hB1
  go_enter Try.func3, Try.ntmps3
  go_wp2_with fail
  refine (DrawRecordValid_any hB).mono ?_
  rintro e wv1 ⟨v, u, l, a, rfl, rl, ra, hl2, ha1, b1⟩
  clear w0 w1 hB
  have S := St.start b1
  clear b1
  have R := Lib.hid (show Rec _ _ _ l a from ⟨rl, ra⟩)
  clear rl ra
  cases hv : isRec l a
  · have HV := Lib.hid hv
    clear hv
    go_wp2_with fail
    refine (recI_is R.out HV.out).mono ?_
    rintro e wv2 ⟨rfl, b2⟩
    replace R := Lib.hid ((R.out.grow b2))
    replace S := (S.next b2)
    clear b2
    go_wp2_with fail
    refine (recS_is R.out.1 R.out.2 HV.out).mono ?_
    rintro e wv3 ⟨rfl, b3⟩
    replace R := Lib.hid ((R.out.grow b3))
    replace S := (S.next b3)
    clear b3
    go_wp2_with fail
    go_ret
    exact ⟨by first | rfl | (simp; done) | (simp; omega), S.below⟩
  · have HV := Lib.hid hv
    clear hv
    go_wp2_with fail
    refine (recI_is R.out HV.out).mono ?_
    rintro e wv2 ⟨rfl, b2⟩
    replace R := Lib.hid ((R.out.grow b2))
    replace S := (S.next b2)
    clear b2
    go_wp2_with fail
    refine (recS_is R.out.1 R.out.2 HV.out).mono ?_
    rintro e wv3 ⟨rfl, b3⟩
    replace R := Lib.hid ((R.out.grow b3))
    replace S := (S.next b3)
    clear b3
    obtain ⟨hL, ha0, ha20⟩ := rec_len HV.out
    obtain ⟨g, o, cp, rfl, hcap, hcapm⟩ := R.out.1.known (by omega)
    obtain ⟨g', o', cp', rfl, hcap', hcapm'⟩ := R.out.2.known (by omega)
    unfold maxLen at hcapm hcapm'
    rw [hL] at hcap
    rw [hL] at R
    rw [hL]
    have HL := Lib.hid hL
    have hl0 : 0 < l.length := by omega
    have hla : a.length < l.length := by omega
    clear hL
    have q0 : (0 : Int) < (a.length : Int) + 1 := by omega
    have q1 : 0 < a.length + 1 := by omega
    have q2 : IntKind.i64.wrap ((a.length : Int) + 1 - 1) = (a.length : Int) := by rw [show (a.length : Int) + 1 - 1 = a.length by omega]; exact IntWalk.i64_in _ (by omega)
    have q2' : IntKind.i64.wrap (a.length : Int) = (a.length : Int) := IntWalk.i64_in _ (by omega)
    have q3 : (0 : Int) ≤ (a.length : Int) := by omega
    have q4 : (a.length : Int) < (a.length : Int) + 1 := by omega
    have q5 : a.length < a.length + 1 := by omega
    obtain ⟨y, hy⟩ : ∃ y : Int, (len1 : Int).tmod (a.length : Int) = y := ⟨_, rfl⟩
    have hy0 : 0 ≤ y := by rw [← hy]; exact Int.tmod_nonneg _ (by omega)
    have hy1 : y < (a.length : Int) := by rw [← hy]; exact Int.tmod_lt_of_pos _ (by omega)
    have hye : (len1 : Int) % (a.length : Int) = y := by rw [← hy, Int.tmod_eq_emod_of_nonneg (by omega)]
    have z2 : ¬ ((a.length : Int) = 0) := by omega
    obtain ⟨j, rfl⟩ : ∃ j : Nat, y = j := ⟨y.toNat, by omega⟩
    have hj : j < a.length := by omega
    have z3 : IntKind.i64.wrap (j : Int) = (j : Int) := IntWalk.i64_in _ (by omega)
    have z4 : IntKind.i64.wrap ((j : Int) + 1) = (j : Int) + 1 := IntWalk.i64_in _ (by omega)
    have i1 : (j : Int) < (a.length : Int) + 1 := by omega
    have i2 : (0 : Int) ≤ (j : Int) := by omega
    have i3 : (j : Int) + 1 < (a.length : Int) + 1 := by omega
    have i4 : ((j : Int) + 1).toNat = j + 1 := by omega
    have i5 : (0 : Int) ≤ (j : Int) + 1 := by omega
    have i6 : (j : Int) < (a.length : Int) := by omega
    have i7 : j < a.length + 1 := by omega
    have i8 : j + 1 < a.length + 1 := by omega
    have hj0 : j < l.length := by omega
    have hj1 : j + 1 < l.length := by omega
    have za : IntKind.i64.wrap (1 + (j : Int)) = 1 + (j : Int) := IntWalk.i64_in _ (by omega)
    have zb : IntKind.i64.wrap (1 + (j : Int) - 1) = (j : Int) := by rw [show 1 + (j : Int) - 1 = j by omega]; exact IntWalk.i64_in _ (by omega)
    have zc : IntKind.i64.wrap (1 + (j : Int) + 1) = 1 + (j : Int) + 1 := IntWalk.i64_in _ (by omega)
    have zd : (1 + (j : Int)).toNat = j + 1 := by omega
    have ze : (1 + (j : Int) + 1).toNat = j + 2 := by omega
    have zf : (0 : Int) ≤ 1 + (j : Int) := by omega
    have zg : (0 : Int) ≤ 1 + (j : Int) + 1 := by omega
    have zh : 1 + (j : Int) ≤ (cp' : Int) := by omega
    have zi : 1 + (j : Int) + 1 ≤ (cp : Int) := by omega
    have zj : (1 : Int) ≤ (a.length : Int) := by omega
    have zk : 1 ≤ a.length := by omega
    have T1 := Lib.hid (rec_take HV.out (k := j + 1) (by omega) (by omega))
    have T2 : Hid (isRec l (a.drop 1) = false) := Lib.hid (rec_not_len (by rw [List.length_drop, HL.out]; omega))
    have T3 : Hid (isRec l (a ++ [0]) = false) := Lib.hid (rec_not_len (by rw [List.length_append, HL.out]; simp))
    have T4 : Hid (isRec l (a.set j (-1)) = false) := Lib.hid (rec_not_amount j (by rw [List.length_set]; exact hj) (.inl (by rw [List.getElem_set_self]; decide)))
    have BA := (Below.refl wv3.heap.size wv3).alloc (Nat.le_refl _) (.cells #[] 3)
    have TA := Lib.hid (rests_row (R.out.2.grow BA))
    have BA' := Lib.hid BA
    clear BA
    go_wp2_with (at_builtin; refine iappend_list intsT rfl _ _ rfl (B := wv3.heap.size) _ [] rfl (iown_empty (W := wv3) Array.getElem?_push_size (Nat.le_refl _)) ⟨g', o', none⟩ a.length cp' a rfl rfl TA.out (by simp; omega) (by simp) ?_; intro v5 w5 hown5 hg5)
    rw [List.nil_append] at hown5
    have B5 : Below wv3.heap.size wv3 w5 := Below.grown BA'.out hg5 BA'.out.size (fun k hk => Nat.le_of_eq (Option.some.inj hk))
    obtain ⟨g5, c5, hu5, hc5, hc5m, hB5, hg5w, hp5⟩ := hown5.at (by omega)
    unfold maxLen at hc5m
    have e5 := (hp5 j hj).cell
    have f5 := (hp5 j hj).froz
    have OX := Lib.hid ((hp5 j hj).set (-1))
    have B6 := Lib.hid (B5.setCell (p := ⟨g5, j, none⟩) hB5 (.int .i64 (-1)))
    subst hu5
    clear hp5 hown5 hg5 TA BA' B5
    go_simp
    go_upto_region 11 with fail
    have RX := Lib.hid (R.out.grow B6.out)
    have SX := S.next B6.out
    generalize (w5.setCell ⟨g5, j, none⟩ (.int .i64 (-1))) = WX at OX B6 RX SX ⊢
    clear e5 f5
    obtain ⟨ad, had, rd⟩ : ∃ ad, (if cp' = 1 then (some ⟨g', o', none⟩ : Option Addr) else some ⟨g', o' + 1, none⟩) = some ad ∧ IRow WX (.slice (some ad) (a.length - 1) (cp' - 1)) (a.drop 1) := by
      by_cases hc : cp' = 1
      · refine ⟨_, if_pos hc, ?_⟩
        rw [show a.length - 1 = 0 by omega, List.drop_of_length_le (by omega)]
        exact irow_empty _ (by unfold maxLen; omega)
      · exact ⟨_, if_neg hc, RX.out.2.drop 1 (by omega)⟩
    have RD := Lib.hid rd
    have TX := Lib.hid (rests_row RX.out.2)
    have R0 := Lib.hid (show Rec WX (.slice (some ⟨g, o, none⟩) (j + 2) cp) (.slice (some ⟨g', o', none⟩) (j + 1) cp') (l.take (j + 1 + 1)) (a.take (j + 1)) from ⟨RX.out.1.take (j + 2) (by omega), RX.out.2.take (j + 1) (by omega)⟩)
    clear rd
    have nc1 : ¬ cp = j + 2 ∨ True := .inr trivial
    clear nc1
    refine wp_region_held_drew (S := (fun w' => Since WX w')) (by kernel_rfl) (by exact (since_refl WX).drew) (fun hHeld => ?_)
    refine take_h 0 53 rfl rfl (by kernel_rfl) (by kernel_rfl) (by kernel_rfl) (fun _ _ _ h => h) (by kernel_rfl) (by intro w hSw; (try dsimp only at hSw); go_simp; try with_reducible rfl) (by assumption) ?_
    refine take_h 1 54 rfl rfl (by kernel_rfl) (by kernel_rfl) (by kernel_rfl) (fun _ _ _ h => h) (by kernel_rfl) (by intro w hSw; (try dsimp only at hSw); go_simp; try with_reducible rfl) (by assumption) ?_
    refine take_h 2 55 rfl rfl (by kernel_rfl) (by kernel_rfl) (by kernel_rfl) (fun _ _ _ h => h) (by kernel_rfl) (by intro w hSw; (try dsimp only at hSw); go_simp; try with_reducible rfl) (by assumption) ?_
    refine take_h 3 56 rfl rfl (by kernel_rfl) (by kernel_rfl) (by kernel_rfl) (fun _ _ _ h => h) (by kernel_rfl) (by intro w hSw; (try dsimp only at hSw); go_simp; try with_reducible rfl) (by assumption) ?_
    refine take_h 4 57 rfl rfl (by kernel_rfl) (by kernel_rfl) (by kernel_rfl) (fun _ _ _ h => h) (by kernel_rfl) (by intro w hSw; (try dsimp only at hSw); go_simp; try with_reducible rfl) (by assumption) ?_
    refine take_h 5 58 rfl rfl (by kernel_rfl) (by kernel_rfl) (by kernel_rfl) (fun _ _ _ h => h) (by kernel_rfl) (by intro w hSw; (try dsimp only at hSw); go_simp; try with_reducible rfl) (by assumption) ?_
    refine take_h 6 59 rfl rfl (by kernel_rfl) (by kernel_rfl) (by kernel_rfl) (fun _ _ _ h => h) (by kernel_rfl) (by intro w hSw; (try dsimp only at hSw); go_simp; try with_reducible rfl) (by assumption) ?_
    refine wpAnyH_ready (rs := [7]) (by kernel_rfl) (by simp) (AllReadyH.cons rfl (fun K hK => ?_) AllReadyH.nil)
    go_simp
    go_wp2_with ((go_at_call 13; refine (recI_is (R0.out.grow hHeld) T1.out).mono ?_; rintro e y7 ⟨rfl, b9⟩))
    refine hK.out _ _ (by (try dsimp only); exact Below.trans hHeld (b9.mono (Below.size hHeld))) (fun hHeld => ?_)
    clear hK K
    refine take_h 8 61 rfl rfl (by kernel_rfl) (by kernel_rfl) (by kernel_rfl) (fun _ _ _ h => h) (by kernel_rfl) (by intro w hSw; (try dsimp only at hSw); go_simp; try with_reducible rfl) (by assumption) ?_
    refine take_h 9 62 rfl rfl (by kernel_rfl) (by kernel_rfl) (by kernel_rfl) (fun _ _ _ h => h) (by kernel_rfl) (by intro w hSw; (try dsimp only at hSw); go_simp; try with_reducible rfl) (by assumption) ?_
    refine take_h 10 63 rfl rfl (by kernel_rfl) (by kernel_rfl) (by kernel_rfl) (fun _ _ _ h => h) (by kernel_rfl) (by intro w hSw; (try dsimp only at hSw); go_simp; try with_reducible rfl) (by assumption) ?_
    refine take_h 11 64 rfl rfl (by kernel_rfl) (by kernel_rfl) (by kernel_rfl) (fun _ _ _ h => h) (by kernel_rfl) (by intro w hSw; (try dsimp only at hSw); go_simp; try with_reducible rfl) (by assumption) ?_
    refine wpAnyH_ready (rs := [12]) (by kernel_rfl) (by simp) (AllReadyH.cons rfl (fun K hK => ?_) AllReadyH.nil)
    go_simp
    go_wp2_with ((go_at_call 13; refine (recI_is ⟨RX.out.1.grow hHeld, RD.out.grow hHeld⟩ T2.out).mono ?_; rintro e y12 ⟨rfl, b9⟩))
    refine hK.out _ _ (by (try dsimp only); exact Below.trans hHeld (b9.mono (Below.size hHeld))) (fun hHeld => ?_)
    clear hK K
    refine take_h 13 66 rfl rfl (by kernel_rfl) (by kernel_rfl) (by kernel_rfl) (fun _ _ _ h => h) (by kernel_rfl) (by intro w hSw; (try dsimp only at hSw); go_simp; try with_reducible rfl) (by assumption) ?_
    refine take_h 14 67 rfl rfl (by kernel_rfl) (by kernel_rfl) (by kernel_rfl) (fun _ _ _ h => h) (by kernel_rfl) (by intro w hSw; (try dsimp only at hSw); go_simp; try with_reducible rfl) (by assumption) ?_
    refine take_h 15 68 rfl rfl (by kernel_rfl) (by kernel_rfl) (by kernel_rfl) (fun _ _ _ h => h) (by kernel_rfl) (by intro w hSw; (try dsimp only at hSw); go_simp; try with_reducible rfl) (by assumption) ?_
    refine take_h 16 69 rfl rfl (by kernel_rfl) (by kernel_rfl) (by kernel_rfl) (fun _ _ _ h => h) (by kernel_rfl) (by intro w hSw; (try dsimp only at hSw); go_simp; try with_reducible rfl) (by assumption) ?_
    refine take_h 18 71 rfl rfl (by kernel_rfl) (by kernel_rfl) (by kernel_rfl) (fun _ _ _ h => h) (by kernel_rfl) (by intro w hSw; (try dsimp only at hSw); go_simp; try with_reducible rfl) (by assumption) ?_
    refine wpAnyH_ready (rs := [17, 20]) (by kernel_rfl) (by simp) (AllReadyH.cons rfl (fun K hK => ?_) (AllReadyH.cons rfl (fun K hK => ?_) AllReadyH.nil))
    · have hz12 : WX.heap.size ≤ y12.heap.size := Below.size hHeld
      go_simp
      refine hK.out _ _ (by (try dsimp only); exact hHeld.alloc _) (fun hHeld => ?_)
      clear hK K
      refine wpAnyH_ready (rs := [19, 20]) (by kernel_rfl) (by simp) (AllReadyH.cons rfl (fun K hK => ?_) (AllReadyH.cons rfl (fun K hK => ?_) AllReadyH.nil))
      · refine step_iappend_list_g intsT (by go_simp) _ _ rfl (B := WX.heap.size) _ [] rfl (iown_empty (W := WX) (b := y12.heap.size) (by first | exact Array.getElem?_push_size | exact heap_first _ _ _ | exact heap_second _ _ _) (by omega)) ⟨g', o', none⟩ a.length cp' a rfl rfl (TX.out.since hHeld) (by simp; omega) (Below.size hHeld) ?_
        intro vA wA hownA hgA
        rw [List.nil_append] at hownA
        refine hK.out _ _ (by (try dsimp only); exact Below.grown hHeld hgA (Below.size hHeld) (fun k hk => by have h9 : y12.heap.size = k := Option.some.inj hk; omega)) (fun hHeld => ?_)
        clear hK K
        refine wpAnyH_ready (rs := [20]) (by kernel_rfl) (by simp) (AllReadyH.cons rfl (fun K hK => ?_) AllReadyH.nil)
        go_simp
        refine hK.out _ _ (by (try dsimp only); exact hHeld.alloc _) (fun hHeld => ?_)
        clear hK K
        refine wpAnyH_ready (rs := [21]) (by kernel_rfl) (by simp) (AllReadyH.cons rfl (fun K hK => ?_) AllReadyH.nil)
        refine step_iappend_list_g intsT (by go_simp) _ _ rfl (B := WX.heap.size) _ a rfl (hownA.grow ((Below.refl _ _).alloc (Nat.le_refl _) _)) ⟨wA.heap.size, 0, none⟩ 1 1 [0] rfl rfl (rests_one (by go_cell)) (by omega) (Below.size hHeld) ?_
        intro vB wB hownB hgB
        refine hK.out _ _ (by (try dsimp only); exact Below.grown hHeld hgB (Below.size hHeld) (fun k hk => (hownA.lt k hk).1)) (fun hHeld => ?_)
        clear hK K
        refine wpAnyH_ready (rs := [22]) (by kernel_rfl) (by simp) (AllReadyH.cons rfl (fun K hK => ?_) AllReadyH.nil)
        go_simp
        go_wp2_with ((go_at_call 13; refine (recI_is ⟨RX.out.1.grow hHeld, hownB.row⟩ T3.out).mono ?_; rintro e y22 ⟨rfl, b9⟩))
        refine hK.out _ _ (by (try dsimp only); exact Below.trans hHeld (b9.mono (Below.size hHeld))) (fun hHeld => ?_)
        clear hK K
        refine take_h 23 76 rfl rfl (by kernel_rfl) (by kernel_rfl) (by kernel_rfl) (fun _ _ _ h => h) (by kernel_rfl) (by intro w hSw; (try dsimp only at hSw); go_simp; try with_reducible rfl) (by assumption) ?_
        refine take_h 24 77 rfl rfl (by kernel_rfl) (by kernel_rfl) (by kernel_rfl) (fun _ _ _ h => h) (by kernel_rfl) (by intro w hSw; (try dsimp only at hSw); go_simp; try with_reducible rfl) (by assumption) ?_
        refine take_h 25 78 rfl rfl (by kernel_rfl) (by kernel_rfl) (by kernel_rfl) (fun _ _ _ h => h) (by kernel_rfl) (by intro w hSw; (try dsimp only at hSw); go_simp; try with_reducible rfl) (by assumption) ?_
        refine take_h 26 79 rfl rfl (by kernel_rfl) (by kernel_rfl) (by kernel_rfl) (fun _ _ _ h => h) (by kernel_rfl) (by intro w hSw; (try dsimp only at hSw); go_simp; try with_reducible rfl) (by assumption) ?_
        refine take_h 27 80 rfl rfl (by kernel_rfl) (by kernel_rfl) (by kernel_rfl) (fun _ _ _ h => h) (by kernel_rfl) (by intro w hSw; (try dsimp only at hSw); go_simp; try with_reducible rfl) (by assumption) ?_
        refine wpAnyH_ready (rs := [28]) (by kernel_rfl) (by simp) (AllReadyH.cons rfl (fun K hK => ?_) AllReadyH.nil)
        go_simp
        go_wp2_with ((go_at_call 13; refine (recI_is ⟨RX.out.1.grow hHeld, OX.out.row.grow hHeld⟩ T4.out).mono ?_; rintro e y28 ⟨rfl, b9⟩))
        refine hK.out _ _ (by (try dsimp only); exact Below.trans hHeld (b9.mono (Below.size hHeld))) (fun hHeld => ?_)
        clear hK K
        refine take_h 29 82 rfl rfl (by kernel_rfl) (by kernel_rfl) (by kernel_rfl) (fun _ _ _ h => h) (by kernel_rfl) (by intro w hSw; (try dsimp only at hSw); go_simp; try with_reducible rfl) (by assumption) ?_
        refine take_h 30 83 rfl rfl (by kernel_rfl) (by kernel_rfl) (by kernel_rfl) (fun _ _ _ h => h) (by kernel_rfl) (by intro w hSw; (try dsimp only at hSw); go_simp; try with_reducible rfl) (by assumption) ?_
        refine take_h 31 4 rfl rfl (by kernel_rfl) (by kernel_rfl) (by kernel_rfl) (fun _ _ _ h => h) (by kernel_rfl) (by intro w hSw; (try dsimp only at hSw); go_simp; try with_reducible rfl) (by assumption) ?_
        refine wpAnyH_done (by kernel_rfl) ?_ _
        simp only [Exit.then]
        try simp only [Act.put, List.setIfInBounds_toArray]
        replace SX := SX.next hHeld
        clear hHeld
        go_wp2_with fail
        go_ret
        exact ⟨by first | rfl | (simp; done) | (simp; omega), SX.below⟩
      · go_simp
        refine hK.out _ _ (by (try dsimp only); exact hHeld.alloc _) (fun hHeld => ?_)
        clear hK K
        refine wpAnyH_ready (rs := [19]) (by kernel_rfl) (by simp) (AllReadyH.cons rfl (fun K hK => ?_) AllReadyH.nil)
        refine step_iappend_list_g intsT (by go_simp) _ _ rfl (B := WX.heap.size) _ [] rfl (iown_empty (W := WX) (b := y12.heap.size) (by first | exact Array.getElem?_push_size | exact heap_first _ _ _ | exact heap_second _ _ _) (by omega)) ⟨g', o', none⟩ a.length cp' a rfl rfl (TX.out.since hHeld) (by simp; omega) (Below.size hHeld) ?_
        intro vA wA hownA hgA
        rw [List.nil_append] at hownA
        have kN : wA.cell? ⟨y12.heap.size + 1, 0, none⟩ = some (.int .i64 0) := hgA.cell (by go_cell) (fun e => by have h9 : y12.heap.size + 1 = y12.heap.size := Option.some.inj e; omega)
        refine hK.out _ _ (by (try dsimp only); exact Below.grown hHeld hgA (Below.size hHeld) (fun k hk => by have h9 : y12.heap.size = k := Option.some.inj hk; omega)) (fun hHeld => ?_)
        clear hK K
        refine wpAnyH_ready (rs := [21]) (by kernel_rfl) (by simp) (AllReadyH.cons rfl (fun K hK => ?_) AllReadyH.nil)
        refine step_iappend_list_g intsT (by go_simp) _ _ rfl (B := WX.heap.size) _ a rfl hownA ⟨y12.heap.size + 1, 0, none⟩ 1 1 [0] rfl rfl (rests_one kN) (by omega) (Below.size hHeld) ?_
        intro vB wB hownB hgB
        refine hK.out _ _ (by (try dsimp only); exact Below.grown hHeld hgB (Below.size hHeld) (fun k hk => (hownA.lt k hk).1)) (fun hHeld => ?_)
        clear hK K
        refine wpAnyH_ready (rs := [22]) (by kernel_rfl) (by simp) (AllReadyH.cons rfl (fun K hK => ?_) AllReadyH.nil)
        go_simp
        go_wp2_with ((go_at_call 13; refine (recI_is ⟨RX.out.1.grow hHeld, hownB.row⟩ T3.out).mono ?_; rintro e y22 ⟨rfl, b9⟩))
        refine hK.out _ _ (by (try dsimp only); exact Below.trans hHeld (b9.mono (Below.size hHeld))) (fun hHeld => ?_)
        clear hK K
        refine take_h 23 76 rfl rfl (by kernel_rfl) (by kernel_rfl) (by kernel_rfl) (fun _ _ _ h => h) (by kernel_rfl) (by intro w hSw; (try dsimp only at hSw); go_simp; try with_reducible rfl) (by assumption) ?_
        refine take_h 24 77 rfl rfl (by kernel_rfl) (by kernel_rfl) (by kernel_rfl) (fun _ _ _ h => h) (by kernel_rfl) (by intro w hSw; (try dsimp only at hSw); go_simp; try with_reducible rfl) (by assumption) ?_
        refine take_h 25 78 rfl rfl (by kernel_rfl) (by kernel_rfl) (by kernel_rfl) (fun _ _ _ h => h) (by kernel_rfl) (by intro w hSw; (try dsimp only at hSw); go_simp; try with_reducible rfl) (by assumption) ?_
        refine take_h 26 79 rfl rfl (by kernel_rfl) (by kernel_rfl) (by kernel_rfl) (fun _ _ _ h => h) (by kernel_rfl) (by intro w hSw; (try dsimp only at hSw); go_simp; try with_reducible rfl) (by assumption) ?_
        refine take_h 27 80 rfl rfl (by kernel_rfl) (by kernel_rfl) (by kernel_rfl) (fun _ _ _ h => h) (by kernel_rfl) (by intro w hSw; (try dsimp only at hSw); go_simp; try with_reducible rfl) (by assumption) ?_
        refine wpAnyH_ready (rs := [28]) (by kernel_rfl) (by simp) (AllReadyH.cons rfl (fun K hK => ?_) AllReadyH.nil)
        go_simp
        go_wp2_with ((go_at_call 13; refine (recI_is ⟨RX.out.1.grow hHeld, OX.out.row.grow hHeld⟩ T4.out).mono ?_; rintro e y28 ⟨rfl, b9⟩))
        refine hK.out _ _ (by (try dsimp only); exact Below.trans hHeld (b9.mono (Below.size hHeld))) (fun hHeld => ?_)
        clear hK K
        refine take_h 29 82 rfl rfl (by kernel_rfl) (by kernel_rfl) (by kernel_rfl) (fun _ _ _ h => h) (by kernel_rfl) (by intro w hSw; (try dsimp only at hSw); go_simp; try with_reducible rfl) (by assumption) ?_
        refine take_h 30 83 rfl rfl (by kernel_rfl) (by kernel_rfl) (by kernel_rfl) (fun _ _ _ h => h) (by kernel_rfl) (by intro w hSw; (try dsimp only at hSw); go_simp; try with_reducible rfl) (by assumption) ?_
        refine take_h 31 4 rfl rfl (by kernel_rfl) (by kernel_rfl) (by kernel_rfl) (fun _ _ _ h => h) (by kernel_rfl) (by intro w hSw; (try dsimp only at hSw); go_simp; try with_reducible rfl) (by assumption) ?_
        refine wpAnyH_done (by kernel_rfl) ?_ _
        simp only [Exit.then]
        try simp only [Act.put, List.setIfInBounds_toArray]
        replace SX := SX.next hHeld
        clear hHeld
        go_wp2_with fail
        go_ret
        exact ⟨by first | rfl | (simp; done) | (simp; omega), SX.below⟩
    · have hz12 : WX.heap.size ≤ y12.heap.size := Below.size hHeld
      go_simp
      refine hK.out _ _ (by (try dsimp only); exact hHeld.alloc _) (fun hHeld => ?_)
      clear hK K
      refine wpAnyH_ready (rs := [17]) (by kernel_rfl) (by simp) (AllReadyH.cons rfl (fun K hK => ?_) AllReadyH.nil)
      go_simp
      refine hK.out _ _ (by (try dsimp only); exact hHeld.alloc _) (fun hHeld => ?_)
      clear hK K
      refine wpAnyH_ready (rs := [19]) (by kernel_rfl) (by simp) (AllReadyH.cons rfl (fun K hK => ?_) AllReadyH.nil)
      refine step_iappend_list_g intsT (by go_simp) _ _ rfl (B := WX.heap.size) _ [] rfl (iown_empty (W := WX) (b := y12.heap.size + 1) (by first | exact Array.getElem?_push_size | exact heap_first _ _ _ | exact heap_second _ _ _) (by omega)) ⟨g', o', none⟩ a.length cp' a rfl rfl (TX.out.since hHeld) (by simp; omega) (Below.size hHeld) ?_
      intro vA wA hownA hgA
      rw [List.nil_append] at hownA
      have kN : wA.cell? ⟨y12.heap.size, 0, none⟩ = some (.int .i64 0) := hgA.cell (by go_cell) (fun e => by have h9 : y12.heap.size = y12.heap.size + 1 := Option.some.inj e; omega)
      refine hK.out _ _ (by (try dsimp only); exact Below.grown hHeld hgA (Below.size hHeld) (fun k hk => by have h9 : y12.heap.size + 1 = k := Option.some.inj hk; omega)) (fun hHeld => ?_)
      clear hK K
      refine wpAnyH_ready (rs := [21]) (by kernel_rfl) (by simp) (AllReadyH.cons rfl (fun K hK => ?_) AllReadyH.nil)
      refine step_iappend_list_g intsT (by go_simp) _ _ rfl (B := WX.heap.size) _ a rfl hownA ⟨y12.heap.size, 0, none⟩ 1 1 [0] rfl rfl (rests_one kN) (by omega) (Below.size hHeld) ?_
      intro vB wB hownB hgB
      refine hK.out _ _ (by (try dsimp only); exact Below.grown hHeld hgB (Below.size hHeld) (fun k hk => (hownA.lt k hk).1)) (fun hHeld => ?_)
      clear hK K
      refine wpAnyH_ready (rs := [22]) (by kernel_rfl) (by simp) (AllReadyH.cons rfl (fun K hK => ?_) AllReadyH.nil)
      go_simp
      go_wp2_with ((go_at_call 13; refine (recI_is ⟨RX.out.1.grow hHeld, hownB.row⟩ T3.out).mono ?_; rintro e y22 ⟨rfl, b9⟩))
      refine hK.out _ _ (by (try dsimp only); exact Below.trans hHeld (b9.mono (Below.size hHeld))) (fun hHeld => ?_)
      clear hK K
      refine take_h 23 76 rfl rfl (by kernel_rfl) (by kernel_rfl) (by kernel_rfl) (fun _ _ _ h => h) (by kernel_rfl) (by intro w hSw; (try dsimp only at hSw); go_simp; try with_reducible rfl) (by assumption) ?_
      refine take_h 24 77 rfl rfl (by kernel_rfl) (by kernel_rfl) (by kernel_rfl) (fun _ _ _ h => h) (by kernel_rfl) (by intro w hSw; (try dsimp only at hSw); go_simp; try with_reducible rfl) (by assumption) ?_
      refine take_h 25 78 rfl rfl (by kernel_rfl) (by kernel_rfl) (by kernel_rfl) (fun _ _ _ h => h) (by kernel_rfl) (by intro w hSw; (try dsimp only at hSw); go_simp; try with_reducible rfl) (by assumption) ?_
      refine take_h 26 79 rfl rfl (by kernel_rfl) (by kernel_rfl) (by kernel_rfl) (fun _ _ _ h => h) (by kernel_rfl) (by intro w hSw; (try dsimp only at hSw); go_simp; try with_reducible rfl) (by assumption) ?_
      refine take_h 27 80 rfl rfl (by kernel_rfl) (by kernel_rfl) (by kernel_rfl) (fun _ _ _ h => h) (by kernel_rfl) (by intro w hSw; (try dsimp only at hSw); go_simp; try with_reducible rfl) (by assumption) ?_
      refine wpAnyH_ready (rs := [28]) (by kernel_rfl) (by simp) (AllReadyH.cons rfl (fun K hK => ?_) AllReadyH.nil)
      go_simp
      go_wp2_with ((go_at_call 13; refine (recI_is ⟨RX.out.1.grow hHeld, OX.out.row.grow hHeld⟩ T4.out).mono ?_; rintro e y28 ⟨rfl, b9⟩))
      refine hK.out _ _ (by (try dsimp only); exact Below.trans hHeld (b9.mono (Below.size hHeld))) (fun hHeld => ?_)
      clear hK K
      refine take_h 29 82 rfl rfl (by kernel_rfl) (by kernel_rfl) (by kernel_rfl) (fun _ _ _ h => h) (by kernel_rfl) (by intro w hSw; (try dsimp only at hSw); go_simp; try with_reducible rfl) (by assumption) ?_
      refine take_h 30 83 rfl rfl (by kernel_rfl) (by kernel_rfl) (by kernel_rfl) (fun _ _ _ h => h) (by kernel_rfl) (by intro w hSw; (try dsimp only at hSw); go_simp; try with_reducible rfl) (by assumption) ?_
      refine take_h 31 4 rfl rfl (by kernel_rfl) (by kernel_rfl) (by kernel_rfl) (fun _ _ _ h => h) (by kernel_rfl) (by intro w hSw; (try dsimp only at hSw); go_simp; try with_reducible rfl) (by assumption) ?_
      refine wpAnyH_done (by kernel_rfl) ?_ _
      simp only [Exit.then]
      try simp only [Act.put, List.setIfInBounds_toArray]
      replace SX := SX.next hHeld
      clear hHeld
      go_wp2_with fail
      go_ret
      exact ⟨by first | rfl | (simp; done) | (simp; omega), SX.below⟩

set_option maxRecDepth 100000 in
theorem lifted (os : Os) (started : os.Started) (H : Type) (enc : TypeId × Value → H) :
    ReturnsInHanded {} Try.checked os 3 .any (Rows.fnRecordSpec.pre6 enc Try.prog Try.f3 Rows.fnRecordRow.domain false) (Rows.fnRecordSpec.post enc Try.prog Try.f3 false true false false) := by
  refine returnsInHanded_of_change (C := Try.checked) own started (by kernel_rfl) Try.func3
    (ChangeSpec.witness6 (enc := enc) (C := Try.checked) false ⟨#[], #[.slice none 0 0, .slice none 0 0], []⟩ 8 (by kernel_rfl) (by kernel_rfl) (by kernel_rfl) (by kernel_rfl)) ?_
  intro W base args ds gs before hval0 hW hcnd _
  have hval : ∀ (j : Nat) t v, Try.f3.params[j]? = some t → args[j]? = some v → Value.okWide Try.prog W .any base t v := hval0
  have hW' := hW
  obtain ⟨p, q, hA0, hV, rfl, hfz, hnd⟩ := hW
  have hA : DataW.TrodAll enc Try.prog W 0 (fun _ => true) true Try.f3.params.toList args.toList ds p := hA0
  rw [Try.params3] at hA hval
  obtain ⟨v0, vs0, d0, ds0, p0, q0, hargs, rfl, rfl, h0, r0⟩ := trodAll_cons hA
  obtain ⟨v1, vs1, d1, ds1, p1, q1, rfl, rfl, rfl, h1, r1⟩ := trodAll_cons r0
  obtain ⟨rfl, rfl, rfl⟩ := trodAll_nil r1
  obtain rfl : args = #[v0, v1] := by cases args; simp_all
  obtain ⟨rfl, rfl⟩ := trodVars_none hV
  obtain ⟨a0, len0, cap0, rfl⟩ := okWide_slice Try.underlying22 (hval 0 22 v0 rfl rfl)
  have k0 := h0
  have lt0 : ∀ x ∈ p0, x.block < W.heap.size := by obtain ⟨m, hm⟩ := k0; exact DataW.trod_lt m _ _ _ hm
  obtain ⟨z0, w0⟩ : ∃ zs, IsRow .u8 W a0 len0 cap0 zs := by
    obtain ⟨fuel, hf⟩ := h0
    rcases open_ints Try.underlying22 Try.underlying5 (by kernel_rfl) hf with ⟨hcs, _⟩ | ⟨x, l, c, zs, hcs, _, hl, hm, hz, _, hcell, hwz⟩
    · simp [Value.cells] at hcs
      obtain ⟨rfl, rfl, rfl⟩ := hcs
      exact ⟨[], .inl ⟨rfl, rfl, rfl, rfl⟩⟩
    · simp [Value.cells] at hcs
      obtain ⟨rfl, rfl, rfl⟩ := hcs
      exact ⟨zs, .inr ⟨_, rfl, hl, hm, by simpa using hz, hcell, hwz⟩⟩
  obtain ⟨a1, len1, cap1, rfl⟩ := okWide_slice Try.underlying22 (hval 1 22 v1 rfl rfl)
  have k1 := h1
  have lt1 : ∀ x ∈ p1, x.block < W.heap.size := by obtain ⟨m, hm⟩ := k1; exact DataW.trod_lt m _ _ _ hm
  obtain ⟨z1, w1⟩ : ∃ zs, IsRow .u8 W a1 len1 cap1 zs := by
    obtain ⟨fuel, hf⟩ := h1
    rcases open_ints Try.underlying22 Try.underlying5 (by kernel_rfl) hf with ⟨hcs, _⟩ | ⟨x, l, c, zs, hcs, _, hl, hm, hz, _, hcell, hwz⟩
    · simp [Value.cells] at hcs
      obtain ⟨rfl, rfl, rfl⟩ := hcs
      exact ⟨[], .inl ⟨rfl, rfl, rfl, rfl⟩⟩
    · simp [Value.cells] at hcs
      obtain ⟨rfl, rfl, rfl⟩ := hcs
      exact ⟨zs, .inr ⟨_, rfl, hl, hm, by simpa using hz, hcell, hwz⟩⟩
  clear hA0 hval0
  refine (walk a0 len0 cap0 z0 a1 len1 cap1 z1 W w0 w1).mono fun e W' ⟨he, bel⟩ => ?_
  subst he
  exact ⟨_, rfl, _, _, _, [], _, [], hW', trodAll_mk1 (shut_bool Try.underlying4 _), (trodAll_cons_mk (Below.trod laidOut (by kernel_rfl) (of_decide_eq_true (by kernel_rfl)) k0 bel lt0) (trodAll_cons_mk (Below.trod laidOut (by kernel_rfl) (of_decide_eq_true (by kernel_rfl)) k1 bel lt1) trodAll_mk0)), rfl, bel.frame _, fun h => by cases h⟩

theorem over : Rows.fnRecordRow.holds Try.pinned (OpenSpec.ofChange Rows.fnRecordSpec) :=
  OpenClaim.holds_of_wide 3 Try.f3 rfl rfl rfl rfl rfl rfl rfl ⟨rfl, rfl, rfl, rfl, rfl⟩ rfl rfl rfl rfl rfl (by kernel_rfl) Try.func3 (by kernel_rfl)
    (of_decide_eq_true (by kernel_rfl)) (by unfold Func.isWrapper; first | (rw [if_pos (by decide +kernel)]; kernel_rfl) | (rw [if_neg (by decide +kernel)]; exact ⟨rfl, rfl⟩))
    (fun os started H enc _ => lifted os started H enc)

/-- ████ THE STATEMENT ████ -/
theorem proved : Rows.FnRecordSaid := over
#print axioms proved
end Go.Proofs.Ytkcbgeldnibjcaa.fnRecord
