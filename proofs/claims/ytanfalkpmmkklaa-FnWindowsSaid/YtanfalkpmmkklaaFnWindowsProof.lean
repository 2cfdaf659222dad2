/- For every input, the law FnWindows of the given statements returns true over the program at this commit, and its arguments read afterwards as before: no condition. -/
import Derived.Test.YtanfalkpmmkklaaRows
import Derived.Test.YtanfalkpmmkklaaLawWQ
import Derived.WalkKit
import Derived.ProofKit
import Derived.OpenShut
import Derived.ShutString
import Derived.ChangeOld
import Derived.Below
namespace Go.Proofs.Ytanfalkpmmkklaa.fnWindows
open Go.ChangeShapes Go.WideShapes Go.ChangeAt Go.RowKit
open Go.ChangeMaps (open_string shut_string)
set_option linter.unusedVariables false

theorem own : ownKnob Try.prog.godebug = none := by kernel_rfl
theorem laidOut : laidOutB Try.prog = true := by kernel_rfl

/-- WHAT THE WALK IS TOLD OF A SLICE OF INTEGERS THAT CAME IN: it is nil; or it leads to a row of 'cap' cells, the numbers 'zs' (the first 'len' are its elements, the rest its spare room), each fitting its kind. -/
def IsRow (k : IntKind) (w : World) (a : Option Addr) (len cap : Nat) (zs : List Int) : Prop :=
  (a = none ∧ len = 0 ∧ cap = 0 ∧ zs = []) ∨
  ∃ x, a = some x ∧ len ≤ cap ∧ cap ≤ maxLen ∧ zs.length = cap ∧ (∀ i, i < zs.length → w.cell? (x.add i) = some (.int k (zs.getD i 0))) ∧ ∀ n ∈ zs, (Lit.int k n).wf = true

set_option maxRecDepth 100000 in
set_option maxHeartbeats 3200000 in
theorem walk (a0 : Option Addr) (len0 cap0 : Nat) (z0 : List Int) (a1 : Option Addr) (len1 cap1 : Nat) (z1 : List Int) (w : World) (w0 : IsRow .u8 w a0 len0 cap0 z0) (w1 : IsRow .u8 w a1 len1 cap1 z1) :
    Calls Try.prog 3 #[.slice a0 len0 cap0, .slice a1 len1 cap1] w fun e w' => e = .returned (.bool true) ∧ Below w.heap.size w w' := by
  have hB := bytes_of w0
  have hB1 := bytes_len (bytes_of w1)
  unfold maxLen at hB1
  by_cases hl : 1048576 < len0
  · have hdec : decide (1048576 < len0) = true := by simpa using hl
    go_enter Try.func3, Try.ntmps3
    go_wp2_with fail
    go_ret
    exact ⟨rfl, Below.refl _ _⟩
  have hdec : decide (1048576 < len0) = false := by simpa using hl
  by_cases hl1 : 1048576 < len1
  · go_enter Try.func3, Try.ntmps3
    go_wp2_with fail
    go_ret
    exact ⟨rfl, Below.refl _ _⟩
  have hm : len0 ≤ 1048576 := by omega
  have hm1 : len1 ≤ 1048576 := by omega
  clear hB1
  go_enter Try.func3, Try.ntmps3
  go_wp2_with fail
  refine (DrawWindowsValid_any hB).mono ?_
  rintro e wv1 ⟨v, u, l, s, rfl, r0, r1, l1, l6, s6, sm, b1⟩
  clear w0 w1 hB
  have BB := Lib.hid b1
  clear b1
  have R := Lib.hid r0
  clear r0
  have U := Lib.hid r1
  clear r1
  obtain ⟨aR, cR, rfl, kR, mR⟩ := tlen_n R.out.row
  obtain ⟨aU, cU, rfl, kU, mU⟩ := tlen_n U.out.row
  cases hb : isWin l s
  · have HB := Lib.hid hb
    clear hb
    go_wp2_with fail
    refine (valw_is (implWin_any R.out.row U.out.row) (congrArg Value.bool HB.out)).mono ?_
    rintro e wv2 ⟨rfl, b9⟩
    replace R := Lib.hid (R.out.grow b9)
    replace U := Lib.hid (U.out.grow b9)
    replace BB := Lib.hid (BB.out.trans (b9.mono BB.out.size))
    clear b9
    go_wp2_with fail
    refine (winS_is R.out.row U.out.row HB.out).mono ?_
    rintro e wv3 ⟨rfl, b9⟩
    replace R := Lib.hid (R.out.grow b9)
    replace U := Lib.hid (U.out.grow b9)
    replace BB := Lib.hid (BB.out.trans (b9.mono BB.out.size))
    clear b9
    go_wp2_with fail
    go_ret
    exact ⟨by first | rfl | (simp; done) | (simp; omega), BB.out⟩
  · have HB := Lib.hid hb; have WV := Lib.hid (isWin_iff.1 hb)
    have sl := WV.out.len
    clear hb
    go_wp2_with fail
    refine (valw_is (implWin_any R.out.row U.out.row) (congrArg Value.bool HB.out)).mono ?_
    rintro e wv2 ⟨rfl, b9⟩
    replace R := Lib.hid (R.out.grow b9)
    replace U := Lib.hid (U.out.grow b9)
    replace BB := Lib.hid (BB.out.trans (b9.mono BB.out.size))
    clear b9
    go_wp2_with fail
    refine (winS_is R.out.row U.out.row HB.out).mono ?_
    rintro e wv3 ⟨rfl, b9⟩
    replace R := Lib.hid (R.out.grow b9)
    replace U := Lib.hid (U.out.grow b9)
    replace BB := Lib.hid (BB.out.trans (b9.mono BB.out.size))
    clear b9
    obtain ⟨q, hq⟩ : ∃ j : Nat, len1 % l.length = j := ⟨_, rfl⟩
    have qn : q < l.length := by rw [← hq]; exact Nat.mod_lt _ (by omega)
    have qe : (len1 : Int) % (l.length : Int) = (q : Int) := by rw [← hq, Int.natCast_emod]
    have qt : IntKind.i64.wrap ((len1 : Int).tmod (l.length : Int)) = (q : Int) := by rw [Int.tmod_eq_emod_of_nonneg (by omega), qe]; exact IntWalk.i64_in _ (by omega)
    have qz : ((l.length : Int) == 0) = false := beq_eq_false_iff_ne.2 (by omega)
    have q3 : IntKind.i64.wrap (q : Int) = (q : Int) := IntWalk.i64_in _ (by omega)
    have q4 : (0 : Int) ≤ (q : Int) := by omega
    have q5 : (q : Int) < (l.length : Int) := by omega
    clear hq
    obtain ⟨n, hn⟩ : ∃ n, n = q + 1 := ⟨_, rfl⟩
    have w1 : IntKind.i64.wrap (1 + (q : Int)) = (n : Int) := by rw [show (1 : Int) + (q : Int) = (n : Int) by omega]; exact IntWalk.i64_in _ (by omega)
    have w2 : IntKind.i64.wrap ((n : Int) - 1) = (q : Int) := by rw [show (n : Int) - 1 = (q : Int) by omega]; exact IntWalk.i64_in _ (by omega)
    have n1 : 1 ≤ n := by omega
    have nl : n ≤ l.length := by omega
    have n4 : (0 : Int) ≤ (n : Int) := by omega
    have nc : (n : Int) ≤ (cR : Int) := by omega
    have qc : (q : Int) ≤ (cU : Int) := by omega
    have qs : q ≤ s.length := by omega
    have hx := win_take WV.out n1 nl
    rw [show n - 1 = q by omega] at hx
    have HX : Hid (isWin (l.take n) (s.take q) = true) := Lib.hid (isWin_iff.2 hx)
    have HN := Lib.hid hn
    obtain ⟨a, ha⟩ : ∃ a, l[q] = a := ⟨_, rfl⟩
    have HA := Lib.hid ha
    have HY : Hid (isWin l (s ++ [(0, 0)]) = false) := Lib.hid (win_more WV.out _)
    have HZ : Hid (isWin (l.set q (-1, a.2)) s = false) := Lib.hid (win_neg qn _)
    clear hx hn ha
    have EA := Lib.hid (own_new 28 (Nat.le_refl wv3.heap.size))
    have BA := Lib.hid ((Below.refl wv3.heap.size wv3).alloc (Nat.le_refl _) (.cells #[] 28))
    have XA := Lib.hid (R.out.grow BA.out)
    go_wp2_with (at_builtin; refine tcopy winT rfl _ _ rfl (B := wv3.heap.size) _ rfl EA.out _ _ rfl XA.out (by first | omega | simp) (by simp) ?_)
    intro vC wv4 hown5 b5
    have C := Lib.hid hown5; have B5 := Lib.hid (BA.out.trans b5)
    clear hown5 b5 XA EA BA
    obtain ⟨aC, cC, rfl, kC, mC⟩ := tlen_n C.out.row
    obtain ⟨gC, pC, eC, k5, k6, k7, k8, hp⟩ := C.out.at (by omega)
    simp only [Value.slice.injEq] at eC
    obtain ⟨rfl, hcl, rfl⟩ := eC
    have pr := hp q qn
    have t1 := pr.top; have f1 := pr.f0
    have st := pr.setTop (-1)
    rw [HA.out] at t1 st
    have ST : Hid (Own 28 (wv4.setCell ⟨gC, q * 2, none⟩ (.int .i64 (-1))) _ _ _) := Lib.hid st
    have BS : Hid (Below wv3.heap.size wv3 (wv4.setCell ⟨gC, q * 2, none⟩ (.int .i64 (-1)))) := Lib.hid (B5.out.setCell (p := ⟨gC, q * 2, none⟩) k7 _)
    clear hcl k5 k6 k7 k8 pr st hp
    go_wp2_with fail
    clear t1 f1
    replace R := Lib.hid (R.out.grow BS.out)
    replace U := Lib.hid (U.out.grow BS.out)
    replace BB := Lib.hid (BB.out.trans (BS.out.mono BB.out.size))
    clear BS B5 C
    have C := ST
    clear ST
    generalize (wv4.setCell ⟨gC, q * 2, none⟩ (.int .i64 (-1))) = wv5 at R U C BB ⊢
    have SE : Hid ((l.set q (-1, a.2)).length = l.length) := Lib.hid (by simp)
    obtain ⟨gR, pR, eR, k5, k6, k7, k8, hp⟩ := R.out.at (by omega)
    simp only [Value.slice.injEq] at eR
    obtain ⟨rfl, hclR, rfl⟩ := eR
    have dd1 := (hp 0 (by omega)).top
    clear hp hclR k5 k6 k7 k8
    clear dd1
    have sl := WV.out.len
    rcases own_base U.out with ⟨rfl, hn9, rfl, he9⟩ | ⟨gU, rfl, -⟩
    · subst he9
      clear hn9
      obtain rfl : q = 0 := by simp at sl; omega
      obtain rfl : n = 1 := by have := HN.out; omega
      have wz : IntKind.i64.wrap 0 = 0 := IntWalk.i64_in _ (by omega)
      have nc1 : (1 : Int) ≤ (cR : Int) := by omega
      have TB : Hid (Row wv5 (.slice none 0 0) (List.take 0 ([] : List Pc))) := Lib.hid (row_none _)
      have TA := Lib.hid (R.out.row.take 1 nl)
      go_wp2_with fail
      refine wp_region_held_drew (S := (fun w' => Below wv5.heap.size wv5 w')) (by kernel_rfl) (by exact (Below.refl _ _).drew) (fun hHeld => ?_)
      refine take_h 0 54 rfl rfl (by kernel_rfl) (by kernel_rfl) (by kernel_rfl) (fun _ _ _ h => h) (by kernel_rfl) (by intro w hSw; (try dsimp only at hSw); go_simp; try with_reducible rfl) (by assumption) ?_
      refine take_h 1 55 rfl rfl (by kernel_rfl) (by kernel_rfl) (by kernel_rfl) (fun _ _ _ h => h) (by kernel_rfl) (by intro w hSw; (try dsimp only at hSw); go_simp; try with_reducible rfl) (by assumption) ?_
      refine take_h 2 56 rfl rfl (by kernel_rfl) (by kernel_rfl) (by kernel_rfl) (fun _ _ _ h => h) (by kernel_rfl) (by intro w hSw; (try dsimp only at hSw); go_simp; try with_reducible rfl) (by assumption) ?_
      refine take_h 3 57 rfl rfl (by kernel_rfl) (by kernel_rfl) (by kernel_rfl) (fun _ _ _ h => h) (by kernel_rfl) (by intro w hSw; (try dsimp only at hSw); go_simp; try with_reducible rfl) (by assumption) ?_
      refine take_h 4 58 rfl rfl (by kernel_rfl) (by kernel_rfl) (by kernel_rfl) (fun _ _ _ h => h) (by kernel_rfl) (by intro w hSw; (try dsimp only at hSw); go_simp; try with_reducible rfl) (by assumption) ?_
      refine take_h 5 59 rfl rfl (by kernel_rfl) (by kernel_rfl) (by kernel_rfl) (fun _ _ _ h => h) (by kernel_rfl) (by intro w hSw; (try dsimp only at hSw); go_simp; try with_reducible rfl) (by assumption) ?_
      refine take_h 6 60 rfl rfl (by kernel_rfl) (by kernel_rfl) (by kernel_rfl) (fun _ _ _ h => h) (by kernel_rfl) (by intro w hSw; (try dsimp only at hSw); go_simp; try with_reducible rfl) (by assumption) ?_
      refine wpAnyH_ready (rs := [7]) (by kernel_rfl) (by simp) (AllReadyH.cons rfl (fun K hK => ?_) AllReadyH.nil)
      go_simp
      go_wp2_with ((go_at_call 5; refine (valw_is (implWin_any (TA.out.grow hHeld) (TB.out.grow hHeld)) (congrArg Value.bool HX.out)).mono ?_; rintro e y3 ⟨rfl, b9⟩))
      refine hK.out _ _ (by (try dsimp only); exact Below.trans hHeld (Below.mono b9 (Below.size hHeld))) (fun hHeld => ?_)
      clear hK K
      refine take_h 8 62 rfl rfl (by kernel_rfl) (by kernel_rfl) (by kernel_rfl) (fun _ _ _ h => h) (by kernel_rfl) (by intro w hSw; (try dsimp only at hSw); go_simp; try with_reducible rfl) (by assumption) ?_
      refine take_h 9 63 rfl rfl (by kernel_rfl) (by kernel_rfl) (by kernel_rfl) (fun _ _ _ h => h) (by kernel_rfl) (by intro w hSw; (try dsimp only at hSw); go_simp; try with_reducible rfl) (by assumption) ?_
      refine take_h 11 65 rfl rfl (by kernel_rfl) (by kernel_rfl) (by kernel_rfl) (fun _ _ _ h => h) (by kernel_rfl) (by intro w hSw; (try dsimp only at hSw); go_simp; try with_reducible rfl) (by assumption) ?_
      refine take_h 13 67 rfl rfl (by kernel_rfl) (by kernel_rfl) (by kernel_rfl) (fun _ _ _ h => h) (by kernel_rfl) (by intro w hSw; (try dsimp only at hSw); go_simp; try with_reducible rfl) (by assumption) ?_
      refine wpAnyH_ready (rs := [10, 14]) (by kernel_rfl) (by simp) (AllReadyH.cons rfl (fun K hK => ?_) (AllReadyH.cons rfl (fun K hK => ?_) AllReadyH.nil))
      · have hz3 : wv5.heap.size ≤ y3.heap.size := Below.size hHeld
        go_simp
        refine hK.out _ _ (by (try dsimp only); exact Below.alloc hHeld (Below.size hHeld) _) (fun hHeld => ?_)
        clear hK K
        refine wpAnyH_ready (rs := [12, 14]) (by kernel_rfl) (by simp) (AllReadyH.cons rfl (fun K hK => ?_) (AllReadyH.cons rfl (fun K hK => ?_) AllReadyH.nil))
        · refine step_row_g winT (by go_simp) _ _ rfl (B := wv5.heap.size) _ [] rfl (own_new 28 hz3) _ ([] : List Pc) rfl (U.out.grow hHeld).row (by simp; try omega) (Below.size hHeld) ?_
          intro vA wA hownA hgA
          rw [List.nil_append] at hownA
          refine hK.out _ _ (by (try dsimp only); exact Below.grown hHeld hgA (Below.size hHeld) (fun k hk => by have h9 : y3.heap.size = k := Option.some.inj hk; omega)) (fun hHeld => ?_)
          clear hK K
          refine wpAnyH_ready (rs := [14]) (by kernel_rfl) (by simp) (AllReadyH.cons rfl (fun K hK => ?_) AllReadyH.nil)
          go_simp
          refine hK.out _ _ (by (try dsimp only); exact Below.alloc hHeld (Below.size hHeld) _) (fun hHeld => ?_)
          clear hK K
          refine wpAnyH_ready (rs := [15]) (by kernel_rfl) (by simp) (AllReadyH.cons rfl (fun K hK => ?_) AllReadyH.nil)
          refine step_row_g winT (by go_simp) _ _ rfl (B := wv5.heap.size) _ ([] : List Pc) rfl (hownA.grow ((Below.refl _ _).alloc (Nat.le_refl _) _)) _ [(0, 0)] rfl (own_one 28 (Nat.le_refl wA.heap.size) (0, 0)).row (by simp; try omega) (Below.size hHeld) ?_
          intro vB wB hownB hgB
          refine hK.out _ _ (by (try dsimp only); exact Below.grown hHeld hgB (Below.size hHeld) (fun k hk => (hownA.lt k hk).1)) (fun hHeld => ?_)
          clear hK K
          refine wpAnyH_ready (rs := [16]) (by kernel_rfl) (by simp) (AllReadyH.cons rfl (fun K hK => ?_) AllReadyH.nil)
          go_simp
          go_wp2_with ((go_at_call 5; refine (valw_is (implWin_any (R.out.grow hHeld).row hownB.row) (congrArg Value.bool HY.out)).mono ?_; rintro e y16 ⟨rfl, b9⟩))
          refine hK.out _ _ (by (try dsimp only); exact Below.trans hHeld (Below.mono b9 (Below.size hHeld))) (fun hHeld => ?_)
          clear hK K
          refine take_h 17 71 rfl rfl (by kernel_rfl) (by kernel_rfl) (by kernel_rfl) (fun _ _ _ h => h) (by kernel_rfl) (by intro w hSw; (try dsimp only at hSw); go_simp; try with_reducible rfl) (by assumption) ?_
          refine take_h 18 72 rfl rfl (by kernel_rfl) (by kernel_rfl) (by kernel_rfl) (fun _ _ _ h => h) (by kernel_rfl) (by intro w hSw; (try dsimp only at hSw); go_simp; try with_reducible rfl) (by assumption) ?_
          refine take_h 19 73 rfl rfl (by kernel_rfl) (by kernel_rfl) (by kernel_rfl) (fun _ _ _ h => h) (by kernel_rfl) (by intro w hSw; (try dsimp only at hSw); go_simp; try with_reducible rfl) (by assumption) ?_
          refine take_h 20 74 rfl rfl (by kernel_rfl) (by kernel_rfl) (by kernel_rfl) (fun _ _ _ h => h) (by kernel_rfl) (by intro w hSw; (try dsimp only at hSw); go_simp; try with_reducible rfl) (by assumption) ?_
          refine take_h 21 75 rfl rfl (by kernel_rfl) (by kernel_rfl) (by kernel_rfl) (fun _ _ _ h => h) (by kernel_rfl) (by intro w hSw; (try dsimp only at hSw); go_simp; try with_reducible rfl) (by assumption) ?_
          refine wpAnyH_ready (rs := [22]) (by kernel_rfl) (by simp) (AllReadyH.cons rfl (fun K hK => ?_) AllReadyH.nil)
          go_simp
          go_wp2_with ((go_at_call 5; refine (valw_is (implWin_any (C.out.grow hHeld).row (U.out.grow hHeld).row) (congrArg Value.bool HZ.out)).mono ?_; rintro e y22 ⟨rfl, b9⟩))
          refine hK.out _ _ (by (try dsimp only); exact Below.trans hHeld (Below.mono b9 (Below.size hHeld))) (fun hHeld => ?_)
          clear hK K
          refine take_h 23 77 rfl rfl (by kernel_rfl) (by kernel_rfl) (by kernel_rfl) (fun _ _ _ h => h) (by kernel_rfl) (by intro w hSw; (try dsimp only at hSw); go_simp; try with_reducible rfl) (by assumption) ?_
          refine take_h 24 78 rfl rfl (by kernel_rfl) (by kernel_rfl) (by kernel_rfl) (fun _ _ _ h => h) (by kernel_rfl) (by intro w hSw; (try dsimp only at hSw); go_simp; try with_reducible rfl) (by assumption) ?_
          refine take_h 25 4 rfl rfl (by kernel_rfl) (by kernel_rfl) (by kernel_rfl) (fun _ _ _ h => h) (by kernel_rfl) (by intro w hSw; (try dsimp only at hSw); go_simp; try with_reducible rfl) (by assumption) ?_
          refine wpAnyH_done (by kernel_rfl) ?_ _
          simp only [Exit.then]
          try simp only [Act.put, List.setIfInBounds_toArray]
          replace BB := Lib.hid (BB.out.trans (Below.mono hHeld BB.out.size))
          clear hHeld
          go_wp2_with fail
          go_ret
          exact ⟨by first | rfl | (simp; done) | (simp; omega), BB.out⟩
        · go_simp
          refine hK.out _ _ (by (try dsimp only); exact Below.alloc hHeld (Below.size hHeld) _) (fun hHeld => ?_)
          clear hK K
          refine wpAnyH_ready (rs := [12]) (by kernel_rfl) (by simp) (AllReadyH.cons rfl (fun K hK => ?_) AllReadyH.nil)
          have ON : Own 28 ((y3.alloc (.cells #[] 28)).alloc (.cells #[.int .i64 0, .int .i64 0] 28)) wv5.heap.size (.slice (some ⟨y3.heap.size + 1, 0, none⟩) 1 1) [(0, 0)] := by
            have h9 := own_one 28 (B := wv5.heap.size) (w := y3.alloc (.cells #[] 28)) (by simp; omega) (0, 0)
            try rw [World.size_alloc] at h9
            exact h9
          refine step_row_g winT (by go_simp) _ _ rfl (B := wv5.heap.size) _ [] rfl ((own_new 28 hz3).grow ((Below.refl _ _).alloc (Nat.le_refl _) _)) _ ([] : List Pc) rfl (U.out.grow hHeld).row (by simp; try omega) (Below.size hHeld) ?_
          intro vA wA hownA hgA
          rw [List.nil_append] at hownA
          replace ON := ON.same fun b hb => hgA.block b (ON.lt b hb).2 (fun e9 => by have h8 : y3.heap.size + 1 = b := Option.some.inj hb; have h9 : y3.heap.size = b := Option.some.inj e9.symm; omega)
          refine hK.out _ _ (by (try dsimp only); exact Below.grown hHeld hgA (Below.size hHeld) (fun k hk => by have h9 : y3.heap.size = k := Option.some.inj hk; omega)) (fun hHeld => ?_)
          clear hK K
          refine wpAnyH_ready (rs := [15]) (by kernel_rfl) (by simp) (AllReadyH.cons rfl (fun K hK => ?_) AllReadyH.nil)
          refine step_row_g winT (by go_simp) _ _ rfl (B := wv5.heap.size) _ ([] : List Pc) rfl hownA _ [(0, 0)] rfl ON.row (by simp; try omega) (Below.size hHeld) ?_
          intro vB wB hownB hgB
          refine hK.out _ _ (by (try dsimp only); exact Below.grown hHeld hgB (Below.size hHeld) (fun k hk => (hownA.lt k hk).1)) (fun hHeld => ?_)
          clear hK K
          refine wpAnyH_ready (rs := [16]) (by kernel_rfl) (by simp) (AllReadyH.cons rfl (fun K hK => ?_) AllReadyH.nil)
          go_simp
          go_wp2_with ((go_at_call 5; refine (valw_is (implWin_any (R.out.grow hHeld).row hownB.row) (congrArg Value.bool HY.out)).mono ?_; rintro e y16 ⟨rfl, b9⟩))
          refine hK.out _ _ (by (try dsimp only); exact Below.trans hHeld (Below.mono b9 (Below.size hHeld))) (fun hHeld => ?_)
          clear hK K
          refine take_h 17 71 rfl rfl (by kernel_rfl) (by kernel_rfl) (by kernel_rfl) (fun _ _ _ h => h) (by kernel_rfl) (by intro w hSw; (try dsimp only at hSw); go_simp; try with_reducible rfl) (by assumption) ?_
          refine take_h 18 72 rfl rfl (by kernel_rfl) (by kernel_rfl) (by kernel_rfl) (fun _ _ _ h => h) (by kernel_rfl) (by intro w hSw; (try dsimp only at hSw); go_simp; try with_reducible rfl) (by assumption) ?_
          refine take_h 19 73 rfl rfl (by kernel_rfl) (by kernel_rfl) (by kernel_rfl) (fun _ _ _ h => h) (by kernel_rfl) (by intro w hSw; (try dsimp only at hSw); go_simp; try with_reducible rfl) (by assumption) ?_
          refine take_h 20 74 rfl rfl (by kernel_rfl) (by kernel_rfl) (by kernel_rfl) (fun _ _ _ h => h) (by kernel_rfl) (by intro w hSw; (try dsimp only at hSw); go_simp; try with_reducible rfl) (by assumption) ?_
          refine take_h 21 75 rfl rfl (by kernel_rfl) (by kernel_rfl) (by kernel_rfl) (fun _ _ _ h => h) (by kernel_rfl) (by intro w hSw; (try dsimp only at hSw); go_simp; try with_reducible rfl) (by assumption) ?_
          refine wpAnyH_ready (rs := [22]) (by kernel_rfl) (by simp) (AllReadyH.cons rfl (fun K hK => ?_) AllReadyH.nil)
          go_simp
          go_wp2_with ((go_at_call 5; refine (valw_is (implWin_any (C.out.grow hHeld).row (U.out.grow hHeld).row) (congrArg Value.bool HZ.out)).mono ?_; rintro e y22 ⟨rfl, b9⟩))
          refine hK.out _ _ (by (try dsimp only); exact Below.trans hHeld (Below.mono b9 (Below.size hHeld))) (fun hHeld => ?_)
          clear hK K
          refine take_h 23 77 rfl rfl (by kernel_rfl) (by kernel_rfl) (by kernel_rfl) (fun _ _ _ h => h) (by kernel_rfl) (by intro w hSw; (try dsimp only at hSw); go_simp; try with_reducible rfl) (by assumption) ?_
          refine take_h 24 78 rfl rfl (by kernel_rfl) (by kernel_rfl) (by kernel_rfl) (fun _ _ _ h => h) (by kernel_rfl) (by intro w hSw; (try dsimp only at hSw); go_simp; try with_reducible rfl) (by assumption) ?_
          refine take_h 25 4 rfl rfl (by kernel_rfl) (by kernel_rfl) (by kernel_rfl) (fun _ _ _ h => h) (by kernel_rfl) (by intro w hSw; (try dsimp only at hSw); go_simp; try with_reducible rfl) (by assumption) ?_
          refine wpAnyH_done (by kernel_rfl) ?_ _
          simp only [Exit.then]
          try simp only [Act.put, List.setIfInBounds_toArray]
          replace BB := Lib.hid (BB.out.trans (Below.mono hHeld BB.out.size))
          clear hHeld
          go_wp2_with fail
          go_ret
          exact ⟨by first | rfl | (simp; done) | (simp; omega), BB.out⟩
      · have hz3 : wv5.heap.size ≤ y3.heap.size := Below.size hHeld
        go_simp
        refine hK.out _ _ (by (try dsimp only); exact Below.alloc hHeld (Below.size hHeld) _) (fun hHeld => ?_)
        clear hK K
        refine wpAnyH_ready (rs := [10]) (by kernel_rfl) (by simp) (AllReadyH.cons rfl (fun K hK => ?_) AllReadyH.nil)
        go_simp
        refine hK.out _ _ (by (try dsimp only); exact Below.alloc hHeld (Below.size hHeld) _) (fun hHeld => ?_)
        clear hK K
        refine wpAnyH_ready (rs := [12]) (by kernel_rfl) (by simp) (AllReadyH.cons rfl (fun K hK => ?_) AllReadyH.nil)
        have ON : Own 28 ((y3.alloc (.cells #[.int .i64 0, .int .i64 0] 28)).alloc (.cells #[] 28)) wv5.heap.size (.slice (some ⟨y3.heap.size, 0, none⟩) 1 1) [(0, 0)] := by
          have h9 := (own_one 28 hz3 (0, 0)).grow ((Below.refl _ _).alloc (Nat.le_refl _) (.cells #[] 28))
          try rw [World.size_alloc] at h9
          exact h9
        have OE : Own 28 ((y3.alloc (.cells #[.int .i64 0, .int .i64 0] 28)).alloc (.cells #[] 28)) wv5.heap.size (.slice (some ⟨y3.heap.size + 1, 0, none⟩) 0 0) [] := by
          have h9 := own_new 28 (B := wv5.heap.size) (w := y3.alloc (.cells #[.int .i64 0, .int .i64 0] 28)) (by simp; omega)
          rw [World.size_alloc] at h9
          exact h9
        refine step_row_g winT (by go_simp) _ _ rfl (B := wv5.heap.size) _ [] rfl OE _ ([] : List Pc) rfl (U.out.grow hHeld).row (by simp; try omega) (Below.size hHeld) ?_
        intro vA wA hownA hgA
        rw [List.nil_append] at hownA
        replace ON := ON.same fun b hb => hgA.block b (ON.lt b hb).2 (fun e9 => by have h8 : y3.heap.size = b := Option.some.inj hb; have h9 : y3.heap.size + 1 = b := Option.some.inj e9.symm; omega)
        refine hK.out _ _ (by (try dsimp only); exact Below.grown hHeld hgA (Below.size hHeld) (fun k hk => by have h9 : y3.heap.size + 1 = k := Option.some.inj hk; omega)) (fun hHeld => ?_)
        clear hK K
        refine wpAnyH_ready (rs := [15]) (by kernel_rfl) (by simp) (AllReadyH.cons rfl (fun K hK => ?_) AllReadyH.nil)
        refine step_row_g winT (by go_simp) _ _ rfl (B := wv5.heap.size) _ ([] : List Pc) rfl hownA _ [(0, 0)] rfl ON.row (by simp; try omega) (Below.size hHeld) ?_
        intro vB wB hownB hgB
        refine hK.out _ _ (by (try dsimp only); exact Below.grown hHeld hgB (Below.size hHeld) (fun k hk => (hownA.lt k hk).1)) (fun hHeld => ?_)
        clear hK K
        refine wpAnyH_ready (rs := [16]) (by kernel_rfl) (by simp) (AllReadyH.cons rfl (fun K hK => ?_) AllReadyH.nil)
        go_simp
        go_wp2_with ((go_at_call 5; refine (valw_is (implWin_any (R.out.grow hHeld).row hownB.row) (congrArg Value.bool HY.out)).mono ?_; rintro e y16 ⟨rfl, b9⟩))
        refine hK.out _ _ (by (try dsimp only); exact Below.trans hHeld (Below.mono b9 (Below.size hHeld))) (fun hHeld => ?_)
        clear hK K
        refine take_h 17 71 rfl rfl (by kernel_rfl) (by kernel_rfl) (by kernel_rfl) (fun _ _ _ h => h) (by kernel_rfl) (by intro w hSw; (try dsimp only at hSw); go_simp; try with_reducible rfl) (by assumption) ?_
        refine take_h 18 72 rfl rfl (by kernel_rfl) (by kernel_rfl) (by kernel_rfl) (fun _ _ _ h => h) (by kernel_rfl) (by intro w hSw; (try dsimp only at hSw); go_simp; try with_reducible rfl) (by assumption) ?_
        refine take_h 19 73 rfl rfl (by kernel_rfl) (by kernel_rfl) (by kernel_rfl) (fun _ _ _ h => h) (by kernel_rfl) (by intro w hSw; (try dsimp only at hSw); go_simp; try with_reducible rfl) (by assumption) ?_
        refine take_h 20 74 rfl rfl (by kernel_rfl) (by kernel_rfl) (by kernel_rfl) (fun _ _ _ h => h) (by kernel_rfl) (by intro w hSw; (try dsimp only at hSw); go_simp; try with_reducible rfl) (by assumption) ?_
        refine take_h 21 75 rfl rfl (by kernel_rfl) (by kernel_rfl) (by kernel_rfl) (fun _ _ _ h => h) (by kernel_rfl) (by intro w hSw; (try dsimp only at hSw); go_simp; try with_reducible rfl) (by assumption) ?_
        refine wpAnyH_ready (rs := [22]) (by kernel_rfl) (by simp) (AllReadyH.cons rfl (fun K hK => ?_) AllReadyH.nil)
        go_simp
        go_wp2_with ((go_at_call 5; refine (valw_is (implWin_any (C.out.grow hHeld).row (U.out.grow hHeld).row) (congrArg Value.bool HZ.out)).mono ?_; rintro e y22 ⟨rfl, b9⟩))
        refine hK.out _ _ (by (try dsimp only); exact Below.trans hHeld (Below.mono b9 (Below.size hHeld))) (fun hHeld => ?_)
        clear hK K
        refine take_h 23 77 rfl rfl (by kernel_rfl) (by kernel_rfl) (by kernel_rfl) (fun _ _ _ h => h) (by kernel_rfl) (by intro w hSw; (try dsimp only at hSw); go_simp; try with_reducible rfl) (by assumption) ?_
        refine take_h 24 78 rfl rfl (by kernel_rfl) (by kernel_rfl) (by kernel_rfl) (fun _ _ _ h => h) (by kernel_rfl) (by intro w hSw; (try dsimp only at hSw); go_simp; try with_reducible rfl) (by assumption) ?_
        refine take_h 25 4 rfl rfl (by kernel_rfl) (by kernel_rfl) (by kernel_rfl) (fun _ _ _ h => h) (by kernel_rfl) (by intro w hSw; (try dsimp only at hSw); go_simp; try with_reducible rfl) (by assumption) ?_
        refine wpAnyH_done (by kernel_rfl) ?_ _
        simp only [Exit.then]
        try simp only [Act.put, List.setIfInBounds_toArray]
        replace BB := Lib.hid (BB.out.trans (Below.mono hHeld BB.out.size))
        clear hHeld
        go_wp2_with fail
        go_ret
        exact ⟨by first | rfl | (simp; done) | (simp; omega), BB.out⟩
    · have TB := Lib.hid (U.out.row.take q qs)
      have TA := Lib.hid (R.out.row.take n nl)
      go_wp2_with fail
      refine wp_region_held_drew (S := (fun w' => Below wv5.heap.size wv5 w')) (by kernel_rfl) (by exact (Below.refl _ _).drew) (fun hHeld => ?_)
      refine take_h 0 54 rfl rfl (by kernel_rfl) (by kernel_rfl) (by kernel_rfl) (fun _ _ _ h => h) (by kernel_rfl) (by intro w hSw; (try dsimp only at hSw); go_simp; try with_reducible rfl) (by assumption) ?_
      refine take_h 1 55 rfl rfl (by kernel_rfl) (by kernel_rfl) (by kernel_rfl) (fun _ _ _ h => h) (by kernel_rfl) (by intro w hSw; (try dsimp only at hSw); go_simp; try with_reducible rfl) (by assumption) ?_
      refine take_h 2 56 rfl rfl (by kernel_rfl) (by kernel_rfl) (by kernel_rfl) (fun _ _ _ h => h) (by kernel_rfl) (by intro w hSw; (try dsimp only at hSw); go_simp; try with_reducible rfl) (by assumption) ?_
      refine take_h 3 57 rfl rfl (by kernel_rfl) (by kernel_rfl) (by kernel_rfl) (fun _ _ _ h => h) (by kernel_rfl) (by intro w hSw; (try dsimp only at hSw); go_simp; try with_reducible rfl) (by assumption) ?_
      refine take_h 4 58 rfl rfl (by kernel_rfl) (by kernel_rfl) (by kernel_rfl) (fun _ _ _ h => h) (by kernel_rfl) (by intro w hSw; (try dsimp only at hSw); go_simp; try with_reducible rfl) (by assumption) ?_
      refine take_h 5 59 rfl rfl (by kernel_rfl) (by kernel_rfl) (by kernel_rfl) (fun _ _ _ h => h) (by kernel_rfl) (by intro w hSw; (try dsimp only at hSw); go_simp; try with_reducible rfl) (by assumption) ?_
      refine take_h 6 60 rfl rfl (by kernel_rfl) (by kernel_rfl) (by kernel_rfl) (fun _ _ _ h => h) (by kernel_rfl) (by intro w hSw; (try dsimp only at hSw); go_simp; try with_reducible rfl) (by assumption) ?_
      refine wpAnyH_ready (rs := [7]) (by kernel_rfl) (by simp) (AllReadyH.cons rfl (fun K hK => ?_) AllReadyH.nil)
      go_simp
      go_wp2_with ((go_at_call 5; refine (valw_is (implWin_any (TA.out.grow hHeld) (TB.out.grow hHeld)) (congrArg Value.bool HX.out)).mono ?_; rintro e y3 ⟨rfl, b9⟩))
      refine hK.out _ _ (by (try dsimp only); exact Below.trans hHeld (Below.mono b9 (Below.size hHeld))) (fun hHeld => ?_)
      clear hK K
      refine take_h 8 62 rfl rfl (by kernel_rfl) (by kernel_rfl) (by kernel_rfl) (fun _ _ _ h => h) (by kernel_rfl) (by intro w hSw; (try dsimp only at hSw); go_simp; try with_reducible rfl) (by assumption) ?_
      refine take_h 9 63 rfl rfl (by kernel_rfl) (by kernel_rfl) (by kernel_rfl) (fun _ _ _ h => h) (by kernel_rfl) (by intro w hSw; (try dsimp only at hSw); go_simp; try with_reducible rfl) (by assumption) ?_
      refine take_h 11 65 rfl rfl (by kernel_rfl) (by kernel_rfl) (by kernel_rfl) (fun _ _ _ h => h) (by kernel_rfl) (by intro w hSw; (try dsimp only at hSw); go_simp; try with_reducible rfl) (by assumption) ?_
      refine take_h 13 67 rfl rfl (by kernel_rfl) (by kernel_rfl) (by kernel_rfl) (fun _ _ _ h => h) (by kernel_rfl) (by intro w hSw; (try dsimp only at hSw); go_simp; try with_reducible rfl) (by assumption) ?_
      refine wpAnyH_ready (rs := [10, 14]) (by kernel_rfl) (by simp) (AllReadyH.cons rfl (fun K hK => ?_) (AllReadyH.cons rfl (fun K hK => ?_) AllReadyH.nil))
      · have hz3 : wv5.heap.size ≤ y3.heap.size := Below.size hHeld
        go_simp
        refine hK.out _ _ (by (try dsimp only); exact Below.alloc hHeld (Below.size hHeld) _) (fun hHeld => ?_)
        clear hK K
        refine wpAnyH_ready (rs := [12, 14]) (by kernel_rfl) (by simp) (AllReadyH.cons rfl (fun K hK => ?_) (AllReadyH.cons rfl (fun K hK => ?_) AllReadyH.nil))
        · refine step_row_g winT (by go_simp) _ _ rfl (B := wv5.heap.size) _ [] rfl (own_new 28 hz3) _ s rfl (U.out.grow hHeld).row (by simp; try omega) (Below.size hHeld) ?_
          intro vA wA hownA hgA
          rw [List.nil_append] at hownA
          refine hK.out _ _ (by (try dsimp only); exact Below.grown hHeld hgA (Below.size hHeld) (fun k hk => by have h9 : y3.heap.size = k := Option.some.inj hk; omega)) (fun hHeld => ?_)
          clear hK K
          refine wpAnyH_ready (rs := [14]) (by kernel_rfl) (by simp) (AllReadyH.cons rfl (fun K hK => ?_) AllReadyH.nil)
          go_simp
          refine hK.out _ _ (by (try dsimp only); exact Below.alloc hHeld (Below.size hHeld) _) (fun hHeld => ?_)
          clear hK K
          refine wpAnyH_ready (rs := [15]) (by kernel_rfl) (by simp) (AllReadyH.cons rfl (fun K hK => ?_) AllReadyH.nil)
          refine step_row_g winT (by go_simp) _ _ rfl (B := wv5.heap.size) _ s rfl (hownA.grow ((Below.refl _ _).alloc (Nat.le_refl _) _)) _ [(0, 0)] rfl (own_one 28 (Nat.le_refl wA.heap.size) (0, 0)).row (by simp; try omega) (Below.size hHeld) ?_
          intro vB wB hownB hgB
          refine hK.out _ _ (by (try dsimp only); exact Below.grown hHeld hgB (Below.size hHeld) (fun k hk => (hownA.lt k hk).1)) (fun hHeld => ?_)
          clear hK K
          refine wpAnyH_ready (rs := [16]) (by kernel_rfl) (by simp) (AllReadyH.cons rfl (fun K hK => ?_) AllReadyH.nil)
          go_simp
          go_wp2_with ((go_at_call 5; refine (valw_is (implWin_any (R.out.grow hHeld).row hownB.row) (congrArg Value.bool HY.out)).mono ?_; rintro e y16 ⟨rfl, b9⟩))
          refine hK.out _ _ (by (try dsimp only); exact Below.trans hHeld (Below.mono b9 (Below.size hHeld))) (fun hHeld => ?_)
          clear hK K
          refine take_h 17 71 rfl rfl (by kernel_rfl) (by kernel_rfl) (by kernel_rfl) (fun _ _ _ h => h) (by kernel_rfl) (by intro w hSw; (try dsimp only at hSw); go_simp; try with_reducible rfl) (by assumption) ?_
          refine take_h 18 72 rfl rfl (by kernel_rfl) (by kernel_rfl) (by kernel_rfl) (fun _ _ _ h => h) (by kernel_rfl) (by intro w hSw; (try dsimp only at hSw); go_simp; try with_reducible rfl) (by assumption) ?_
          refine take_h 19 73 rfl rfl (by kernel_rfl) (by kernel_rfl) (by kernel_rfl) (fun _ _ _ h => h) (by kernel_rfl) (by intro w hSw; (try dsimp only at hSw); go_simp; try with_reducible rfl) (by assumption) ?_
          refine take_h 20 74 rfl rfl (by kernel_rfl) (by kernel_rfl) (by kernel_rfl) (fun _ _ _ h => h) (by kernel_rfl) (by intro w hSw; (try dsimp only at hSw); go_simp; try with_reducible rfl) (by assumption) ?_
          refine take_h 21 75 rfl rfl (by kernel_rfl) (by kernel_rfl) (by kernel_rfl) (fun _ _ _ h => h) (by kernel_rfl) (by intro w hSw; (try dsimp only at hSw); go_simp; try with_reducible rfl) (by assumption) ?_
          refine wpAnyH_ready (rs := [22]) (by kernel_rfl) (by simp) (AllReadyH.cons rfl (fun K hK => ?_) AllReadyH.nil)
          go_simp
          go_wp2_with ((go_at_call 5; refine (valw_is (implWin_any (C.out.grow hHeld).row (U.out.grow hHeld).row) (congrArg Value.bool HZ.out)).mono ?_; rintro e y22 ⟨rfl, b9⟩))
          refine hK.out _ _ (by (try dsimp only); exact Below.trans hHeld (Below.mono b9 (Below.size hHeld))) (fun hHeld => ?_)
          clear hK K
          refine take_h 23 77 rfl rfl (by kernel_rfl) (by kernel_rfl) (by kernel_rfl) (fun _ _ _ h => h) (by kernel_rfl) (by intro w hSw; (try dsimp only at hSw); go_simp; try with_reducible rfl) (by assumption) ?_
          refine take_h 24 78 rfl rfl (by kernel_rfl) (by kernel_rfl) (by kernel_rfl) (fun _ _ _ h => h) (by kernel_rfl) (by intro w hSw; (try dsimp only at hSw); go_simp; try with_reducible rfl) (by assumption) ?_
          refine take_h 25 4 rfl rfl (by kernel_rfl) (by kernel_rfl) (by kernel_rfl) (fun _ _ _ h => h) (by kernel_rfl) (by intro w hSw; (try dsimp only at hSw); go_simp; try with_reducible rfl) (by assumption) ?_
          refine wpAnyH_done (by kernel_rfl) ?_ _
          simp only [Exit.then]
          try simp only [Act.put, List.setIfInBounds_toArray]
          replace BB := Lib.hid (BB.out.trans (Below.mono hHeld BB.out.size))
          clear hHeld
          go_wp2_with fail
          go_ret
          exact ⟨by first | rfl | (simp; done) | (simp; omega), BB.out⟩
        · go_simp
          refine hK.out _ _ (by (try dsimp only); exact Below.alloc hHeld (Below.size hHeld) _) (fun hHeld => ?_)
          clear hK K
          refine wpAnyH_ready (rs := [12]) (by kernel_rfl) (by simp) (AllReadyH.cons rfl (fun K hK => ?_) AllReadyH.nil)
          have ON : Own 28 ((y3.alloc (.cells #[] 28)).alloc (.cells #[.int .i64 0, .int .i64 0] 28)) wv5.heap.size (.slice (some ⟨y3.heap.size + 1, 0, none⟩) 1 1) [(0, 0)] := by
            have h9 := own_one 28 (B := wv5.heap.size) (w := y3.alloc (.cells #[] 28)) (by simp; omega) (0, 0)
            try rw [World.size_alloc] at h9
            exact h9
          refine step_row_g winT (by go_simp) _ _ rfl (B := wv5.heap.size) _ [] rfl ((own_new 28 hz3).grow ((Below.refl _ _).alloc (Nat.le_refl _) _)) _ s rfl (U.out.grow hHeld).row (by simp; try omega) (Below.size hHeld) ?_
          intro vA wA hownA hgA
          rw [List.nil_append] at hownA
          replace ON := ON.same fun b hb => hgA.block b (ON.lt b hb).2 (fun e9 => by have h8 : y3.heap.size + 1 = b := Option.some.inj hb; have h9 : y3.heap.size = b := Option.some.inj e9.symm; omega)
          refine hK.out _ _ (by (try dsimp only); exact Below.grown hHeld hgA (Below.size hHeld) (fun k hk => by have h9 : y3.heap.size = k := Option.some.inj hk; omega)) (fun hHeld => ?_)
          clear hK K
          refine wpAnyH_ready (rs := [15]) (by kernel_rfl) (by simp) (AllReadyH.cons rfl (fun K hK => ?_) AllReadyH.nil)
          refine step_row_g winT (by go_simp) _ _ rfl (B := wv5.heap.size) _ s rfl hownA _ [(0, 0)] rfl ON.row (by simp; try omega) (Below.size hHeld) ?_
          intro vB wB hownB hgB
          refine hK.out _ _ (by (try dsimp only); exact Below.grown hHeld hgB (Below.size hHeld) (fun k hk => (hownA.lt k hk).1)) (fun hHeld => ?_)
          clear hK K
          refine wpAnyH_ready (rs := [16]) (by kernel_rfl) (by simp) (AllReadyH.cons rfl (fun K hK => ?_) AllReadyH.nil)
          go_simp
          go_wp2_with ((go_at_call 5; refine (valw_is (implWin_any (R.out.grow hHeld).row hownB.row) (congrArg Value.bool HY.out)).mono ?_; rintro e y16 ⟨rfl, b9⟩))
          refine hK.out _ _ (by (try dsimp only); exact Below.trans hHeld (Below.mono b9 (Below.size hHeld))) (fun hHeld => ?_)
          clear hK K
          refine take_h 17 71 rfl rfl (by kernel_rfl) (by kernel_rfl) (by kernel_rfl) (fun _ _ _ h => h) (by kernel_rfl) (by intro w hSw; (try dsimp only at hSw); go_simp; try with_reducible rfl) (by assumption) ?_
          refine take_h 18 72 rfl rfl (by kernel_rfl) (by kernel_rfl) (by kernel_rfl) (fun _ _ _ h => h) (by kernel_rfl) (by intro w hSw; (try dsimp only at hSw); go_simp; try with_reducible rfl) (by assumption) ?_
          refine take_h 19 73 rfl rfl (by kernel_rfl) (by kernel_rfl) (by kernel_rfl) (fun _ _ _ h => h) (by kernel_rfl) (by intro w hSw; (try dsimp only at hSw); go_simp; try with_reducible rfl) (by assumption) ?_
          refine take_h 20 74 rfl rfl (by kernel_rfl) (by kernel_rfl) (by kernel_rfl) (fun _ _ _ h => h) (by kernel_rfl) (by intro w hSw; (try dsimp only at hSw); go_simp; try with_reducible rfl) (by assumption) ?_
          refine take_h 21 75 rfl rfl (by kernel_rfl) (by kernel_rfl) (by kernel_rfl) (fun _ _ _ h => h) (by kernel_rfl) (by intro w hSw; (try dsimp only at hSw); go_simp; try with_reducible rfl) (by assumption) ?_
          refine wpAnyH_ready (rs := [22]) (by kernel_rfl) (by simp) (AllReadyH.cons rfl (fun K hK => ?_) AllReadyH.nil)
          go_simp
          go_wp2_with ((go_at_call 5; refine (valw_is (implWin_any (C.out.grow hHeld).row (U.out.grow hHeld).row) (congrArg Value.bool HZ.out)).mono ?_; rintro e y22 ⟨rfl, b9⟩))
          refine hK.out _ _ (by (try dsimp only); exact Below.trans hHeld (Below.mono b9 (Below.size hHeld))) (fun hHeld => ?_)
          clear hK K
          refine take_h 23 77 rfl rfl (by kernel_rfl) (by kernel_rfl) (by kernel_rfl) (fun _ _ _ h => h) (by kernel_rfl) (by intro w hSw; (try dsimp only at hSw); go_simp; try with_reducible rfl) (by assumption) ?_
          refine take_h 24 78 rfl rfl (by kernel_rfl) (by kernel_rfl) (by kernel_rfl) (fun _ _ _ h => h) (by kernel_rfl) (by intro w hSw; (try dsimp only at hSw); go_simp; try with_reducible rfl) (by assumption) ?_
          refine take_h 25 4 rfl rfl (by kernel_rfl) (by kernel_rfl) (by kernel_rfl) (fun _ _ _ h => h) (by kernel_rfl) (by intro w hSw; (try dsimp only at hSw); go_simp; try with_reducible rfl) (by assumption) ?_
          refine wpAnyH_done (by kernel_rfl) ?_ _
          simp only [Exit.then]
          try simp only [Act.put, List.setIfInBounds_toArray]
          replace BB := Lib.hid (BB.out.trans (Below.mono hHeld BB.out.size))
          clear hHeld
          go_wp2_with fail
          go_ret
          exact ⟨by first | rfl | (simp; done) | (simp; omega), BB.out⟩
      · have hz3 : wv5.heap.size ≤ y3.heap.size := Below.size hHeld
        go_simp
        refine hK.out _ _ (by (try dsimp only); exact Below.alloc hHeld (Below.size hHeld) _) (fun hHeld => ?_)
        clear hK K
        refine wpAnyH_ready (rs := [10]) (by kernel_rfl) (by simp) (AllReadyH.cons rfl (fun K hK => ?_) AllReadyH.nil)
        go_simp
        refine hK.out _ _ (by (try dsimp only); exact Below.alloc hHeld (Below.size hHeld) _) (fun hHeld => ?_)
        clear hK K
        refine wpAnyH_ready (rs := [12]) (by kernel_rfl) (by simp) (AllReadyH.cons rfl (fun K hK => ?_) AllReadyH.nil)
        have ON : Own 28 ((y3.alloc (.cells #[.int .i64 0, .int .i64 0] 28)).alloc (.cells #[] 28)) wv5.heap.size (.slice (some ⟨y3.heap.size, 0, none⟩) 1 1) [(0, 0)] := by
          have h9 := (own_one 28 hz3 (0, 0)).grow ((Below.refl _ _).alloc (Nat.le_refl _) (.cells #[] 28))
          try rw [World.size_alloc] at h9
          exact h9
        have OE : Own 28 ((y3.alloc (.cells #[.int .i64 0, .int .i64 0] 28)).alloc (.cells #[] 28)) wv5.heap.size (.slice (some ⟨y3.heap.size + 1, 0, none⟩) 0 0) [] := by
          have h9 := own_new 28 (B := wv5.heap.size) (w := y3.alloc (.cells #[.int .i64 0, .int .i64 0] 28)) (by simp; omega)
          rw [World.size_alloc] at h9
          exact h9
        refine step_row_g winT (by go_simp) _ _ rfl (B := wv5.heap.size) _ [] rfl OE _ s rfl (U.out.grow hHeld).row (by simp; try omega) (Below.size hHeld) ?_
        intro vA wA hownA hgA
        rw [List.nil_append] at hownA
        replace ON := ON.same fun b hb => hgA.block b (ON.lt b hb).2 (fun e9 => by have h8 : y3.heap.size = b := Option.some.inj hb; have h9 : y3.heap.size + 1 = b := Option.some.inj e9.symm; omega)
        refine hK.out _ _ (by (try dsimp only); exact Below.grown hHeld hgA (Below.size hHeld) (fun k hk => by have h9 : y3.heap.size + 1 = k := Option.some.inj hk; omega)) (fun hHeld => ?_)
        clear hK K
        refine wpAnyH_ready (rs := [15]) (by kernel_rfl) (by simp) (AllReadyH.cons rfl (fun K hK => ?_) AllReadyH.nil)
        refine step_row_g winT (by go_simp) _ _ rfl (B := wv5.heap.size) _ s rfl hownA _ [(0, 0)] rfl ON.row (by simp; try omega) (Below.size hHeld) ?_
        intro vB wB hownB hgB
        refine hK.out _ _ (by (try dsimp only); exact Below.grown hHeld hgB (Below.size hHeld) (fun k hk => (hownA.lt k hk).1)) (fun hHeld => ?_)
        clear hK K
        refine wpAnyH_ready (rs := [16]) (by kernel_rfl) (by simp) (AllReadyH.cons rfl (fun K hK => ?_) AllReadyH.nil)
        go_simp
        go_wp2_with ((go_at_call 5; refine (valw_is (implWin_any (R.out.grow hHeld).row hownB.row) (congrArg Value.bool HY.out)).mono ?_; rintro e y16 ⟨rfl, b9⟩))
        refine hK.out _ _ (by (try dsimp only); exact Below.trans hHeld (Below.mono b9 (Below.size hHeld))) (fun hHeld => ?_)
        clear hK K
        refine take_h 17 71 rfl rfl (by kernel_rfl) (by kernel_rfl) (by kernel_rfl) (fun _ _ _ h => h) (by kernel_rfl) (by intro w hSw; (try dsimp only at hSw); go_simp; try with_reducible rfl) (by assumption) ?_
        refine take_h 18 72 rfl rfl (by kernel_rfl) (by kernel_rfl) (by kernel_rfl) (fun _ _ _ h => h) (by kernel_rfl) (by intro w hSw; (try dsimp only at hSw); go_simp; try with_reducible rfl) (by assumption) ?_
        refine take_h 19 73 rfl rfl (by kernel_rfl) (by kernel_rfl) (by kernel_rfl) (fun _ _ _ h => h) (by kernel_rfl) (by intro w hSw; (try dsimp only at hSw); go_simp; try with_reducible rfl) (by assumption) ?_
        refine take_h 20 74 rfl rfl (by kernel_rfl) (by kernel_rfl) (by kernel_rfl) (fun _ _ _ h => h) (by kernel_rfl) (by intro w hSw; (try dsimp only at hSw); go_simp; try with_reducible rfl) (by assumption) ?_
        refine take_h 21 75 rfl rfl (by kernel_rfl) (by kernel_rfl) (by kernel_rfl) (fun _ _ _ h => h) (by kernel_rfl) (by intro w hSw; (try dsimp only at hSw); go_simp; try with_reducible rfl) (by assumption) ?_
        refine wpAnyH_ready (rs := [22]) (by kernel_rfl) (by simp) (AllReadyH.cons rfl (fun K hK => ?_) AllReadyH.nil)
        go_simp
        go_wp2_with ((go_at_call 5; refine (valw_is (implWin_any (C.out.grow hHeld).row (U.out.grow hHeld).row) (congrArg Value.bool HZ.out)).mono ?_; rintro e y22 ⟨rfl, b9⟩))
        refine hK.out _ _ (by (try dsimp only); exact Below.trans hHeld (Below.mono b9 (Below.size hHeld))) (fun hHeld => ?_)
        clear hK K
        refine take_h 23 77 rfl rfl (by kernel_rfl) (by kernel_rfl) (by kernel_rfl) (fun _ _ _ h => h) (by kernel_rfl) (by intro w hSw; (try dsimp only at hSw); go_simp; try with_reducible rfl) (by assumption) ?_
        refine take_h 24 78 rfl rfl (by kernel_rfl) (by kernel_rfl) (by kernel_rfl) (fun _ _ _ h => h) (by kernel_rfl) (by intro w hSw; (try dsimp only at hSw); go_simp; try with_reducible rfl) (by assumption) ?_
        refine take_h 25 4 rfl rfl (by kernel_rfl) (by kernel_rfl) (by kernel_rfl) (fun _ _ _ h => h) (by kernel_rfl) (by intro w hSw; (try dsimp only at hSw); go_simp; try with_reducible rfl) (by assumption) ?_
        refine wpAnyH_done (by kernel_rfl) ?_ _
        simp only [Exit.then]
        try simp only [Act.put, List.setIfInBounds_toArray]
        replace BB := Lib.hid (BB.out.trans (Below.mono hHeld BB.out.size))
        clear hHeld
        go_wp2_with fail
        go_ret
        exact ⟨by first | rfl | (simp; done) | (simp; omega), BB.out⟩

set_option maxRecDepth 100000 in
theorem lifted (os : Os) (started : os.Started) (H : Type) (enc : TypeId × Value → H) :
    ReturnsInHanded {} Try.checked os 3 .any (Rows.fnWindowsSpec.pre6 enc Try.prog Try.f3 Rows.fnWindowsRow.domain false) (Rows.fnWindowsSpec.post enc Try.prog Try.f3 false true false false) := by
  refine returnsInHanded_of_change (C := Try.checked) own started (by kernel_rfl) Try.func3
    (ChangeSpec.witness6 (enc := enc) (C := Try.checked) false ⟨#[], #[.slice none 0 0, .slice none 0 0], []⟩ 8 (by kernel_rfl) (by kernel_rfl) (by kernel_rfl) (by kernel_rfl)) ?_
  intro W base args ds gs before hval0 hW hcnd _
  have hval : ∀ (j : Nat) t v, Try.f3.params[j]? = some t → args[j]? = some v → Value.okWide Try.prog W .any base t v := hval0
  have hW' := hW
  obtain ⟨p, q, hA0, hV, rfl, hfz, hnd⟩ := hW
  have hA : DataW.TrodAll enc Try.prog W 0 (fun _ => true) true Try.f3.params.toList args.toList ds p := hA0
  rw [Try.params3] at hA hval
  obtain ⟨v0, vs0, d0, ds0, p0, q0, hargs, rfl, rfl, h0, r0⟩ := trodAll_cons hA
  obtain ⟨v1, vs1, d1, ds1, p1, q1, rfl, rfl, rfl, h1, r1⟩ := trodAll_cons r0
  obtain ⟨rfl, rfl, rfl⟩ := trodAll_nil r1
  obtain rfl : args = #[v0, v1] := by cases args; simp_all
  obtain ⟨rfl, rfl⟩ := trodVars_none hV
  obtain ⟨a0, len0, cap0, rfl⟩ := okWide_slice Try.underlying22 (hval 0 22 v0 rfl rfl)
  have k0 := h0
  have lt0 : ∀ x ∈ p0, x.block < W.heap.size := by obtain ⟨m, hm⟩ := k0; exact DataW.trod_lt m _ _ _ hm
  obtain ⟨z0, w0⟩ : ∃ zs, IsRow .u8 W a0 len0 cap0 zs := by
    obtain ⟨fuel, hf⟩ := h0
    rcases open_ints Try.underlying22 Try.underlying5 (by kernel_rfl) hf with ⟨hcs, _⟩ | ⟨x, l, c, zs, hcs, _, hl, hm, hz, _, hcell, hwz⟩
    · simp [Value.cells] at hcs
      obtain ⟨rfl, rfl, rfl⟩ := hcs
      exact ⟨[], .inl ⟨rfl, rfl, rfl, rfl⟩⟩
    · simp [Value.cells] at hcs
      obtain ⟨rfl, rfl, rfl⟩ := hcs
      exact ⟨zs, .inr ⟨_, rfl, hl, hm, by simpa using hz, hcell, hwz⟩⟩
  obtain ⟨a1, len1, cap1, rfl⟩ := okWide_slice Try.underlying22 (hval 1 22 v1 rfl rfl)
  have k1 := h1
  have lt1 : ∀ x ∈ p1, x.block < W.heap.size := by obtain ⟨m, hm⟩ := k1; exact DataW.trod_lt m _ _ _ hm
  obtain ⟨z1, w1⟩ : ∃ zs, IsRow .u8 W a1 len1 cap1 zs := by
    obtain ⟨fuel, hf⟩ := h1
    rcases open_ints Try.underlying22 Try.underlying5 (by kernel_rfl) hf with ⟨hcs, _⟩ | ⟨x, l, c, zs, hcs, _, hl, hm, hz, _, hcell, hwz⟩
    · simp [Value.cells] at hcs
      obtain ⟨rfl, rfl, rfl⟩ := hcs
      exact ⟨[], .inl ⟨rfl, rfl, rfl, rfl⟩⟩
    · simp [Value.cells] at hcs
      obtain ⟨rfl, rfl, rfl⟩ := hcs
      exact ⟨zs, .inr ⟨_, rfl, hl, hm, by simpa using hz, hcell, hwz⟩⟩
  clear hA0 hval0
  refine (walk a0 len0 cap0 z0 a1 len1 cap1 z1 W w0 w1).mono fun e W' ⟨he, bel⟩ => ?_
  subst he
  exact ⟨_, rfl, _, _, _, [], _, [], hW', trodAll_mk1 (shut_bool Try.underlying4 _), (trodAll_cons_mk (Below.trod laidOut (by kernel_rfl) (of_decide_eq_true (by kernel_rfl)) k0 bel lt0) (trodAll_cons_mk (Below.trod laidOut (by kernel_rfl) (of_decide_eq_true (by kernel_rfl)) k1 bel lt1) trodAll_mk0)), rfl, bel.frame _, fun h => by cases h⟩

theorem over : Rows.fnWindowsRow.holds Try.pinned (OpenSpec.ofChange Rows.fnWindowsSpec) :=
  OpenClaim.holds_of_wide 3 Try.f3 rfl rfl rfl rfl rfl rfl rfl ⟨rfl, rfl, rfl, rfl, rfl⟩ rfl rfl rfl rfl rfl (by kernel_rfl) Try.func3 (by kernel_rfl)
    (of_decide_eq_true (by kernel_rfl)) (by unfold Func.isWrapper; first | (rw [if_pos (by decide +kernel)]; kernel_rfl) | (rw [if_neg (by decide +kernel)]; exact ⟨rfl, rfl⟩))
    (fun os started H enc _ => lifted os started H enc)

/-- ████ THE STATEMENT ████ -/
theorem proved : Rows.FnWindowsSaid := over
#print axioms proved
end Go.Proofs.Ytanfalkpmmkklaa.fnWindows
