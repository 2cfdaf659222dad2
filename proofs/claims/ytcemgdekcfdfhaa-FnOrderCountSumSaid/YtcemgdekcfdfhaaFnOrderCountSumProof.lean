/- For every input, the law FnOrderCountSum of the given statements returns true over the program at this commit, and its arguments read afterwards as before: no condition. -/
import Derived.Test.YtcemgdekcfdfhaaRows
import Derived.Test.YtcemgdekcfdfhaaLawP
import Derived.WalkKit
import Derived.ProofKit
import Derived.OpenShut
import Derived.ShutString
import Derived.ChangeOld
import Derived.Below
namespace Go.Proofs.Ytcemgdekcfdfhaa.fnOrderCountSum
open Go.ChangeShapes Go.WideShapes Go.ChangeAt Go.RowKit
open Go.ChangeMaps (open_string shut_string)
set_option linter.unusedVariables false

theorem own : ownKnob Try.prog.godebug = none := by kernel_rfl
theorem laidOut : laidOutB Try.prog = true := by kernel_rfl

/-- WHAT THE WALK IS TOLD OF A SLICE OF INTEGERS THAT CAME IN: it is nil; or it leads to a row of 'cap' cells, the numbers 'zs' (the first 'len' are its elements, the rest its spare room), each fitting its kind. -/
def IsRow (k : IntKind) (w : World) (a : Option Addr) (len cap : Nat) (zs : List Int) : Prop :=
  (a = none ∧ len = 0 ∧ cap = 0 ∧ zs = []) ∨
  ∃ x, a = some x ∧ len ≤ cap ∧ cap ≤ maxLen ∧ zs.length = cap ∧ (∀ i, i < zs.length → w.cell? (x.add i) = some (.int k (zs.getD i 0))) ∧ ∀ n ∈ zs, (Lit.int k n).wf = true

set_option maxRecDepth 100000 in
set_option maxHeartbeats 3200000 in
theorem walk (a0 : Option Addr) (len0 cap0 : Nat) (z0 : List Int) (w : World) (w0 : IsRow .u8 w a0 len0 cap0 z0) :
    Calls Try.prog 4 #[.slice a0 len0 cap0] w fun e w' => e = .returned (.bool true) ∧ Below w.heap.size w w' := by
  have hB := bytes_of w0
  by_cases hl : 1048576 < len0
  · have hdec : decide (1048576 < len0) = true := by simpa using hl
    go_enter Try.func4, Try.ntmps4
    go_wp2_with fail
    go_ret
    exact ⟨rfl, Below.refl _ _⟩
  have hdec : decide (1048576 < len0) = false := by simpa using hl
  have hm : len0 ≤ 1048576 := by omega
  go_enter Try.func4, Try.ntmps4
  go_wp2_with fail
  refine (DrawOrderCount_any hB).mono ?_
  rintro e wv1 ⟨v, u, l, s, rfl, ⟨r0, r1, l1, l3, s1, s4, bl, bs⟩, b1⟩
  clear w0 hB
  have BB := Lib.hid b1
  clear b1
  have R := Lib.hid r0
  clear r0
  have U := Lib.hid r1
  clear r1
  replace R := Lib.hid R.out.row
  replace U := Lib.hid U.out.row
  obtain ⟨aR, cR, rfl, kR, mR⟩ := plen_n R.out
  obtain ⟨aU, cU, rfl, kU, mU⟩ := plen_n U.out
  rcases count_cases l s with hc | ⟨hw, hc, hp, hq⟩
  · have HC := Lib.hid hc
    clear hc
    go_wp2_with fail
    refine (cntI_is R.out U.out HC.out).mono ?_
    rintro e wv2 ⟨rfl, b9⟩
    replace R := Lib.hid (R.out.grow b9)
    replace U := Lib.hid (U.out.grow b9)
    replace BB := Lib.hid (BB.out.trans (b9.mono BB.out.size))
    clear b9
    go_wp2_with fail
    refine (cntS_is R.out U.out HC.out).mono ?_
    rintro e wv3 ⟨rfl, b9⟩
    replace R := Lib.hid (R.out.grow b9)
    replace U := Lib.hid (U.out.grow b9)
    replace BB := Lib.hid (BB.out.trans (b9.mono BB.out.size))
    clear b9
    go_wp2_with fail
    go_ret
    exact ⟨by first | rfl | (simp; done) | (simp; omega), BB.out⟩
  obtain ⟨z, hz⟩ : ∃ z, cnt (par l s) = z := ⟨_, rfl⟩
  rw [hz] at hc hp hq
  have CZ := Lib.hid hc; have CN := Lib.hid hz; have W := Lib.hid hw
  have g0 : ¬ (z : Int) < 0 := by omega
  clear hc hz hw
  go_wp2_with fail
  refine (cntI_is R.out U.out CZ.out).mono ?_
  rintro e wv2 ⟨rfl, b9⟩
  replace R := Lib.hid (R.out.grow b9)
  replace U := Lib.hid (U.out.grow b9)
  replace BB := Lib.hid (BB.out.trans (b9.mono BB.out.size))
  clear b9
  go_wp2_with fail
  refine (cntS_is R.out U.out CZ.out).mono ?_
  rintro e wv3 ⟨rfl, b9⟩
  replace R := Lib.hid (R.out.grow b9)
  replace U := Lib.hid (U.out.grow b9)
  replace BB := Lib.hid (BB.out.trans (b9.mono BB.out.size))
  clear b9
  by_cases e1 : l.length = 1
  · have W2 := W.out.len
    obtain ⟨x, rfl⟩ : ∃ x, l = [x] := List.length_eq_one_iff.1 e1
    obtain ⟨y, rfl⟩ : ∃ y, s = [y] := List.length_eq_one_iff.1 W2
    have x6 := W.out.a6 0 (by simp); have y6 := W.out.b6 0 (by simp)
    simp only [List.getElem_cons_zero] at x6 y6
    clear W2 e1
    obtain ⟨gR, oR, qR, eR, _, _⟩ := R.out.known (by simp)
    simp only [Value.slice.injEq, true_and] at eR
    obtain ⟨rfl, rfl⟩ := eR
    obtain ⟨gU, oU, qU, eU, _, _⟩ := U.out.known (by simp)
    simp only [Value.slice.injEq, true_and] at eU
    obtain ⟨rfl, rfl⟩ := eU
    have d1 : wv3.cell? ⟨gR, oR, none⟩ = some (.int .i64 x) := R.out.cells 0 (by simp)
    have d2 : wv3.cell? ⟨gU, oU, none⟩ = some (.int .i64 y) := U.out.cells 0 (by simp)
    by_cases x0 : x = 0
    · subst x0
      go_wp2_with fail
      go_ret
      exact ⟨by first | rfl | (simp; done) | (simp; omega), BB.out⟩
    have x0' : (x == 0) = false := beq_eq_false_iff_ne.2 x0
    by_cases y0 : y = 0
    · subst y0
      go_wp2_with fail
      go_ret
      exact ⟨by first | rfl | (simp; done) | (simp; omega), BB.out⟩
    have y0' : (y == 0) = false := beq_eq_false_iff_ne.2 y0
    obtain ⟨n1, n2, f1, f2, f3⟩ := count_one_sum W.out CN.out x0 y0
    have F1 := Lib.hid f1; have F2 := Lib.hid f2
    have w1 : IntKind.i64.wrap (x - 1) = x - 1 := IntWalk.i64_in _ (by omega)
    have w2 : IntKind.i64.wrap (y - 1) = y - 1 := IntWalk.i64_in _ (by omega)
    have w3 : IntKind.i64.wrap ((n1 : Int) + (n2 : Int)) = (z : Int) := by rw [show (n1 : Int) + (n2 : Int) = (z : Int) by omega]; exact IntWalk.i64_in _ (by omega)
    clear f1 f2 x0 y0
    go_wp2_with fail
    have mkS : ∀ w' : World, Below wv3.heap.size wv3 w' → (Below wv3.heap.size wv3 w' ∧ w'.cell? ⟨gR, oR, none⟩ = some (.int .i64 x) ∧ w'.cell? ⟨gU, oU, none⟩ = some (.int .i64 y)) := fun w' b => ⟨b, (b.cell (cell_below d1)).trans d1, (b.cell (cell_below d2)).trans d2⟩
    refine wp_region_held_drew (S := (fun w' => (Below wv3.heap.size wv3 w' ∧ w'.cell? ⟨gR, oR, none⟩ = some (.int .i64 x) ∧ w'.cell? ⟨gU, oU, none⟩ = some (.int .i64 y)))) (by kernel_rfl) (by exact mkS _ (Below.refl _ _).drew) (fun hHeld => ?_)
    refine take_h 0 48 rfl rfl (by kernel_rfl) (by kernel_rfl) (by kernel_rfl) (fun _ _ _ h => h) (by kernel_rfl) (by intro w hSw; (try dsimp only at hSw); go_simp; try with_reducible rfl) (by assumption) ?_
    refine take_h 1 49 rfl rfl (by kernel_rfl) (by kernel_rfl) (by kernel_rfl) (fun _ _ _ h => h) (by kernel_rfl) (by intro w hSw; (try dsimp only at hSw); go_simp; try with_reducible rfl) (by assumption) ?_
    refine take_h 2 50 rfl rfl (by kernel_rfl) (by kernel_rfl) (by kernel_rfl) (fun _ _ _ h => h) (by kernel_rfl) (by intro w hSw; (try dsimp only at hSw); go_simp; try with_reducible rfl) (by assumption) ?_
    refine take_h 3 51 rfl rfl (by kernel_rfl) (by kernel_rfl) (by kernel_rfl) (fun _ _ _ h => h) (by kernel_rfl) (by intro w hSw; (try dsimp only at hSw); go_simp; try with_reducible rfl) (by assumption) ?_
    refine take_h 5 53 rfl rfl (by kernel_rfl) (by kernel_rfl) (by kernel_rfl) (fun _ _ _ h => h) (by kernel_rfl) (by intro w hSw; (try dsimp only at hSw); go_simp; try with_reducible rfl) (by assumption) ?_
    refine take_h 7 55 rfl rfl (by kernel_rfl) (by kernel_rfl) (by kernel_rfl) (fun _ _ _ h => h) (by kernel_rfl) (by intro w hSw; (try dsimp only at hSw); go_simp; try with_reducible rfl) (by assumption) ?_
    refine take_h 8 56 rfl rfl (by kernel_rfl) (by kernel_rfl) (by kernel_rfl) (fun _ _ _ h => h) (by kernel_rfl) (by intro w hSw; (try dsimp only at hSw); go_simp; try with_reducible rfl) (by assumption) ?_
    refine take_h 9 57 rfl rfl (by kernel_rfl) (by kernel_rfl) (by kernel_rfl) (fun _ _ _ h => h) (by kernel_rfl) (by intro w hSw; (try dsimp only at hSw); go_simp; try with_reducible rfl) (by assumption) ?_
    refine take_h 10 58 rfl rfl (by kernel_rfl) (by kernel_rfl) (by kernel_rfl) (fun _ _ _ h => h) (by kernel_rfl) (by intro w hSw; (try dsimp only at hSw); go_simp; try with_reducible rfl) (by assumption) ?_
    refine take_h 11 59 rfl rfl (by kernel_rfl) (by kernel_rfl) (by kernel_rfl) (fun _ _ _ h => h) (by kernel_rfl) (by intro w hSw; (try dsimp only at hSw); go_simp; try with_reducible rfl) (by assumption) ?_
    refine take_h 15 63 rfl rfl (by kernel_rfl) (by kernel_rfl) (by kernel_rfl) (fun _ _ _ h => h) (by kernel_rfl) (by intro w hSw; (try dsimp only at hSw); go_simp; try with_reducible rfl) (by assumption) ?_
    refine wpAnyH_ready (rs := [4, 12]) (by kernel_rfl) (by simp) (AllReadyH.cons rfl (fun K hK => ?_) (AllReadyH.cons rfl (fun K hK => ?_) AllReadyH.nil))
    · go_simp
      refine hK.out _ _ (by (try dsimp only); exact mkS _ (Below.alloc hHeld.1 (Below.size hHeld.1) _)) (fun hHeld => ?_)
      clear hK K
      refine wpAnyH_ready (rs := [6, 12]) (by kernel_rfl) (by simp) (AllReadyH.cons rfl (fun K hK => ?_) (AllReadyH.cons rfl (fun K hK => ?_) AllReadyH.nil))
      · go_simp
        go_wp2_with ((refine (cntI_is (show IRow _ _ [x - 1] from by first | exact irow_lit (by go_cell)) (U.out.grow hHeld.1) F1.out).mono ?_; rintro e y6 ⟨rfl, b6⟩; have hs := Below.trans hHeld.1 (Below.mono b6 (Below.size hHeld.1))))
        refine hK.out _ _ (by (try dsimp only); exact mkS _ hs) (fun hHeld => ?_)
        clear hK K
        refine wpAnyH_ready (rs := [12]) (by kernel_rfl) (by simp) (AllReadyH.cons rfl (fun K hK => ?_) AllReadyH.nil)
        go_simp
        refine hK.out _ _ (by (try dsimp only); exact mkS _ (Below.alloc hHeld.1 (Below.size hHeld.1) _)) (fun hHeld => ?_)
        clear hK K
        refine wpAnyH_ready (rs := [13]) (by kernel_rfl) (by simp) (AllReadyH.cons rfl (fun K hK => ?_) AllReadyH.nil)
        go_simp
        go_wp2_with ((refine (cntI_is (R.out.grow hHeld.1) (show IRow _ _ [y - 1] from by first | exact irow_lit (by go_cell) | exact irow_late b6 (by go_cell)) F2.out).mono ?_; rintro e y13 ⟨rfl, b13⟩; have hs := Below.trans hHeld.1 (Below.mono b13 (Below.size hHeld.1))))
        refine hK.out _ _ (by (try dsimp only); exact mkS _ hs) (fun hHeld => ?_)
        clear hK K
        refine take_h 14 62 rfl rfl (by kernel_rfl) (by kernel_rfl) (by kernel_rfl) (fun _ _ _ h => h) (by kernel_rfl) (by intro w hSw; (try dsimp only at hSw); go_simp; try with_reducible rfl) (by assumption) ?_
        refine take_h 16 64 rfl rfl (by kernel_rfl) (by kernel_rfl) (by kernel_rfl) (fun _ _ _ h => h) (by kernel_rfl) (by intro w hSw; (try dsimp only at hSw); go_simp; try with_reducible rfl) (by assumption) ?_
        refine take_h 17 2 rfl rfl (by kernel_rfl) (by kernel_rfl) (by kernel_rfl) (fun _ _ _ h => h) (by kernel_rfl) (by intro w hSw; (try dsimp only at hSw); go_simp; try with_reducible rfl) (by assumption) ?_
        refine wpAnyH_done (by kernel_rfl) ?_ _
        simp only [Exit.then]
        try simp only [Act.put, List.setIfInBounds_toArray, List.set_cons_succ, List.set_cons_zero]
        replace BB := Lib.hid (BB.out.trans (hHeld.1.mono BB.out.size))
        go_wp2_with fail
        go_ret
        exact ⟨by first | rfl | (simp; done) | (simp; omega), BB.out⟩
      · go_simp
        refine hK.out _ _ (by (try dsimp only); exact mkS _ (Below.alloc hHeld.1 (Below.size hHeld.1) _)) (fun hHeld => ?_)
        clear hK K
        refine wpAnyH_ready (rs := [6]) (by kernel_rfl) (by simp) (AllReadyH.cons rfl (fun K hK => ?_) AllReadyH.nil)
        go_simp
        go_wp2_with ((refine (cntI_is (show IRow _ _ [x - 1] from by first | exact irow_lit (by go_cell)) (U.out.grow hHeld.1) F1.out).mono ?_; rintro e y6 ⟨rfl, b6⟩; have hs := Below.trans hHeld.1 (Below.mono b6 (Below.size hHeld.1))))
        refine hK.out _ _ (by (try dsimp only); exact mkS _ hs) (fun hHeld => ?_)
        clear hK K
        refine wpAnyH_ready (rs := [13]) (by kernel_rfl) (by simp) (AllReadyH.cons rfl (fun K hK => ?_) AllReadyH.nil)
        go_simp
        go_wp2_with ((refine (cntI_is (R.out.grow hHeld.1) (show IRow _ _ [y - 1] from by first | exact irow_lit (by go_cell) | exact irow_late b6 (by go_cell)) F2.out).mono ?_; rintro e y13 ⟨rfl, b13⟩; have hs := Below.trans hHeld.1 (Below.mono b13 (Below.size hHeld.1))))
        refine hK.out _ _ (by (try dsimp only); exact mkS _ hs) (fun hHeld => ?_)
        clear hK K
        refine take_h 14 62 rfl rfl (by kernel_rfl) (by kernel_rfl) (by kernel_rfl) (fun _ _ _ h => h) (by kernel_rfl) (by intro w hSw; (try dsimp only at hSw); go_simp; try with_reducible rfl) (by assumption) ?_
        refine take_h 16 64 rfl rfl (by kernel_rfl) (by kernel_rfl) (by kernel_rfl) (fun _ _ _ h => h) (by kernel_rfl) (by intro w hSw; (try dsimp only at hSw); go_simp; try with_reducible rfl) (by assumption) ?_
        refine take_h 17 2 rfl rfl (by kernel_rfl) (by kernel_rfl) (by kernel_rfl) (fun _ _ _ h => h) (by kernel_rfl) (by intro w hSw; (try dsimp only at hSw); go_simp; try with_reducible rfl) (by assumption) ?_
        refine wpAnyH_done (by kernel_rfl) ?_ _
        simp only [Exit.then]
        try simp only [Act.put, List.setIfInBounds_toArray, List.set_cons_succ, List.set_cons_zero]
        replace BB := Lib.hid (BB.out.trans (hHeld.1.mono BB.out.size))
        go_wp2_with fail
        go_ret
        exact ⟨by first | rfl | (simp; done) | (simp; omega), BB.out⟩
    · go_simp
      refine hK.out _ _ (by (try dsimp only); exact mkS _ (Below.alloc hHeld.1 (Below.size hHeld.1) _)) (fun hHeld => ?_)
      clear hK K
      refine wpAnyH_ready (rs := [4]) (by kernel_rfl) (by simp) (AllReadyH.cons rfl (fun K hK => ?_) AllReadyH.nil)
      go_simp
      refine hK.out _ _ (by (try dsimp only); exact mkS _ (Below.alloc hHeld.1 (Below.size hHeld.1) _)) (fun hHeld => ?_)
      clear hK K
      refine wpAnyH_ready (rs := [6]) (by kernel_rfl) (by simp) (AllReadyH.cons rfl (fun K hK => ?_) AllReadyH.nil)
      go_simp
      go_wp2_with ((refine (cntI_is (show IRow _ _ [x - 1] from by first | exact irow_lit (by go_cell)) (U.out.grow hHeld.1) F1.out).mono ?_; rintro e y6 ⟨rfl, b6⟩; have hs := Below.trans hHeld.1 (Below.mono b6 (Below.size hHeld.1))))
      refine hK.out _ _ (by (try dsimp only); exact mkS _ hs) (fun hHeld => ?_)
      clear hK K
      refine wpAnyH_ready (rs := [13]) (by kernel_rfl) (by simp) (AllReadyH.cons rfl (fun K hK => ?_) AllReadyH.nil)
      go_simp
      go_wp2_with ((refine (cntI_is (R.out.grow hHeld.1) (show IRow _ _ [y - 1] from by first | exact irow_lit (by go_cell) | exact irow_late b6 (by go_cell)) F2.out).mono ?_; rintro e y13 ⟨rfl, b13⟩; have hs := Below.trans hHeld.1 (Below.mono b13 (Below.size hHeld.1))))
      refine hK.out _ _ (by (try dsimp only); exact mkS _ hs) (fun hHeld => ?_)
      clear hK K
      refine take_h 14 62 rfl rfl (by kernel_rfl) (by kernel_rfl) (by kernel_rfl) (fun _ _ _ h => h) (by kernel_rfl) (by intro w hSw; (try dsimp only at hSw); go_simp; try with_reducible rfl) (by assumption) ?_
      refine take_h 16 64 rfl rfl (by kernel_rfl) (by kernel_rfl) (by kernel_rfl) (fun _ _ _ h => h) (by kernel_rfl) (by intro w hSw; (try dsimp only at hSw); go_simp; try with_reducible rfl) (by assumption) ?_
      refine take_h 17 2 rfl rfl (by kernel_rfl) (by kernel_rfl) (by kernel_rfl) (fun _ _ _ h => h) (by kernel_rfl) (by intro w hSw; (try dsimp only at hSw); go_simp; try with_reducible rfl) (by assumption) ?_
      refine wpAnyH_done (by kernel_rfl) ?_ _
      simp only [Exit.then]
      try simp only [Act.put, List.setIfInBounds_toArray, List.set_cons_succ, List.set_cons_zero]
      replace BB := Lib.hid (BB.out.trans (hHeld.1.mono BB.out.size))
      go_wp2_with fail
      go_ret
      exact ⟨by first | rfl | (simp; done) | (simp; omega), BB.out⟩
  · have e1' : ((l.length : Int) != 1) = true := by rw [bne_iff_ne]; omega
    clear e1
    go_wp2_with fail
    go_ret
    exact ⟨by first | rfl | (simp; done) | (simp; omega), BB.out⟩

set_option maxRecDepth 100000 in
theorem lifted (os : Os) (started : os.Started) (H : Type) (enc : TypeId × Value → H) :
    ReturnsInHanded {} Try.checked os 4 .any (Rows.fnOrderCountSumSpec.pre6 enc Try.prog Try.f4 Rows.fnOrderCountSumRow.domain false) (Rows.fnOrderCountSumSpec.post enc Try.prog Try.f4 false true false false) := by
  refine returnsInHanded_of_change (C := Try.checked) own started (by kernel_rfl) Try.func4
    (ChangeSpec.witness6 (enc := enc) (C := Try.checked) false ⟨#[], #[.slice none 0 0], []⟩ 8 (by kernel_rfl) (by kernel_rfl) (by kernel_rfl) (by kernel_rfl)) ?_
  intro W base args ds gs before hval0 hW hcnd _
  have hval : ∀ (j : Nat) t v, Try.f4.params[j]? = some t → args[j]? = some v → Value.okWide Try.prog W .any base t v := hval0
  have hW' := hW
  obtain ⟨p, q, hA0, hV, rfl, hfz, hnd⟩ := hW
  have hA : DataW.TrodAll enc Try.prog W 0 (fun _ => true) true Try.f4.params.toList args.toList ds p := hA0
  rw [Try.params4] at hA hval
  obtain ⟨v0, vs0, d0, ds0, p0, q0, hargs, rfl, rfl, h0, r0⟩ := trodAll_cons hA
  obtain ⟨rfl, rfl, rfl⟩ := trodAll_nil r0
  obtain rfl : args = #[v0] := by cases args; simp_all
  obtain ⟨rfl, rfl⟩ := trodVars_none hV
  obtain ⟨a0, len0, cap0, rfl⟩ := okWide_slice Try.underlying22 (hval 0 22 v0 rfl rfl)
  have k0 := h0
  have lt0 : ∀ x ∈ p0, x.block < W.heap.size := by obtain ⟨m, hm⟩ := k0; exact DataW.trod_lt m _ _ _ hm
  obtain ⟨z0, w0⟩ : ∃ zs, IsRow .u8 W a0 len0 cap0 zs := by
    obtain ⟨fuel, hf⟩ := h0
    rcases open_ints Try.underlying22 Try.underlying5 (by kernel_rfl) hf with ⟨hcs, _⟩ | ⟨x, l, c, zs, hcs, _, hl, hm, hz, _, hcell, hwz⟩
    · simp [Value.cells] at hcs
      obtain ⟨rfl, rfl, rfl⟩ := hcs
      exact ⟨[], .inl ⟨rfl, rfl, rfl, rfl⟩⟩
    · simp [Value.cells] at hcs
      obtain ⟨rfl, rfl, rfl⟩ := hcs
      exact ⟨zs, .inr ⟨_, rfl, hl, hm, by simpa using hz, hcell, hwz⟩⟩
  clear hA0 hval0
  refine (walk a0 len0 cap0 z0 W w0).mono fun e W' ⟨he, bel⟩ => ?_
  subst he
  exact ⟨_, rfl, _, _, _, [], _, [], hW', trodAll_mk1 (shut_bool Try.underlying4 _), (trodAll_cons_mk (Below.trod laidOut (by kernel_rfl) (of_decide_eq_true (by kernel_rfl)) k0 bel lt0) trodAll_mk0), rfl, bel.frame _, fun h => by cases h⟩

theorem over : Rows.fnOrderCountSumRow.holds Try.pinned (OpenSpec.ofChange Rows.fnOrderCountSumSpec) :=
  OpenClaim.holds_of_wide 4 Try.f4 rfl rfl rfl rfl rfl rfl rfl ⟨rfl, rfl, rfl, rfl, rfl⟩ rfl rfl rfl rfl rfl (by kernel_rfl) Try.func4 (by kernel_rfl)
    (of_decide_eq_true (by kernel_rfl)) (by unfold Func.isWrapper; first | (rw [if_pos (by decide +kernel)]; kernel_rfl) | (rw [if_neg (by decide +kernel)]; exact ⟨rfl, rfl⟩))
    (fun os started H enc _ => lifted os started H enc)

/-- ████ THE STATEMENT ████ -/
theorem proved : Rows.FnOrderCountSumSaid := over
#print axioms proved
end Go.Proofs.Ytcemgdekcfdfhaa.fnOrderCountSum
