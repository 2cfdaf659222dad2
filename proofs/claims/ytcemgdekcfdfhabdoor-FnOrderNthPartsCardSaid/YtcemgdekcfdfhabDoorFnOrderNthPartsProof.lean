/- For every input, the law FnOrderNthParts of the given statements returns true over the program at this commit, and its arguments read afterwards as before: its conditions: the package-level variables that the row lists hold what the program's own text lays into them, which the card ties. -/
import Derived.Test.YtcemgdekcfdfhabDoorRows
import Derived.Test.YtcemgdekcfdfhabDoorCards
import Derived.Test.YtcemgdekcfdfhabDoorTie
import Derived.Test.YtcemgdekcfdfhabDoorLawVP
import Derived.Deep.DeepWitnessRowRef
import Derived.LaidMore
import Derived.MakeChecks
import Derived.SevenTiedAt
import Derived.WalkKit
import Derived.ProofKit
import Derived.OpenShut
import Derived.ShutString
import Derived.ChangeOld
import Derived.Below
namespace Go.Proofs.YtcemgdekcfdfhabDoor.fnOrderNthParts
open Go.ChangeShapes Go.WideShapes Go.ChangeAt Go.RowKit
open Go.ChangeMaps (open_string shut_string)
set_option linter.unusedVariables false

theorem own : ownKnob Tryd.prog.godebug = none := by kernel_rfl
theorem laidOut : laidOutB Tryd.prog = true := by kernel_rfl

/-- WHAT THE WALK IS TOLD OF A SLICE OF INTEGERS THAT CAME IN: it is nil; or it leads to a row of 'cap' cells, the numbers 'zs' (the first 'len' are its elements, the rest its spare room), each fitting its kind. -/
def IsRow (k : IntKind) (w : World) (a : Option Addr) (len cap : Nat) (zs : List Int) : Prop :=
  (a = none ∧ len = 0 ∧ cap = 0 ∧ zs = []) ∨
  ∃ x, a = some x ∧ len ≤ cap ∧ cap ≤ maxLen ∧ zs.length = cap ∧ (∀ i, i < zs.length → w.cell? (x.add i) = some (.int k (zs.getD i 0))) ∧ ∀ n ∈ zs, (Lit.int k n).wf = true

set_option maxRecDepth 100000 in
set_option maxHeartbeats 3200000 in
theorem walk (a0 : Option Addr) (len0 cap0 : Nat) (z0 : List Int) (w : World) (w0 : IsRow .u8 w a0 len0 cap0 z0) (hL : laidMet Tryd.prog Rows.fnOrderNthPartsRow.laid w) (hSh : w.ShapedOpen Tryd.prog) :
    Calls Tryd.prog 3 #[.slice a0 len0 cap0] w fun e w' => e = .returned (.bool true) ∧ Below w.heap.size w w' := by
  have hB := bytes_of w0
  have M0 := Lib.hid (ml_of hSh)
  clear hL hSh
  by_cases hl : 1048576 < len0
  · have hdec : decide (1048576 < len0) = true := by simpa using hl
    go_enter Tryd.func3, Tryd.ntmps3
    go_wp2_with fail
    go_ret
    exact ⟨rfl, Below.refl _ _⟩
  have hdec : decide (1048576 < len0) = false := by simpa using hl
  have hm : len0 ≤ 1048576 := by omega
  go_enter Tryd.func3, Tryd.ntmps3
  go_wp2_with fail
  refine (DrawOrderNth_any hB).mono ?_
  rintro e wv1 ⟨v, u, l, s, n, rfl, ⟨r0, r1, l1, l3, s1, s4, bl, bs⟩, n0, n9, b1⟩
  clear w0 hB
  have BB := Lib.hid b1
  clear b1
  have R := Lib.hid r0
  clear r0
  have U := Lib.hid r1
  clear r1
  replace R := Lib.hid R.out.row
  replace U := Lib.hid U.out.row
  obtain ⟨aR, cR, rfl, kR, mR⟩ := plen_n R.out
  obtain ⟨aU, cU, rfl, kU, mU⟩ := plen_n U.out
  have M := Lib.hid (M0.out.grow BB.out)
  clear M0
  have e9 : (str []).toList = [] := str_toList []
  have n63 : I63 n := by unfold I63; omega
  rcases nth_cases l s n with hc | ⟨N, rfl, hw, hN, hc⟩
  · have HC := Lib.hid hc
    clear hc
    go_wp2_with fail
    refine (nI_no R.out U.out HC.out).mono ?_
    rintro e wv2 ⟨rfl, b9⟩
    replace R := Lib.hid (R.out.grow b9)
    replace U := Lib.hid (U.out.grow b9)
    replace M := Lib.hid (M.out.grow b9)
    replace BB := Lib.hid (BB.out.trans (b9.mono BB.out.size))
    clear b9
    go_wp2_with fail
    refine (nS_no R.out U.out n63 HC.out).mono ?_
    rintro e wv3 ⟨rfl, b9⟩
    replace R := Lib.hid (R.out.grow b9)
    replace U := Lib.hid (U.out.grow b9)
    replace M := Lib.hid (M.out.grow b9)
    replace BB := Lib.hid (BB.out.trans (b9.mono BB.out.size))
    clear b9
    go_wp2_with fail
    go_ret
    exact ⟨by first | rfl | (simp; done) | (simp; omega), BB.out⟩
  obtain ⟨t, ht⟩ : ∃ t, jn (txs (par l s) N) = t := ⟨_, rfl⟩
  rw [ht] at hc
  have TT := Lib.hid hc; have TX := Lib.hid ht; have W := Lib.hid hw; have NL := Lib.hid hN
  have t9 : t.length ≤ 52 := by rw [← ht]; exact nth_len hw N
  have so : (str t).size = t.length := str_size t
  clear hc ht hw hN
  go_wp2_with fail
  refine (nI_yes R.out U.out TT.out).mono ?_
  rintro e wv2 ⟨rfl, b9⟩
  replace R := Lib.hid (R.out.grow b9)
  replace U := Lib.hid (U.out.grow b9)
  replace M := Lib.hid (M.out.grow b9)
  replace BB := Lib.hid (BB.out.trans (b9.mono BB.out.size))
  clear b9
  go_wp2_with fail
  refine (nS_yes R.out U.out n63 TT.out).mono ?_
  rintro e wv3 ⟨rfl, b9⟩
  replace R := Lib.hid (R.out.grow b9)
  replace U := Lib.hid (U.out.grow b9)
  replace M := Lib.hid (M.out.grow b9)
  replace BB := Lib.hid (BB.out.trans (b9.mono BB.out.size))
  clear b9
  have t10 : t.length ≤ 1048600 := by omega
  by_cases e1 : l.length = 1
  · have HR := Lib.hid (nth_parts TT.out).2
    have e1' : ((l.length : Int) == 1) = true := by rw [beq_iff_eq]; omega
    clear e1
    go_wp2_with fail
    refine (rkI_is t10 M.out HR.out).mono ?_
    rintro e wv4 ⟨rfl, b9⟩
    replace R := Lib.hid (R.out.grow b9)
    replace U := Lib.hid (U.out.grow b9)
    replace M := Lib.hid (M.out.grow b9)
    replace BB := Lib.hid (BB.out.trans (b9.mono BB.out.size))
    clear b9
    go_wp2_with fail
    go_ret
    exact ⟨by first | rfl | (simp; done) | (simp; omega), BB.out⟩
  have e1' : ((l.length : Int) == 1) = false := beq_eq_false_iff_ne.2 (by omega)
  obtain ⟨r, hr⟩ : ∃ r, cnt (par (l.drop 1) (s.drop 1)) = r := ⟨_, rfl⟩
  obtain ⟨x, hx⟩ : ∃ x, jn (txs (par (l.take 1) (s.take 1)) (N / r)) = x := ⟨_, rfl⟩
  obtain ⟨y, hy⟩ : ∃ x, jn (txs (par (l.drop 1) (s.drop 1)) (N % r)) = x := ⟨_, rfl⟩
  have ql : 1 < l.length := by have := W.out.one; omega
  obtain ⟨f1, f2, f3, f4, f5, f6⟩ := nth_first W.out NL.out ql hr hx hy
  rw [TX.out] at f4
  have FR := Lib.hid f1; have F1 := Lib.hid f2; have F2 := Lib.hid f3
  have N9 : N ≤ 728933458176 := f6
  have rp : 1 ≤ r := f5
  have xl : x.length ≤ 52 := by have := congrArg List.length f4; simp at this; omega
  have yl : y.length ≤ 52 := by have := congrArg List.length f4; simp at this; omega
  have r9 : r ≤ 728933458176 := by rw [← hr]; exact cnt_four (W.out.drop ql).small (by rw [par_length _ _ (W.out.drop ql).len]; exact (W.out.drop ql).most)
  have rz : ((r : Int) == 0) = false := beq_eq_false_iff_ne.2 (by omega)
  have r0 : ¬ r = 0 := by omega
  have dv2 : IntKind.i64.wrap ((N : Int) / (r : Int)) = ((N / r : Nat) : Int) := by rw [← Int.natCast_ediv]; exact IntWalk.i64_in _ (by have := Nat.div_le_self N r; generalize N / r = d at this ⊢; omega)
  have md2 : IntKind.i64.wrap ((N : Int) % (r : Int)) = ((N % r : Nat) : Int) := by rw [← Int.natCast_emod]; exact IntWalk.i64_in _ (by have := Nat.mod_le N r; generalize N % r = d at this ⊢; omega)
  have dv : IntKind.i64.wrap ((N : Int).tdiv (r : Int)) = ((N / r : Nat) : Int) := by rw [Int.tdiv_eq_ediv_of_nonneg (by omega), ← Int.natCast_ediv]; exact IntWalk.i64_in _ (by have := Nat.div_le_self N r; generalize N / r = d at this ⊢; omega)
  have md : IntKind.i64.wrap ((N : Int).tmod (r : Int)) = ((N % r : Nat) : Int) := by rw [Int.tmod_eq_emod_of_nonneg (by omega), ← Int.natCast_emod]; exact IntWalk.i64_in _ (by have := Nat.mod_le N r; generalize N % r = d at this ⊢; omega)
  have ad1 : ∀ w, (Op.stringOp .add (str x) ⟨#[124]⟩).run Tryd.prog w = .ok (.string (str (x ++ [124]))) w := fun w => add_str x [124] w (by simp; omega)
  have ad2 : ∀ w, (Op.stringOp .add (str (x ++ [124])) (str y)).run Tryd.prog w = .ok (.string (str t)) w := fun w => by rw [f4, show x ++ 124 :: y = (x ++ [124]) ++ y by simp]; exact add_str _ _ w (by simp; omega)
  have qc1 : 1 ≤ cR := by omega
  have qc2 : 1 ≤ cU := by have := W.out.len; omega
  have qi1 : (1 : Int) ≤ (l.length : Int) := by omega
  have qi3 : (1 : Int) ≤ (cR : Int) := by omega
  have qi4 : (1 : Int) ≤ (cU : Int) := by have := W.out.len; omega
  have qi2 : (1 : Int) ≤ (s.length : Int) := by have := W.out.len; omega
  have ne1 : ¬ cR = 1 := by omega
  have ne2 : ¬ cU = 1 := by have := W.out.len; omega
  clear hr hx hy f1 f2 f3 f4 f5 f6
  obtain ⟨gR, oR, qR, eR, _, _⟩ := R.out.known (by omega)
  simp only [Value.slice.injEq, true_and] at eR
  obtain ⟨rfl, rfl⟩ := eR
  obtain ⟨gU, oU, qU, eU, _, _⟩ := U.out.known (by have := W.out.len; omega)
  simp only [Value.slice.injEq, true_and] at eU
  obtain ⟨rfl, rfl⟩ := eU
  have ql1 : 1 ≤ l.length := by omega
  have qs1 : 1 ≤ s.length := by have := W.out.len; omega
  have TK := Lib.hid (R.out.take 1 ql1); have DR := Lib.hid (R.out.drop 1 ql1); have TU := Lib.hid (U.out.take 1 qs1); have DU := Lib.hid (U.out.drop 1 qs1)
  go_wp2_with fail
  refine wp_region_held_drew (S := (fun w' => (Below wv3.heap.size wv3 w'))) (by kernel_rfl) (by exact (Below.refl _ _).drew) (fun hHeld => ?_)
  refine take_h 0 65 rfl rfl (by kernel_rfl) (by kernel_rfl) (by kernel_rfl) (fun _ _ _ h => h) (by kernel_rfl) (by intro w hSw; (try dsimp only at hSw); go_simp; try with_reducible rfl) (by assumption) ?_
  refine take_h 1 66 rfl rfl (by kernel_rfl) (by kernel_rfl) (by kernel_rfl) (fun _ _ _ h => h) (by kernel_rfl) (by intro w hSw; (try dsimp only at hSw); go_simp; try with_reducible rfl) (by assumption) ?_
  refine take_h 2 67 rfl rfl (by kernel_rfl) (by kernel_rfl) (by kernel_rfl) (fun _ _ _ h => h) (by kernel_rfl) (by intro w hSw; (try dsimp only at hSw); go_simp; try with_reducible rfl) (by assumption) ?_
  refine take_h 3 68 rfl rfl (by kernel_rfl) (by kernel_rfl) (by kernel_rfl) (fun _ _ _ h => h) (by kernel_rfl) (by intro w hSw; (try dsimp only at hSw); go_simp; try with_reducible rfl) (by assumption) ?_
  refine wpAnyH_ready (rs := [4]) (by kernel_rfl) (by simp) (AllReadyH.cons rfl (fun K hK => ?_) AllReadyH.nil)
  go_simp
  go_wp2_with ((refine (cntI_is (DR.out.grow hHeld) (DU.out.grow hHeld) FR.out).mono ?_; rintro e y4 ⟨rfl, b4⟩; have hs := Below.trans hHeld (Below.mono b4 (Below.size hHeld))))
  refine hK.out _ _ (by (try dsimp only); exact hs) (fun hHeld => ?_)
  clear hK K
  refine take_h 5 10 rfl rfl (by kernel_rfl) (by kernel_rfl) (by kernel_rfl) (fun _ _ _ h => h) (by kernel_rfl) (by intro w hSw; (try dsimp only at hSw); go_simp; try with_reducible rfl) (by assumption) ?_
  refine wpAnyH_done (by kernel_rfl) ?_ _
  simp only [Exit.then]
  try simp only [Act.put, List.setIfInBounds_toArray, List.set_cons_succ, List.set_cons_zero]

  replace R := Lib.hid (R.out.grow hHeld)
  replace U := Lib.hid (U.out.grow hHeld)
  replace M := Lib.hid (M.out.grow hHeld)
  replace TK := Lib.hid (TK.out.grow hHeld)
  replace DR := Lib.hid (DR.out.grow hHeld)
  replace TU := Lib.hid (TU.out.grow hHeld)
  replace DU := Lib.hid (DU.out.grow hHeld)
  replace BB := Lib.hid (BB.out.trans (hHeld.mono BB.out.size))
  clear hHeld
  obtain ⟨wv4, rfl⟩ : ∃ x, x = y4 := ⟨_, rfl⟩
  go_wp2_with fail
  refine wp_region_held_drew (S := (fun w' => (Below wv4.heap.size wv4 w'))) (by kernel_rfl) (by exact (Below.refl _ _).drew) (fun hHeld => ?_)
  refine take_h 0 71 rfl rfl (by kernel_rfl) (by kernel_rfl) (by kernel_rfl) (fun _ _ _ h => h) (by kernel_rfl) (by intro w hSw; (try dsimp only at hSw); go_simp; try with_reducible rfl) (by assumption) ?_
  refine take_h 1 72 rfl rfl (by kernel_rfl) (by kernel_rfl) (by kernel_rfl) (fun _ _ _ h => h) (by kernel_rfl) (by intro w hSw; (try dsimp only at hSw); go_simp; try with_reducible rfl) (by assumption) ?_
  refine take_h 2 73 rfl rfl (by kernel_rfl) (by kernel_rfl) (by kernel_rfl) (fun _ _ _ h => h) (by kernel_rfl) (by intro w hSw; (try dsimp only at hSw); go_simp; try with_reducible rfl) (by assumption) ?_
  refine take_h 3 74 rfl rfl (by kernel_rfl) (by kernel_rfl) (by kernel_rfl) (fun _ _ _ h => h) (by kernel_rfl) (by intro w hSw; (try dsimp only at hSw); go_simp; try with_reducible rfl) (by assumption) ?_
  refine take_h 4 75 rfl rfl (by kernel_rfl) (by kernel_rfl) (by kernel_rfl) (fun _ _ _ h => h) (by kernel_rfl) (by intro w hSw; (try dsimp only at hSw); go_simp; try with_reducible rfl) (by assumption) ?_
  refine take_h 5 76 rfl rfl (by kernel_rfl) (by kernel_rfl) (by kernel_rfl) (fun _ _ _ h => h) (by kernel_rfl) (by intro w hSw; (try dsimp only at hSw); go_simp; try with_reducible rfl) (by assumption) ?_
  refine take_h 6 77 rfl rfl (by kernel_rfl) (by kernel_rfl) (by kernel_rfl) (fun _ _ _ h => h) (by kernel_rfl) (by intro w hSw; (try dsimp only at hSw); go_simp; try with_reducible rfl) (by assumption) ?_
  refine wpAnyH_ready (rs := [7]) (by kernel_rfl) (by simp) (AllReadyH.cons rfl (fun K hK => ?_) AllReadyH.nil)
  go_simp
  go_wp2_with ((refine (nI_yes (TK.out.grow hHeld) (TU.out.grow hHeld) F1.out).mono ?_; rintro e y7 ⟨rfl, b7⟩; have hs := Below.trans hHeld (Below.mono b7 (Below.size hHeld))))
  refine hK.out _ _ (by (try dsimp only); exact hs) (fun hHeld => ?_)
  clear hK K
  refine take_h 8 70 rfl rfl (by kernel_rfl) (by kernel_rfl) (by kernel_rfl) (fun _ _ _ h => h) (by kernel_rfl) (by intro w hSw; (try dsimp only at hSw); go_simp; try with_reducible rfl) (by assumption) ?_
  refine take_h 9 79 rfl rfl (by kernel_rfl) (by kernel_rfl) (by kernel_rfl) (fun _ _ _ h => h) (by kernel_rfl) (by intro w hSw; (try dsimp only at hSw); go_simp; try with_reducible rfl) (by assumption) ?_
  refine take_h 10 80 rfl rfl (by kernel_rfl) (by kernel_rfl) (by kernel_rfl) (fun _ _ _ h => h) (by kernel_rfl) (by intro w hSw; (try dsimp only at hSw); go_simp; try with_reducible rfl) (by assumption) ?_
  refine take_h 11 11 rfl rfl (by kernel_rfl) (by kernel_rfl) (by kernel_rfl) (fun _ _ _ h => h) (by kernel_rfl) (by intro w hSw; (try dsimp only at hSw); go_simp; try with_reducible rfl) (by assumption) ?_
  refine take_h 12 12 rfl rfl (by kernel_rfl) (by kernel_rfl) (by kernel_rfl) (fun _ _ _ h => h) (by kernel_rfl) (by intro w hSw; (try dsimp only at hSw); go_simp; try with_reducible rfl) (by assumption) ?_
  refine wpAnyH_done (by kernel_rfl) ?_ _
  simp only [Exit.then]
  try simp only [Act.put, List.setIfInBounds_toArray, List.set_cons_succ, List.set_cons_zero]

  replace R := Lib.hid (R.out.grow hHeld)
  replace U := Lib.hid (U.out.grow hHeld)
  replace M := Lib.hid (M.out.grow hHeld)
  replace TK := Lib.hid (TK.out.grow hHeld)
  replace DR := Lib.hid (DR.out.grow hHeld)
  replace TU := Lib.hid (TU.out.grow hHeld)
  replace DU := Lib.hid (DU.out.grow hHeld)
  replace BB := Lib.hid (BB.out.trans (hHeld.mono BB.out.size))
  clear hHeld
  obtain ⟨wv5, rfl⟩ : ∃ x, x = y7 := ⟨_, rfl⟩
  go_wp2_with fail
  refine wp_region_held_drew (S := (fun w' => (Below wv5.heap.size wv5 w'))) (by kernel_rfl) (by exact (Below.refl _ _).drew) (fun hHeld => ?_)
  refine take_h 0 82 rfl rfl (by kernel_rfl) (by kernel_rfl) (by kernel_rfl) (fun _ _ _ h => h) (by kernel_rfl) (by intro w hSw; (try dsimp only at hSw); go_simp; try with_reducible rfl) (by assumption) ?_
  refine take_h 1 83 rfl rfl (by kernel_rfl) (by kernel_rfl) (by kernel_rfl) (fun _ _ _ h => h) (by kernel_rfl) (by intro w hSw; (try dsimp only at hSw); go_simp; try with_reducible rfl) (by assumption) ?_
  refine take_h 2 84 rfl rfl (by kernel_rfl) (by kernel_rfl) (by kernel_rfl) (fun _ _ _ h => h) (by kernel_rfl) (by intro w hSw; (try dsimp only at hSw); go_simp; try with_reducible rfl) (by assumption) ?_
  refine take_h 3 85 rfl rfl (by kernel_rfl) (by kernel_rfl) (by kernel_rfl) (fun _ _ _ h => h) (by kernel_rfl) (by intro w hSw; (try dsimp only at hSw); go_simp; try with_reducible rfl) (by assumption) ?_
  refine take_h 4 86 rfl rfl (by kernel_rfl) (by kernel_rfl) (by kernel_rfl) (fun _ _ _ h => h) (by kernel_rfl) (by intro w hSw; (try dsimp only at hSw); go_simp; try with_reducible rfl) (by assumption) ?_
  refine take_h 5 87 rfl rfl (by kernel_rfl) (by kernel_rfl) (by kernel_rfl) (fun _ _ _ h => h) (by kernel_rfl) (by intro w hSw; (try dsimp only at hSw); go_simp; try with_reducible rfl) (by assumption) ?_
  refine take_h 6 88 rfl rfl (by kernel_rfl) (by kernel_rfl) (by kernel_rfl) (fun _ _ _ h => h) (by kernel_rfl) (by intro w hSw; (try dsimp only at hSw); go_simp; try with_reducible rfl) (by assumption) ?_
  refine wpAnyH_ready (rs := [7]) (by kernel_rfl) (by simp) (AllReadyH.cons rfl (fun K hK => ?_) AllReadyH.nil)
  go_simp
  go_wp2_with ((refine (nI_yes (DR.out.grow hHeld) (DU.out.grow hHeld) F2.out).mono ?_; rintro e y7 ⟨rfl, b7⟩; have hs := Below.trans hHeld (Below.mono b7 (Below.size hHeld))))
  refine hK.out _ _ (by (try dsimp only); exact hs) (fun hHeld => ?_)
  clear hK K
  refine take_h 8 81 rfl rfl (by kernel_rfl) (by kernel_rfl) (by kernel_rfl) (fun _ _ _ h => h) (by kernel_rfl) (by intro w hSw; (try dsimp only at hSw); go_simp; try with_reducible rfl) (by assumption) ?_
  refine take_h 9 90 rfl rfl (by kernel_rfl) (by kernel_rfl) (by kernel_rfl) (fun _ _ _ h => h) (by kernel_rfl) (by intro w hSw; (try dsimp only at hSw); go_simp; try with_reducible rfl) (by assumption) ?_
  refine take_h 10 91 rfl rfl (by kernel_rfl) (by kernel_rfl) (by kernel_rfl) (fun _ _ _ h => h) (by kernel_rfl) (by intro w hSw; (try dsimp only at hSw); go_simp; try with_reducible rfl) (by assumption) ?_
  refine take_h 11 13 rfl rfl (by kernel_rfl) (by kernel_rfl) (by kernel_rfl) (fun _ _ _ h => h) (by kernel_rfl) (by intro w hSw; (try dsimp only at hSw); go_simp; try with_reducible rfl) (by assumption) ?_
  refine take_h 12 14 rfl rfl (by kernel_rfl) (by kernel_rfl) (by kernel_rfl) (fun _ _ _ h => h) (by kernel_rfl) (by intro w hSw; (try dsimp only at hSw); go_simp; try with_reducible rfl) (by assumption) ?_
  refine wpAnyH_done (by kernel_rfl) ?_ _
  simp only [Exit.then]
  try simp only [Act.put, List.setIfInBounds_toArray, List.set_cons_succ, List.set_cons_zero]

  replace R := Lib.hid (R.out.grow hHeld)
  replace U := Lib.hid (U.out.grow hHeld)
  replace M := Lib.hid (M.out.grow hHeld)
  replace TK := Lib.hid (TK.out.grow hHeld)
  replace DR := Lib.hid (DR.out.grow hHeld)
  replace TU := Lib.hid (TU.out.grow hHeld)
  replace DU := Lib.hid (DU.out.grow hHeld)
  replace BB := Lib.hid (BB.out.trans (hHeld.mono BB.out.size))
  clear hHeld
  go_wp2_with fail
  go_ret
  exact ⟨by first | rfl | (simp; done) | (simp; omega), BB.out⟩

/-- A start that fits: the heap that the program's own start-up code for the listed variables leaves. -/
noncomputable def laidWorld (os : Os) : World := (World.doorLaid Tryd.prog 600 os).setRow 1 ((Go.Pinned.utf8FirstZ.map fun (n : Nat) => Value.int .u8 (n : Int)).toArray)
theorem laid_met (os : Os) (args : Array Value) : laidMetH Tryd.prog Rows.fnOrderNthPartsRow.laid ((laidWorld os).forCall (fun _ _ => 0) ⟨#[], args, []⟩).memory := by
  rw [MakeChecks.laidMetH_plain _ _ _ (by kernel_rfl)]
  exact laidMet_of_run' 8 (by kernel_rfl) (by kernel_rfl)
theorem reads (os : Os) {H : Type} (enc : TypeId × Value → H) : ∃ places, DataW.whole enc Tryd.prog ((laidWorld os).forCall (fun _ _ => 0) ⟨#[], #[.slice none 0 0], []⟩).memory Tryd.f3.params.toList Rows.fnOrderNthPartsSpec.vars false #[(Value.slice none 0 0)].toList 8 = some ([.nil], [], places) :=
  ⟨[], by kernel_rfl⟩

set_option maxRecDepth 100000 in
theorem lifted (os : Os) (started : os.Started) (H : Type) (enc : TypeId × Value → H) (F : Stop.Interp) :
    ReturnsInHanded {} Tryd.checked os 3 .any ((OpenSpec.ofChange Rows.fnOrderNthPartsSpec).preRow enc Tryd.prog Tryd.f3 Rows.fnOrderNthPartsRow.domain false Rows.fnOrderNthPartsRow.laid) (((OpenSpec.ofChange Rows.fnOrderNthPartsSpec).at F).post enc Tryd.prog Tryd.f3 false true false false) := by
  obtain ⟨places, hx⟩ := reads os enc
  refine returnsInHanded_of_row (C := Tryd.checked) (s := OpenSpec.ofChange Rows.fnOrderNthPartsSpec) own started (by kernel_rfl) Tryd.func3
    (witness_row_atRef (enc := enc) (C := Tryd.checked) false (laidWorld os) #[.slice none 0 0] rfl (by kernel_rfl) (by kernel_rfl) (by kernel_rfl)
      (OpenSpec.preRow_of_cond 8 hx (by kernel_rfl) (fun k hk => by cases hk) (by kernel_rfl) (laid_met os _))) ?_
  intro W base args ds gs before hval0 hW hcnd _ hsz hLH hSh _
  have hL : laidMet Tryd.prog Rows.fnOrderNthPartsRow.laid W := by rw [← MakeChecks.laidMetH_plain _ _ _ (by kernel_rfl)]; exact hLH
  have hval : ∀ (j : Nat) t v, Tryd.f3.params[j]? = some t → args[j]? = some v → Value.okWide Tryd.prog W .any base t v := hval0
  have hW' := hW
  obtain ⟨p, q, hA0, hV, rfl, hfz, hnd⟩ := hW
  have hA : DataW.TrodAll enc Tryd.prog W 0 (fun _ => true) true Tryd.f3.params.toList args.toList ds p := hA0
  rw [Tryd.params3] at hA hval
  obtain ⟨v0, vs0, d0, ds0, p0, q0, hargs, rfl, rfl, h0, r0⟩ := trodAll_cons hA
  obtain ⟨rfl, rfl, rfl⟩ := trodAll_nil r0
  obtain rfl : args = #[v0] := by cases args; simp_all
  obtain ⟨rfl, rfl⟩ := trodVars_none hV
  obtain ⟨a0, len0, cap0, rfl⟩ := okWide_slice Tryd.underlying22 (hval 0 22 v0 rfl rfl)
  have k0 := h0
  have lt0 : ∀ x ∈ p0, x.block < W.heap.size := by obtain ⟨m, hm⟩ := k0; exact DataW.trod_lt m _ _ _ hm
  obtain ⟨z0, w0⟩ : ∃ zs, IsRow .u8 W a0 len0 cap0 zs := by
    obtain ⟨fuel, hf⟩ := h0
    rcases open_ints Tryd.underlying22 Tryd.underlying5 (by kernel_rfl) hf with ⟨hcs, _⟩ | ⟨x, l, c, zs, hcs, _, hl, hm, hz, _, hcell, hwz⟩
    · simp [Value.cells] at hcs
      obtain ⟨rfl, rfl, rfl⟩ := hcs
      exact ⟨[], .inl ⟨rfl, rfl, rfl, rfl⟩⟩
    · simp [Value.cells] at hcs
      obtain ⟨rfl, rfl, rfl⟩ := hcs
      exact ⟨zs, .inr ⟨_, rfl, hl, hm, by simpa using hz, hcell, hwz⟩⟩
  clear hA0 hval0
  refine (walk a0 len0 cap0 z0 W w0 hL hSh).mono fun e W' ⟨he, bel⟩ => ?_
  subst he
  exact ⟨_, rfl, _, _, _, [], _, [], hW', trodAll_mk1 (shut_bool Tryd.underlying4 _), (trodAll_cons_mk (Below.trod laidOut (by kernel_rfl) (of_decide_eq_true (by kernel_rfl)) k0 bel lt0) trodAll_mk0), rfl, bel.frame _, fun h => by cases h⟩

theorem said : Rows.fnOrderNthPartsRow.holds Tryd.pinned (OpenSpec.ofChange Rows.fnOrderNthPartsSpec) :=
  OpenClaim.holds_of_cond 3 Tryd.f3 rfl rfl rfl rfl rfl rfl rfl ⟨rfl, rfl, rfl, rfl, rfl⟩ rfl rfl rfl rfl rfl (by kernel_rfl) Tryd.func3 (by kernel_rfl)
    (of_decide_eq_true (by kernel_rfl)) (by unfold Func.isWrapper; first | (rw [if_pos (by decide +kernel)]; kernel_rfl) | (rw [if_neg (by decide +kernel)]; exact ⟨rfl, rfl⟩))
    (fun os started H enc _ F => by rw [OpenClaim.pre_eq_preRow]; exact lifted os started H enc F)

/-- No parameter wants a stand-in; the program's own looks are as the card says. -/
theorem plain (f : FuncId) (fn : Func) (hf : Tryd.pinned.checked.prog.funcNamed "loop.example/icecores/laws.FnOrderNthParts" = some f) (hfn : Tryd.pinned.checked.prog.funcs[f]? = some fn) :
    false = Tryd.pinned.checked.prog.looks [] ∧ ∀ (j : Nat) t, fn.params[j]? = some t → Tryd.pinned.checked.prog.wantsStandIn t = false := by
  obtain rfl : f = 3 := Option.some.inj ((show Tryd.prog.funcNamed "loop.example/icecores/laws.FnOrderNthParts" = some 3 by kernel_rfl).symm.trans hf) |>.symm
  obtain rfl : fn = Tryd.f3 := (Option.some.inj (Tryd.func3.symm.trans hfn)).symm
  refine ⟨by kernel_rfl, fun j t ht => ?_⟩
  have hall : (Tryd.f3.params.toList.all fun u => !Tryd.prog.wantsStandIn u) = true := by kernel_rfl
  exact (show Tryd.prog.wantsStandIn t = false by simpa using List.all_eq_true.1 hall t (by simpa using Array.mem_of_getElem? ht))

/-- The card: the row, and what its listed variables hold tied to the program's text. -/
theorem proved : Rows.FnOrderNthPartsCardSaid :=
  Claim7.holds_tied_plain_at .later [] _ _ _ _ said (fun _ h => by cases h) (by kernel_rfl) (fun _ h => by cases h) fnOrderNthParts_row_tie rfl ⟨rfl, rfl⟩ (by kernel_rfl) rfl plain (by kernel_rfl)
#print axioms proved
end Go.Proofs.YtcemgdekcfdfhabDoor.fnOrderNthParts
