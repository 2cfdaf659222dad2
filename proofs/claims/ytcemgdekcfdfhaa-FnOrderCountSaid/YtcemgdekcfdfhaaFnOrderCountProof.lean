/- For every input, the law FnOrderCount of the given statements returns true over the program at this commit, and its arguments read afterwards as before: no condition. -/
import Derived.Test.YtcemgdekcfdfhaaRows
import Derived.Test.YtcemgdekcfdfhaaLawP
import Derived.WalkKit
import Derived.ProofKit
import Derived.OpenShut
import Derived.ShutString
import Derived.ChangeOld
import Derived.Below
namespace Go.Proofs.Ytcemgdekcfdfhaa.fnOrderCount
open Go.ChangeShapes Go.WideShapes Go.ChangeAt Go.RowKit
open Go.ChangeMaps (open_string shut_string)
set_option linter.unusedVariables false

theorem own : ownKnob Try.prog.godebug = none := by kernel_rfl
theorem laidOut : laidOutB Try.prog = true := by kernel_rfl

/-- WHAT THE WALK IS TOLD OF A SLICE OF INTEGERS THAT CAME IN: it is nil; or it leads to a row of 'cap' cells, the numbers 'zs' (the first 'len' are its elements, the rest its spare room), each fitting its kind. -/
def IsRow (k : IntKind) (w : World) (a : Option Addr) (len cap : Nat) (zs : List Int) : Prop :=
  (a = none ∧ len = 0 ∧ cap = 0 ∧ zs = []) ∨
  ∃ x, a = some x ∧ len ≤ cap ∧ cap ≤ maxLen ∧ zs.length = cap ∧ (∀ i, i < zs.length → w.cell? (x.add i) = some (.int k (zs.getD i 0))) ∧ ∀ n ∈ zs, (Lit.int k n).wf = true

set_option maxRecDepth 100000 in
set_option maxHeartbeats 3200000 in
theorem walk (a0 : Option Addr) (len0 cap0 : Nat) (z0 : List Int) (a1 : Option Addr) (len1 cap1 : Nat) (z1 : List Int) (w : World) (w0 : IsRow .u8 w a0 len0 cap0 z0) (w1 : IsRow .u8 w a1 len1 cap1 z1) :
    Calls Try.prog 3 #[.slice a0 len0 cap0, .slice a1 len1 cap1] w fun e w' => e = .returned (.bool true) ∧ Below w.heap.size w w' := by
  have hB := bytes_of w0
  have hB1 := bytes_len (bytes_of w1)
  unfold maxLen at hB1
  by_cases hl : 1048576 < len0
  · have hdec : decide (1048576 < len0) = true := by simpa using hl
    go_enter Try.func3, Try.ntmps3
    go_wp2_with fail
    go_ret
    exact ⟨rfl, Below.refl _ _⟩
  have hdec : decide (1048576 < len0) = false := by simpa using hl
  by_cases hl1 : 1048576 < len1
  · go_enter Try.func3, Try.ntmps3
    go_wp2_with fail
    go_ret
    exact ⟨rfl, Below.refl _ _⟩
  have hm : len0 ≤ 1048576 := by omega
  have hm1 : len1 ≤ 1048576 := by omega
  clear hB1
  go_enter Try.func3, Try.ntmps3
  go_wp2_with fail
  refine (DrawOrderCount_any hB).mono ?_
  rintro e wv1 ⟨v, u, l, s, rfl, ⟨r0, r1, l1, l3, s1, s4, bl, bs⟩, b1⟩
  clear w0 w1 hB
  have BB := Lib.hid b1
  clear b1
  have R := Lib.hid r0
  clear r0
  have U := Lib.hid r1
  clear r1
  replace R := Lib.hid R.out.row
  replace U := Lib.hid U.out.row
  obtain ⟨aR, cR, rfl, kR, mR⟩ := plen_n R.out
  obtain ⟨aU, cU, rfl, kU, mU⟩ := plen_n U.out
  rcases count_cases l s with hc | ⟨hw, hc, hp, hq⟩
  · have HC := Lib.hid hc
    clear hc
    go_wp2_with fail
    refine (cntI_is R.out U.out HC.out).mono ?_
    rintro e wv2 ⟨rfl, b9⟩
    replace R := Lib.hid (R.out.grow b9)
    replace U := Lib.hid (U.out.grow b9)
    replace BB := Lib.hid (BB.out.trans (b9.mono BB.out.size))
    clear b9
    go_wp2_with fail
    refine (cntS_is R.out U.out HC.out).mono ?_
    rintro e wv3 ⟨rfl, b9⟩
    replace R := Lib.hid (R.out.grow b9)
    replace U := Lib.hid (U.out.grow b9)
    replace BB := Lib.hid (BB.out.trans (b9.mono BB.out.size))
    clear b9
    go_wp2_with fail
    go_ret
    exact ⟨by first | rfl | (simp; done) | (simp; omega), BB.out⟩
  obtain ⟨z, hz⟩ : ∃ z, cnt (par l s) = z := ⟨_, rfl⟩
  rw [hz] at hc hp hq
  have CZ := Lib.hid hc; have CN := Lib.hid hz; have W := Lib.hid hw
  have g0 : ¬ (z : Int) < 0 := by omega
  clear hc hz hw
  go_wp2_with fail
  refine (cntI_is R.out U.out CZ.out).mono ?_
  rintro e wv2 ⟨rfl, b9⟩
  replace R := Lib.hid (R.out.grow b9)
  replace U := Lib.hid (U.out.grow b9)
  replace BB := Lib.hid (BB.out.trans (b9.mono BB.out.size))
  clear b9
  go_wp2_with fail
  refine (cntS_is R.out U.out CZ.out).mono ?_
  rintro e wv3 ⟨rfl, b9⟩
  replace R := Lib.hid (R.out.grow b9)
  replace U := Lib.hid (U.out.grow b9)
  replace BB := Lib.hid (BB.out.trans (b9.mono BB.out.size))
  clear b9
  obtain ⟨q, hq⟩ : ∃ j : Nat, len1 % l.length = j := ⟨_, rfl⟩
  have qn : q < l.length := by rw [← hq]; exact Nat.mod_lt _ (by omega)
  have qe : (len1 : Int) % (l.length : Int) = (q : Int) := by rw [← hq, Int.natCast_emod]
  have qt : IntKind.i64.wrap ((len1 : Int).tmod (l.length : Int)) = (q : Int) := by rw [Int.tmod_eq_emod_of_nonneg (by omega), qe]; exact IntWalk.i64_in _ (by omega)
  have qz : ((l.length : Int) == 0) = false := beq_eq_false_iff_ne.2 (by omega)
  have q3 : IntKind.i64.wrap (q : Int) = (q : Int) := IntWalk.i64_in _ (by omega)
  clear hq
  have CS : Hid (countOf s l = (z : Int)) := Lib.hid (by rw [count_swap W.out, CN.out])
  have hp' : (1 : Int) ≤ (z : Int) := by omega
  have SA := sum_a W.out; have SB := sum_b W.out
  obtain ⟨x, hx⟩ : ∃ x, sumA (par l s) = x := ⟨_, rfl⟩
  obtain ⟨y, hy⟩ : ∃ y, sumB (par l s) = y := ⟨_, rfl⟩
  rw [hx] at SA
  rw [hy] at SB
  have HA := Lib.hid SA; have HB := Lib.hid SB
  have A6 := Lib.hid (all_nn W.out.a6); have B6 := Lib.hid (all_nn W.out.b6)
  have ZA : Hid (x = 0 → z = 1) := Lib.hid (fun h => by rw [← CN.out]; exact cnt_none_a (by rw [hx]; exact h))
  have ZB : Hid (y = 0 → z = 1) := Lib.hid (fun h => by rw [← CN.out]; exact cnt_none_b (by rw [hy]; exact h))
  clear SA SB hx hy
  by_cases q0 : q = 0
  · subst q0
    go_wp2_with fail
    refine wp_region_held_drew (S := (fun w' => (Below wv3.heap.size wv3 w'))) (by kernel_rfl) (by exact (Below.refl _ _).drew) (fun hHeld => ?_)
    refine take_h 0 44 rfl rfl (by kernel_rfl) (by kernel_rfl) (by kernel_rfl) (fun _ _ _ h => h) (by kernel_rfl) (by intro w hSw; (try dsimp only at hSw); go_simp; try with_reducible rfl) (by assumption) ?_
    refine take_h 1 45 rfl rfl (by kernel_rfl) (by kernel_rfl) (by kernel_rfl) (fun _ _ _ h => h) (by kernel_rfl) (by intro w hSw; (try dsimp only at hSw); go_simp; try with_reducible rfl) (by assumption) ?_
    refine take_h 2 46 rfl rfl (by kernel_rfl) (by kernel_rfl) (by kernel_rfl) (fun _ _ _ h => h) (by kernel_rfl) (by intro w hSw; (try dsimp only at hSw); go_simp; try with_reducible rfl) (by assumption) ?_
    refine skip_h 3 47 rfl rfl (by kernel_rfl) (by kernel_rfl) (by kernel_rfl) (fun _ _ _ h => h) (by kernel_rfl) (by assumption) ?_
    refine skip_h 4 48 rfl rfl (by kernel_rfl) (by kernel_rfl) (by kernel_rfl) (fun _ _ _ h => h) (by kernel_rfl) (by assumption) ?_
    refine skip_h 5 49 rfl rfl (by kernel_rfl) (by kernel_rfl) (by kernel_rfl) (fun _ _ _ h => h) (by kernel_rfl) (by assumption) ?_
    refine skip_h 6 50 rfl rfl (by kernel_rfl) (by kernel_rfl) (by kernel_rfl) (fun _ _ _ h => h) (by kernel_rfl) (by assumption) ?_
    refine skip_h 7 51 rfl rfl (by kernel_rfl) (by kernel_rfl) (by kernel_rfl) (fun _ _ _ h => h) (by kernel_rfl) (by assumption) ?_
    refine skip_h 8 52 rfl rfl (by kernel_rfl) (by kernel_rfl) (by kernel_rfl) (fun _ _ _ h => h) (by kernel_rfl) (by assumption) ?_
    refine skip_h 9 53 rfl rfl (by kernel_rfl) (by kernel_rfl) (by kernel_rfl) (fun _ _ _ h => h) (by kernel_rfl) (by assumption) ?_
    refine skip_h 10 54 rfl rfl (by kernel_rfl) (by kernel_rfl) (by kernel_rfl) (fun _ _ _ h => h) (by kernel_rfl) (by assumption) ?_
    refine skip_h 11 55 rfl rfl (by kernel_rfl) (by kernel_rfl) (by kernel_rfl) (fun _ _ _ h => h) (by kernel_rfl) (by assumption) ?_
    refine skip_h 12 56 rfl rfl (by kernel_rfl) (by kernel_rfl) (by kernel_rfl) (fun _ _ _ h => h) (by kernel_rfl) (by assumption) ?_
    refine skip_h 13 57 rfl rfl (by kernel_rfl) (by kernel_rfl) (by kernel_rfl) (fun _ _ _ h => h) (by kernel_rfl) (by assumption) ?_
    refine skip_h 14 58 rfl rfl (by kernel_rfl) (by kernel_rfl) (by kernel_rfl) (fun _ _ _ h => h) (by kernel_rfl) (by assumption) ?_
    refine skip_h 15 59 rfl rfl (by kernel_rfl) (by kernel_rfl) (by kernel_rfl) (fun _ _ _ h => h) (by kernel_rfl) (by assumption) ?_
    refine skip_h 16 60 rfl rfl (by kernel_rfl) (by kernel_rfl) (by kernel_rfl) (fun _ _ _ h => h) (by kernel_rfl) (by assumption) ?_
    refine skip_h 17 61 rfl rfl (by kernel_rfl) (by kernel_rfl) (by kernel_rfl) (fun _ _ _ h => h) (by kernel_rfl) (by assumption) ?_
    refine skip_h 18 62 rfl rfl (by kernel_rfl) (by kernel_rfl) (by kernel_rfl) (fun _ _ _ h => h) (by kernel_rfl) (by assumption) ?_
    refine skip_h 19 63 rfl rfl (by kernel_rfl) (by kernel_rfl) (by kernel_rfl) (fun _ _ _ h => h) (by kernel_rfl) (by assumption) ?_
    refine take_h 20 64 rfl rfl (by kernel_rfl) (by kernel_rfl) (by kernel_rfl) (fun _ _ _ h => h) (by kernel_rfl) (by intro w hSw; (try dsimp only at hSw); go_simp; try with_reducible rfl) (by assumption) ?_
    refine wpAnyH_done (by kernel_rfl) ?_ _
    simp only [Exit.then]
    try simp only [Act.put, List.setIfInBounds_toArray, List.set_cons_succ, List.set_cons_zero]

    replace R := Lib.hid (R.out.grow hHeld)
    replace U := Lib.hid (U.out.grow hHeld)
    replace BB := Lib.hid (BB.out.trans (hHeld.mono BB.out.size))
    clear hHeld
    go_wp2_with fail
    refine (cntI_is U.out R.out CS.out).mono ?_
    rintro e wv4 ⟨rfl, b9⟩
    replace R := Lib.hid (R.out.grow b9)
    replace U := Lib.hid (U.out.grow b9)
    replace BB := Lib.hid (BB.out.trans (b9.mono BB.out.size))
    clear b9
    by_cases x0 : x = 0
    · have z1 := ZA.out x0
      subst x0 z1
      go_wp2_with fail
      refine (sumP_is R.out A6.out (by omega) HA.out).mono ?_
      rintro e wv5 ⟨rfl, b9⟩
      replace R := Lib.hid (R.out.grow b9)
      replace U := Lib.hid (U.out.grow b9)
      replace BB := Lib.hid (BB.out.trans (b9.mono BB.out.size))
      clear b9
      go_wp2_with fail
      go_ret
      exact ⟨by first | rfl | (simp; done) | (simp; omega), BB.out⟩
    have x0' : 0 < x := by omega
    go_wp2_with fail
    refine (sumP_is R.out A6.out (by omega) HA.out).mono ?_
    rintro e wv5 ⟨rfl, b9⟩
    replace R := Lib.hid (R.out.grow b9)
    replace U := Lib.hid (U.out.grow b9)
    replace BB := Lib.hid (BB.out.trans (b9.mono BB.out.size))
    clear b9
    go_wp2_with fail
    refine (sumP_is U.out B6.out (by omega) HB.out).mono ?_
    rintro e wv6 ⟨rfl, b9⟩
    replace R := Lib.hid (R.out.grow b9)
    replace U := Lib.hid (U.out.grow b9)
    replace BB := Lib.hid (BB.out.trans (b9.mono BB.out.size))
    clear b9
    by_cases y0 : y = 0
    · have z1 := ZB.out y0
      subst y0 z1
      go_wp2_with fail
      go_ret
      exact ⟨by first | rfl | (simp; done) | (simp; omega), BB.out⟩
    have y0' : 0 < y := by omega
    go_wp2_with fail
    go_ret
    exact ⟨by first | rfl | (simp; done) | (simp; omega), BB.out⟩
  have q0' : 0 < q := by omega
  have q0i : (0 : Int) < (q : Int) := by omega
  obtain ⟨gR, oR, qR, eR, _, _⟩ := R.out.known (by omega)
  simp only [Value.slice.injEq, true_and] at eR
  obtain ⟨rfl, rfl⟩ := eR
  obtain ⟨gU, oU, qU, eU, _, _⟩ := U.out.known (by have := W.out.len; omega)
  simp only [Value.slice.injEq, true_and] at eU
  obtain ⟨rfl, rfl⟩ := eU
  have ql : q ≤ l.length := by omega
  have qs : q ≤ s.length := by have := W.out.len; omega
  have TK := Lib.hid (R.out.take q ql); have DR := Lib.hid (R.out.drop q ql); have TU := Lib.hid (U.out.take q qs); have DU := Lib.hid (U.out.drop q qs)
  have qi0 : (0 : Int) ≤ (q : Int) := by omega
  have qi1 : (q : Int) ≤ (l.length : Int) := by omega
  have qi2 : (q : Int) ≤ (s.length : Int) := by omega
  have qc1 : q ≤ cR := by omega
  have qc2 : q ≤ cU := by omega
  have ne1 : ¬ cR = q := by omega
  have ne2 : ¬ cU = q := by have := W.out.len; omega
  have PT := W.out.take q0' qn; have PD := W.out.drop qn
  have cp := cnt_parts (a := l) (b := s) q
  rw [CN.out] at cp
  obtain ⟨m1, hm1⟩ : ∃ m, cnt (par (l.take q) (s.take q)) = m := ⟨_, rfl⟩
  obtain ⟨m2, hm2⟩ : ∃ m, cnt (par (l.drop q) (s.drop q)) = m := ⟨_, rfl⟩
  have F1 : Hid (countOf (l.take q) (s.take q) = (m1 : Int)) := Lib.hid (by rw [count_of PT, hm1])
  have F2 : Hid (countOf (l.drop q) (s.drop q) = (m2 : Int)) := Lib.hid (by rw [count_of PD, hm2])
  have w3 : IntKind.i64.wrap ((m1 : Int) * (m2 : Int)) = (z : Int) := by rw [← Int.natCast_mul, ← hm1, ← hm2, cp]; exact IntWalk.i64_in _ (by omega)
  clear PT PD cp hm1 hm2 q0
  go_wp2_with fail
  refine wp_region_held_drew (S := (fun w' => (Below wv3.heap.size wv3 w'))) (by kernel_rfl) (by exact (Below.refl _ _).drew) (fun hHeld => ?_)
  refine take_h 0 44 rfl rfl (by kernel_rfl) (by kernel_rfl) (by kernel_rfl) (fun _ _ _ h => h) (by kernel_rfl) (by intro w hSw; (try dsimp only at hSw); go_simp; try with_reducible rfl) (by assumption) ?_
  refine take_h 1 45 rfl rfl (by kernel_rfl) (by kernel_rfl) (by kernel_rfl) (fun _ _ _ h => h) (by kernel_rfl) (by intro w hSw; (try dsimp only at hSw); go_simp; try with_reducible rfl) (by assumption) ?_
  refine take_h 2 46 rfl rfl (by kernel_rfl) (by kernel_rfl) (by kernel_rfl) (fun _ _ _ h => h) (by kernel_rfl) (by intro w hSw; (try dsimp only at hSw); go_simp; try with_reducible rfl) (by assumption) ?_
  refine take_h 3 47 rfl rfl (by kernel_rfl) (by kernel_rfl) (by kernel_rfl) (fun _ _ _ h => h) (by kernel_rfl) (by intro w hSw; (try dsimp only at hSw); go_simp; try with_reducible rfl) (by assumption) ?_
  refine take_h 4 48 rfl rfl (by kernel_rfl) (by kernel_rfl) (by kernel_rfl) (fun _ _ _ h => h) (by kernel_rfl) (by intro w hSw; (try dsimp only at hSw); go_simp; try with_reducible rfl) (by assumption) ?_
  refine take_h 5 49 rfl rfl (by kernel_rfl) (by kernel_rfl) (by kernel_rfl) (fun _ _ _ h => h) (by kernel_rfl) (by intro w hSw; (try dsimp only at hSw); go_simp; try with_reducible rfl) (by assumption) ?_
  refine take_h 6 50 rfl rfl (by kernel_rfl) (by kernel_rfl) (by kernel_rfl) (fun _ _ _ h => h) (by kernel_rfl) (by intro w hSw; (try dsimp only at hSw); go_simp; try with_reducible rfl) (by assumption) ?_
  refine take_h 7 51 rfl rfl (by kernel_rfl) (by kernel_rfl) (by kernel_rfl) (fun _ _ _ h => h) (by kernel_rfl) (by intro w hSw; (try dsimp only at hSw); go_simp; try with_reducible rfl) (by assumption) ?_
  refine take_h 8 52 rfl rfl (by kernel_rfl) (by kernel_rfl) (by kernel_rfl) (fun _ _ _ h => h) (by kernel_rfl) (by intro w hSw; (try dsimp only at hSw); go_simp; try with_reducible rfl) (by assumption) ?_
  refine take_h 10 54 rfl rfl (by kernel_rfl) (by kernel_rfl) (by kernel_rfl) (fun _ _ _ h => h) (by kernel_rfl) (by intro w hSw; (try dsimp only at hSw); go_simp; try with_reducible rfl) (by assumption) ?_
  refine take_h 11 55 rfl rfl (by kernel_rfl) (by kernel_rfl) (by kernel_rfl) (fun _ _ _ h => h) (by kernel_rfl) (by intro w hSw; (try dsimp only at hSw); go_simp; try with_reducible rfl) (by assumption) ?_
  refine take_h 12 56 rfl rfl (by kernel_rfl) (by kernel_rfl) (by kernel_rfl) (fun _ _ _ h => h) (by kernel_rfl) (by intro w hSw; (try dsimp only at hSw); go_simp; try with_reducible rfl) (by assumption) ?_
  refine take_h 13 57 rfl rfl (by kernel_rfl) (by kernel_rfl) (by kernel_rfl) (fun _ _ _ h => h) (by kernel_rfl) (by intro w hSw; (try dsimp only at hSw); go_simp; try with_reducible rfl) (by assumption) ?_
  refine take_h 14 58 rfl rfl (by kernel_rfl) (by kernel_rfl) (by kernel_rfl) (fun _ _ _ h => h) (by kernel_rfl) (by intro w hSw; (try dsimp only at hSw); go_simp; try with_reducible rfl) (by assumption) ?_
  refine take_h 15 59 rfl rfl (by kernel_rfl) (by kernel_rfl) (by kernel_rfl) (fun _ _ _ h => h) (by kernel_rfl) (by intro w hSw; (try dsimp only at hSw); go_simp; try with_reducible rfl) (by assumption) ?_
  refine take_h 18 62 rfl rfl (by kernel_rfl) (by kernel_rfl) (by kernel_rfl) (fun _ _ _ h => h) (by kernel_rfl) (by intro w hSw; (try dsimp only at hSw); go_simp; try with_reducible rfl) (by assumption) ?_
  refine wpAnyH_ready (rs := [9]) (by kernel_rfl) (by simp) (AllReadyH.cons rfl (fun K hK => ?_) AllReadyH.nil)
  go_simp
  go_wp2_with ((refine (cntI_is (TK.out.grow hHeld) (TU.out.grow hHeld) F1.out).mono ?_; rintro e y9 ⟨rfl, b9⟩; have hs := Below.trans hHeld (Below.mono b9 (Below.size hHeld))))
  refine hK.out _ _ (by (try dsimp only); exact hs) (fun hHeld => ?_)
  clear hK K
  refine wpAnyH_ready (rs := [16]) (by kernel_rfl) (by simp) (AllReadyH.cons rfl (fun K hK => ?_) AllReadyH.nil)
  go_simp
  go_wp2_with ((refine (cntI_is (DR.out.grow hHeld) (DU.out.grow hHeld) F2.out).mono ?_; rintro e y16 ⟨rfl, b16⟩; have hs := Below.trans hHeld (Below.mono b16 (Below.size hHeld))))
  refine hK.out _ _ (by (try dsimp only); exact hs) (fun hHeld => ?_)
  clear hK K
  refine take_h 17 61 rfl rfl (by kernel_rfl) (by kernel_rfl) (by kernel_rfl) (fun _ _ _ h => h) (by kernel_rfl) (by intro w hSw; (try dsimp only at hSw); go_simp; try with_reducible rfl) (by assumption) ?_
  refine take_h 19 63 rfl rfl (by kernel_rfl) (by kernel_rfl) (by kernel_rfl) (fun _ _ _ h => h) (by kernel_rfl) (by intro w hSw; (try dsimp only at hSw); go_simp; try with_reducible rfl) (by assumption) ?_
  refine take_h 20 64 rfl rfl (by kernel_rfl) (by kernel_rfl) (by kernel_rfl) (fun _ _ _ h => h) (by kernel_rfl) (by intro w hSw; (try dsimp only at hSw); go_simp; try with_reducible rfl) (by assumption) ?_
  refine wpAnyH_done (by kernel_rfl) ?_ _
  simp only [Exit.then]
  try simp only [Act.put, List.setIfInBounds_toArray, List.set_cons_succ, List.set_cons_zero]

  replace R := Lib.hid (R.out.grow hHeld)
  replace U := Lib.hid (U.out.grow hHeld)
  replace TK := Lib.hid (TK.out.grow hHeld)
  replace DR := Lib.hid (DR.out.grow hHeld)
  replace TU := Lib.hid (TU.out.grow hHeld)
  replace DU := Lib.hid (DU.out.grow hHeld)
  replace BB := Lib.hid (BB.out.trans (hHeld.mono BB.out.size))
  clear hHeld
  go_wp2_with fail
  refine (cntI_is U.out R.out CS.out).mono ?_
  rintro e wv4 ⟨rfl, b9⟩
  replace R := Lib.hid (R.out.grow b9)
  replace U := Lib.hid (U.out.grow b9)
  replace TK := Lib.hid (TK.out.grow b9)
  replace DR := Lib.hid (DR.out.grow b9)
  replace TU := Lib.hid (TU.out.grow b9)
  replace DU := Lib.hid (DU.out.grow b9)
  replace BB := Lib.hid (BB.out.trans (b9.mono BB.out.size))
  clear b9
  by_cases x0 : x = 0
  · have z1 := ZA.out x0
    subst x0 z1
    go_wp2_with fail
    refine (sumP_is R.out A6.out (by omega) HA.out).mono ?_
    rintro e wv5 ⟨rfl, b9⟩
    replace R := Lib.hid (R.out.grow b9)
    replace U := Lib.hid (U.out.grow b9)
    replace TK := Lib.hid (TK.out.grow b9)
    replace DR := Lib.hid (DR.out.grow b9)
    replace TU := Lib.hid (TU.out.grow b9)
    replace DU := Lib.hid (DU.out.grow b9)
    replace BB := Lib.hid (BB.out.trans (b9.mono BB.out.size))
    clear b9
    go_wp2_with fail
    go_ret
    exact ⟨by first | rfl | (simp; done) | (simp; omega), BB.out⟩
  have x0' : 0 < x := by omega
  go_wp2_with fail
  refine (sumP_is R.out A6.out (by omega) HA.out).mono ?_
  rintro e wv5 ⟨rfl, b9⟩
  replace R := Lib.hid (R.out.grow b9)
  replace U := Lib.hid (U.out.grow b9)
  replace TK := Lib.hid (TK.out.grow b9)
  replace DR := Lib.hid (DR.out.grow b9)
  replace TU := Lib.hid (TU.out.grow b9)
  replace DU := Lib.hid (DU.out.grow b9)
  replace BB := Lib.hid (BB.out.trans (b9.mono BB.out.size))
  clear b9
  go_wp2_with fail
  refine (sumP_is U.out B6.out (by omega) HB.out).mono ?_
  rintro e wv6 ⟨rfl, b9⟩
  replace R := Lib.hid (R.out.grow b9)
  replace U := Lib.hid (U.out.grow b9)
  replace TK := Lib.hid (TK.out.grow b9)
  replace DR := Lib.hid (DR.out.grow b9)
  replace TU := Lib.hid (TU.out.grow b9)
  replace DU := Lib.hid (DU.out.grow b9)
  replace BB := Lib.hid (BB.out.trans (b9.mono BB.out.size))
  clear b9
  by_cases y0 : y = 0
  · have z1 := ZB.out y0
    subst y0 z1
    go_wp2_with fail
    go_ret
    exact ⟨by first | rfl | (simp; done) | (simp; omega), BB.out⟩
  have y0' : 0 < y := by omega
  go_wp2_with fail
  go_ret
  exact ⟨by first | rfl | (simp; done) | (simp; omega), BB.out⟩

set_option maxRecDepth 100000 in
theorem lifted (os : Os) (started : os.Started) (H : Type) (enc : TypeId × Value → H) :
    ReturnsInHanded {} Try.checked os 3 .any (Rows.fnOrderCountSpec.pre6 enc Try.prog Try.f3 Rows.fnOrderCountRow.domain false) (Rows.fnOrderCountSpec.post enc Try.prog Try.f3 false true false false) := by
  refine returnsInHanded_of_change (C := Try.checked) own started (by kernel_rfl) Try.func3
    (ChangeSpec.witness6 (enc := enc) (C := Try.checked) false ⟨#[], #[.slice none 0 0, .slice none 0 0], []⟩ 8 (by kernel_rfl) (by kernel_rfl) (by kernel_rfl) (by kernel_rfl)) ?_
  intro W base args ds gs before hval0 hW hcnd _
  have hval : ∀ (j : Nat) t v, Try.f3.params[j]? = some t → args[j]? = some v → Value.okWide Try.prog W .any base t v := hval0
  have hW' := hW
  obtain ⟨p, q, hA0, hV, rfl, hfz, hnd⟩ := hW
  have hA : DataW.TrodAll enc Try.prog W 0 (fun _ => true) true Try.f3.params.toList args.toList ds p := hA0
  rw [Try.params3] at hA hval
  obtain ⟨v0, vs0, d0, ds0, p0, q0, hargs, rfl, rfl, h0, r0⟩ := trodAll_cons hA
  obtain ⟨v1, vs1, d1, ds1, p1, q1, rfl, rfl, rfl, h1, r1⟩ := trodAll_cons r0
  obtain ⟨rfl, rfl, rfl⟩ := trodAll_nil r1
  obtain rfl : args = #[v0, v1] := by cases args; simp_all
  obtain ⟨rfl, rfl⟩ := trodVars_none hV
  obtain ⟨a0, len0, cap0, rfl⟩ := okWide_slice Try.underlying22 (hval 0 22 v0 rfl rfl)
  have k0 := h0
  have lt0 : ∀ x ∈ p0, x.block < W.heap.size := by obtain ⟨m, hm⟩ := k0; exact DataW.trod_lt m _ _ _ hm
  obtain ⟨z0, w0⟩ : ∃ zs, IsRow .u8 W a0 len0 cap0 zs := by
    obtain ⟨fuel, hf⟩ := h0
    rcases open_ints Try.underlying22 Try.underlying5 (by kernel_rfl) hf with ⟨hcs, _⟩ | ⟨x, l, c, zs, hcs, _, hl, hm, hz, _, hcell, hwz⟩
    · simp [Value.cells] at hcs
      obtain ⟨rfl, rfl, rfl⟩ := hcs
      exact ⟨[], .inl ⟨rfl, rfl, rfl, rfl⟩⟩
    · simp [Value.cells] at hcs
      obtain ⟨rfl, rfl, rfl⟩ := hcs
      exact ⟨zs, .inr ⟨_, rfl, hl, hm, by simpa using hz, hcell, hwz⟩⟩
  obtain ⟨a1, len1, cap1, rfl⟩ := okWide_slice Try.underlying22 (hval 1 22 v1 rfl rfl)
  have k1 := h1
  have lt1 : ∀ x ∈ p1, x.block < W.heap.size := by obtain ⟨m, hm⟩ := k1; exact DataW.trod_lt m _ _ _ hm
  obtain ⟨z1, w1⟩ : ∃ zs, IsRow .u8 W a1 len1 cap1 zs := by
    obtain ⟨fuel, hf⟩ := h1
    rcases open_ints Try.underlying22 Try.underlying5 (by kernel_rfl) hf with ⟨hcs, _⟩ | ⟨x, l, c, zs, hcs, _, hl, hm, hz, _, hcell, hwz⟩
    · simp [Value.cells] at hcs
      obtain ⟨rfl, rfl, rfl⟩ := hcs
      exact ⟨[], .inl ⟨rfl, rfl, rfl, rfl⟩⟩
    · simp [Value.cells] at hcs
      obtain ⟨rfl, rfl, rfl⟩ := hcs
      exact ⟨zs, .inr ⟨_, rfl, hl, hm, by simpa using hz, hcell, hwz⟩⟩
  clear hA0 hval0
  refine (walk a0 len0 cap0 z0 a1 len1 cap1 z1 W w0 w1).mono fun e W' ⟨he, bel⟩ => ?_
  subst he
  exact ⟨_, rfl, _, _, _, [], _, [], hW', trodAll_mk1 (shut_bool Try.underlying4 _), (trodAll_cons_mk (Below.trod laidOut (by kernel_rfl) (of_decide_eq_true (by kernel_rfl)) k0 bel lt0) (trodAll_cons_mk (Below.trod laidOut (by kernel_rfl) (of_decide_eq_true (by kernel_rfl)) k1 bel lt1) trodAll_mk0)), rfl, bel.frame _, fun h => by cases h⟩

theorem over : Rows.fnOrderCountRow.holds Try.pinned (OpenSpec.ofChange Rows.fnOrderCountSpec) :=
  OpenClaim.holds_of_wide 3 Try.f3 rfl rfl rfl rfl rfl rfl rfl ⟨rfl, rfl, rfl, rfl, rfl⟩ rfl rfl rfl rfl rfl (by kernel_rfl) Try.func3 (by kernel_rfl)
    (of_decide_eq_true (by kernel_rfl)) (by unfold Func.isWrapper; first | (rw [if_pos (by decide +kernel)]; kernel_rfl) | (rw [if_neg (by decide +kernel)]; exact ⟨rfl, rfl⟩))
    (fun os started H enc _ => lifted os started H enc)

/-- ████ THE STATEMENT ████ -/
theorem proved : Rows.FnOrderCountSaid := over
#print axioms proved
end Go.Proofs.Ytcemgdekcfdfhaa.fnOrderCount
