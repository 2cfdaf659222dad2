/- For every input, the law FnMerge of the given statements returns true over the program at this commit, and its arguments read afterwards as before: no condition. -/
import Derived.Test.YtkcbgeldnibjcaaRows
import Derived.Test.YtkcbgeldnibjcaaLawM
import Derived.WalkKit
import Derived.ProofKit
import Derived.OpenShut
import Derived.ShutString
import Derived.ChangeOld
import Derived.Below
namespace Go.Proofs.Ytkcbgeldnibjcaa.fnMerge
open Go.ChangeShapes Go.WideShapes Go.ChangeAt Go.RowKit
open Go.ChangeMaps (open_string shut_string)
set_option linter.unusedVariables false

theorem own : ownKnob Try.prog.godebug = none := by kernel_rfl
theorem laidOut : laidOutB Try.prog = true := by kernel_rfl

/-- WHAT THE WALK IS TOLD OF A SLICE OF INTEGERS THAT CAME IN: it is nil; or it leads to a row of 'cap' cells, the numbers 'zs' (the first 'len' are its elements, the rest its spare room), each fitting its kind. -/
def IsRow (k : IntKind) (w : World) (a : Option Addr) (len cap : Nat) (zs : List Int) : Prop :=
  (a = none ∧ len = 0 ∧ cap = 0 ∧ zs = []) ∨
  ∃ x, a = some x ∧ len ≤ cap ∧ cap ≤ maxLen ∧ zs.length = cap ∧ (∀ i, i < zs.length → w.cell? (x.add i) = some (.int k (zs.getD i 0))) ∧ ∀ n ∈ zs, (Lit.int k n).wf = true

set_option maxRecDepth 100000 in
set_option maxHeartbeats 3200000 in
theorem walk (a0 : Option Addr) (len0 cap0 : Nat) (z0 : List Int) (a1 : Option Addr) (len1 cap1 : Nat) (z1 : List Int) (w : World) (w0 : IsRow .u8 w a0 len0 cap0 z0) (w1 : IsRow .u8 w a1 len1 cap1 z1) :
    Calls Try.prog 10 #[.slice a0 len0 cap0, .slice a1 len1 cap1] w fun e w' => e = .returned (.bool true) ∧ Below w.heap.size w w' := by
  have hB := bytes_of w0
  have hB1 := bytes_len (bytes_of w1)
  unfold maxLen at hB1
  by_cases hl : 1048576 < len0
  · have hdec : decide (1048576 < len0) = true := by simpa using hl
    go_enter Try.func10, Try.ntmps10
    go_wp2_with fail
    go_ret
    exact ⟨rfl, Below.refl _ _⟩
  have hdec : decide (1048576 < len0) = false := by simpa using hl
  by_cases hl1 : 1048576 < len1
  · go_enter Try.func10, Try.ntmps10
    go_wp2_with fail
    go_ret
    exact ⟨rfl, Below.refl _ _⟩
  have hm : len0 ≤ 1048576 := by omega
  have hm1 : len1 ≤ 1048576 := by omega
  clear hB1
  go_enter Try.func10, Try.ntmps10
  go_wp2_with fail
  refine (DrawRecordMerge_any hB).mono ?_
  rintro e wv1 ⟨v, u, l, a, x, rfl, rl, ra, hl2, ha1, b1⟩
  clear w0 w1 hB
  have S := St.start b1
  clear b1
  have R := Lib.hid (show Rec _ _ _ l a from ⟨rl, ra⟩)
  clear rl ra
  cases hc : mergeOf l a x with
  | none =>
    have HC := Lib.hid hc
    clear hc
    go_wp2_with fail
    refine (merge_no (implRecordMerge_any x R.out) HC.out).mono ?_
    rintro e wv2 ⟨v1, p1, rfl, r1, s1, b2⟩
    replace R := Lib.hid ((R.out.grow b2))
    replace S := (S.next b2)
    have R1 := Lib.hid r1
    clear r1
    clear b2
    have T1 := Lib.hid s1
    clear s1
    go_wp2_with fail
    refine (merge_no (specRecordMerge_any x R.out) HC.out).mono ?_
    rintro e wv3 ⟨v2, p2, rfl, r2, s2, b3⟩
    replace R := Lib.hid ((R.out.grow b3))
    replace R1 := Lib.hid ((R1.out.grow b3))
    replace T1 := Lib.hid ((T1.out.grow b3))
    replace S := (S.next b3)
    have R2 := Lib.hid r2
    clear r2
    clear b3
    have T2 := Lib.hid s2
    clear s2
    go_wp2_with fail
    refine (isame_yes R1.out R2.out rfl).mono ?_
    rintro e wv4 ⟨rfl, b4⟩
    replace R := Lib.hid ((R.out.grow b4))
    replace R1 := Lib.hid ((R1.out.grow b4))
    replace T1 := Lib.hid ((T1.out.grow b4))
    replace R2 := Lib.hid ((R2.out.grow b4))
    replace T2 := Lib.hid ((T2.out.grow b4))
    replace S := (S.next b4)
    clear b4
    go_wp2_with fail
    refine (isame_yes T1.out T2.out rfl).mono ?_
    rintro e wv5 ⟨rfl, b5⟩
    replace R := Lib.hid ((R.out.grow b5))
    replace R1 := Lib.hid ((R1.out.grow b5))
    replace T1 := Lib.hid ((T1.out.grow b5))
    replace R2 := Lib.hid ((R2.out.grow b5))
    replace T2 := Lib.hid ((T2.out.grow b5))
    replace S := (S.next b5)
    clear b5
    go_wp2_with fail
    refine (isame_yes R1.out R2.out rfl).mono ?_
    rintro e wv6 ⟨rfl, b6⟩
    replace R := Lib.hid ((R.out.grow b6))
    replace R1 := Lib.hid ((R1.out.grow b6))
    replace T1 := Lib.hid ((T1.out.grow b6))
    replace R2 := Lib.hid ((R2.out.grow b6))
    replace T2 := Lib.hid ((T2.out.grow b6))
    replace S := (S.next b6)
    clear b6
    go_wp2_with fail
    refine (isame_yes T1.out T2.out rfl).mono ?_
    rintro e wv7 ⟨rfl, b7⟩
    replace R := Lib.hid ((R.out.grow b7))
    replace R1 := Lib.hid ((R1.out.grow b7))
    replace T1 := Lib.hid ((T1.out.grow b7))
    replace R2 := Lib.hid ((R2.out.grow b7))
    replace T2 := Lib.hid ((T2.out.grow b7))
    replace S := (S.next b7)
    clear b7
    go_wp2_with fail
    go_ret
    exact ⟨by simp, S.below⟩
  | some pq =>
    obtain ⟨j, rfl, hv, hj, hs, rfl⟩ := mergeOf_is hc
    have HC := Lib.hid hc; have HV := Lib.hid hv; have HS := Lib.hid hs
    clear hc hv hs
    go_wp2_with fail
    refine (merge_yes (implRecordMerge_any (j : Int) R.out) HC.out).mono ?_
    rintro e wv2 ⟨v1, p1, rfl, r1, s1, b2⟩
    replace R := Lib.hid ((R.out.grow b2))
    replace S := (S.next b2)
    have R1 := Lib.hid r1
    clear r1
    clear b2
    have T1 := Lib.hid s1
    clear s1
    go_wp2_with fail
    refine (merge_yes (specRecordMerge_any (j : Int) R.out) HC.out).mono ?_
    rintro e wv3 ⟨v2, p2, rfl, r2, s2, b3⟩
    replace R := Lib.hid ((R.out.grow b3))
    replace R1 := Lib.hid ((R1.out.grow b3))
    replace T1 := Lib.hid ((T1.out.grow b3))
    replace S := (S.next b3)
    have R2 := Lib.hid r2
    clear r2
    clear b3
    have T2 := Lib.hid s2
    clear s2
    go_wp2_with fail
    refine (isame_yes R1.out R2.out rfl).mono ?_
    rintro e wv4 ⟨rfl, b4⟩
    replace R := Lib.hid ((R.out.grow b4))
    replace R1 := Lib.hid ((R1.out.grow b4))
    replace T1 := Lib.hid ((T1.out.grow b4))
    replace R2 := Lib.hid ((R2.out.grow b4))
    replace T2 := Lib.hid ((T2.out.grow b4))
    replace S := (S.next b4)
    clear b4
    go_wp2_with fail
    refine (isame_yes T1.out T2.out rfl).mono ?_
    rintro e wv5 ⟨rfl, b5⟩
    replace R := Lib.hid ((R.out.grow b5))
    replace R1 := Lib.hid ((R1.out.grow b5))
    replace T1 := Lib.hid ((T1.out.grow b5))
    replace R2 := Lib.hid ((R2.out.grow b5))
    replace T2 := Lib.hid ((T2.out.grow b5))
    replace S := (S.next b5)
    clear b5
    clear R2 T2
    obtain ⟨hL, ha0, ha20⟩ := rec_len HV.out
    obtain ⟨g, o, cp, rfl, hcap, hcapm⟩ := R.out.1.known (by omega)
    obtain ⟨g', o', cp', rfl, hcap', hcapm'⟩ := R.out.2.known (by omega)
    unfold maxLen at hcapm hcapm'
    rw [hL] at hcap
    rw [hL] at R
    rw [hL]
    have HL := Lib.hid hL
    have hl0 : 0 < l.length := by omega
    have hla : a.length < l.length := by omega
    clear hL
    have q0 : (0 : Int) < (a.length : Int) + 1 := by omega
    have q1 : 0 < a.length + 1 := by omega
    have q2 : IntKind.i64.wrap ((a.length : Int) + 1 - 1) = (a.length : Int) := by rw [show (a.length : Int) + 1 - 1 = a.length by omega]; exact IntWalk.i64_in _ (by omega)
    have q2' : IntKind.i64.wrap (a.length : Int) = (a.length : Int) := IntWalk.i64_in _ (by omega)
    have q3 : (0 : Int) ≤ (a.length : Int) := by omega
    have q4 : (a.length : Int) < (a.length : Int) + 1 := by omega
    have q5 : a.length < a.length + 1 := by omega
    have hjl : j + 2 ≤ l.length := by omega
    have HE : Hid ((mergedE l j).length = a.length) := Lib.hid (by rw [mergedE_length hjl]; have := HL.out; omega)
    obtain ⟨nb, hnb⟩ : ∃ nb : Nat, a.length = nb + 1 := ⟨a.length - 1, by omega⟩
    have HA : Hid ((mergedA a j).length = nb) := Lib.hid (by rw [mergedA_length hj]; omega)
    have HN := Lib.hid hnb
    have hnb1 : 1 ≤ nb := by omega
    have zq : IntKind.i64.wrap ((a.length : Int) - 1) = (nb : Int) := by rw [show (a.length : Int) - 1 = nb by omega]; exact IntWalk.i64_in _ (by omega)
    clear hnb
    obtain ⟨ge, oe, ce, rfl, hce, hcem⟩ := R1.out.known (by rw [HE.out]; omega)
    obtain ⟨gf, of, cf, rfl, hcf, hcfm⟩ := T1.out.known (by rw [HA.out]; omega)
    unfold maxLen at hcem hcfm
    rw [HE.out] at hce
    rw [HE.out] at R1
    rw [HE.out]
    rw [HA.out] at hcf
    rw [HA.out] at T1
    rw [HA.out]
    obtain ⟨y, hy⟩ : ∃ y : Int, (len1 : Int).tmod (nb : Int) = y := ⟨_, rfl⟩
    have hy0 : 0 ≤ y := by rw [← hy]; exact Int.tmod_nonneg _ (by omega)
    have hy1 : y < (nb : Int) := by rw [← hy]; exact Int.tmod_lt_of_pos _ (by omega)
    have hye : (len1 : Int) % (nb : Int) = y := by rw [← hy, Int.tmod_eq_emod_of_nonneg (by omega)]
    have zn : ¬ ((nb : Int) = 0) := by omega
    obtain ⟨i, rfl⟩ : ∃ i : Nat, y = i := ⟨y.toNat, by omega⟩
    have hi : i < nb := by omega
    have hia : i < (mergedA a j).length := by rw [HA.out]; exact hi
    have hi0 : i < (mergedE l j).length := by rw [HE.out]; have := HN.out; omega
    have hi1 : i + 1 < (mergedE l j).length := by rw [HE.out]; have := HN.out; omega
    have MB := Lib.hid (merged_bet_bin HV.out hj i hia)
    have MR : Hid (isRec (mergedE l j) (mergedA a j) = true) := Lib.hid (by rw [merged_rec HV.out hj, decide_eq_true HS.out])
    have MT : Hid (totalOf (mergedE l j) (mergedA a j) = a.sum) := Lib.hid (by rw [total_rec MR.out, merged_sum hj])
    have HT : Hid (totalOf l a = a.sum) := Lib.hid (total_rec HV.out)
    obtain ⟨sm, hsm⟩ : ∃ x : Int, a.sum = x := ⟨_, rfl⟩
    rw [hsm] at MT HT
    have bb := rec_amount MR.out i hia
    clear hsm
    have z3 : IntKind.i64.wrap (i : Int) = (i : Int) := IntWalk.i64_in _ (by omega)
    have z4 : IntKind.i64.wrap ((i : Int) + 1) = (i : Int) + 1 := IntWalk.i64_in _ (by omega)
    have i2 : (0 : Int) ≤ (i : Int) := by omega
    have i3 : (0 : Int) ≤ (i : Int) + 1 := by omega
    have i4 : ((i : Int) + 1).toNat = i + 1 := by omega
    have i5 : (i : Int) < (a.length : Int) := by have := HN.out; omega
    have i6 : (i : Int) + 1 < (a.length : Int) := by have := HN.out; omega
    have i7 : (i : Int) < (nb : Int) := by omega
    have i8 : i < a.length := by have := HN.out; omega
    have i9 : i + 1 < a.length := by have := HN.out; omega
    have c1 := R1.out.cells i hi0; have c2 := R1.out.cells (i + 1) hi1
    obtain ⟨ev0, he0⟩ : ∃ x : Int, (mergedE l j)[i] = x := ⟨_, rfl⟩
    obtain ⟨ev1, he1⟩ : ∃ x : Int, (mergedE l j)[i + 1] = x := ⟨_, rfl⟩
    obtain ⟨bv, hbv⟩ : ∃ x : Int, (mergedA a j)[i] = x := ⟨_, rfl⟩
    rw [he0] at c1 MB; rw [he1] at c2 MB; rw [hbv] at MB bb
    have HBV := Lib.hid hbv
    clear he0 he1 hbv
    go_upto_region 9 with fail
    go_cut [15, 16] (fun s0 s1 wx => TwoMid ((bet l a ev0 ev1).isSome) ((bet l a ev0 ev1).getD 0) wv5 [] s0 s1 wx)
    case first =>
      have mkS : ∀ w' : World, Below wv5.heap.size wv5 w' → (Below wv5.heap.size wv5 w' ∧ w'.cell? ⟨ge, oe + i, none⟩ = some (.int .i64 ev0) ∧ w'.cell? ⟨ge, oe + (i + 1), none⟩ = some (.int .i64 ev1)) := fun w' b => ⟨b, (b.cell (cell_below c1)).trans c1, (b.cell (cell_below c2)).trans c2⟩
      have held : ∀ W w' : World, Below W.heap.size W w' → (Below wv5.heap.size wv5 W ∧ W.cell? ⟨ge, oe + i, none⟩ = some (.int .i64 ev0) ∧ W.cell? ⟨ge, oe + (i + 1), none⟩ = some (.int .i64 ev1)) → (Below wv5.heap.size wv5 w' ∧ w'.cell? ⟨ge, oe + i, none⟩ = some (.int .i64 ev0) ∧ w'.cell? ⟨ge, oe + (i + 1), none⟩ = some (.int .i64 ev1)) := fun W w' b h => mkS w' (h.1.trans (b.mono h.1.size))
      have heldSet : ∀ (W w' : World) (k' : Nat) (x y : Int), wv5.heap.size ≤ k' → w' = (W.setCell ⟨k', 0, none⟩ (.int .i64 x)).setCell ⟨k', 1, none⟩ (.int .i64 y) → (Below wv5.heap.size wv5 W ∧ W.cell? ⟨ge, oe + i, none⟩ = some (.int .i64 ev0) ∧ W.cell? ⟨ge, oe + (i + 1), none⟩ = some (.int .i64 ev1)) → (Below wv5.heap.size wv5 w' ∧ w'.cell? ⟨ge, oe + i, none⟩ = some (.int .i64 ev0) ∧ w'.cell? ⟨ge, oe + (i + 1), none⟩ = some (.int .i64 ev1)) := fun W w' k' x y hk e h => by
        subst e
        exact mkS _ ((h.1.setCell (p := ⟨k', 0, none⟩) hk _).setCell (p := ⟨k', 1, none⟩) hk _)
      have keep0 := mkS _ (Below.refl wv5.heap.size wv5).drew
      have keepY := mkS _ ((Below.refl wv5.heap.size wv5).alloc (Nat.le_refl _) (.cells #[.int .i64 0, .int .i64 0] 30)).drew
      have atR := fun (W : World) (h : (Below wv5.heap.size wv5 W ∧ W.cell? ⟨ge, oe + i, none⟩ = some (.int .i64 ev0) ∧ W.cell? ⟨ge, oe + (i + 1), none⟩ = some (.int .i64 ev1))) => R.out.grow h.1
      have atR1 := fun (W : World) (h : (Below wv5.heap.size wv5 W ∧ W.cell? ⟨ge, oe + i, none⟩ = some (.int .i64 ev0) ∧ W.cell? ⟨ge, oe + (i + 1), none⟩ = some (.int .i64 ev1))) => R1.out.grow h.1
      have atT1 := fun (W : World) (h : (Below wv5.heap.size wv5 W ∧ W.cell? ⟨ge, oe + i, none⟩ = some (.int .i64 ev0) ∧ W.cell? ⟨ge, oe + (i + 1), none⟩ = some (.int .i64 ev1))) => T1.out.grow h.1
      have tok0 : True := trivial
      go_region_held3 (fun w' => (Below wv5.heap.size wv5 w' ∧ w'.cell? ⟨ge, oe + i, none⟩ = some (.int .i64 ev0) ∧ w'.cell? ⟨ge, oe + (i + 1), none⟩ = some (.int .i64 ev1))) (first | exact keep0 | exact keepY | exact hs0 | (have _q := hs0; exact held _ _ ((Below.refl _ _).alloc (Nat.le_refl _) _) hs0) | (have _q := hs0; exact heldSet _ _ _ _ _ (by omega) rfl hs0)) (first | (go_at_call 18; refine (implRecordBetween_any _ _ (atR _ (by assumption))).mono ?_; rintro e x0 ⟨n5, d5, ok5, rfl, hr5, b0⟩; have hs0 := held _ _ b0 (by assumption); have hz0 := hs0.1.size; (first | (have zz := top_two (u := .int .i64 0) (v := .int .i64 0) (t := 30) b0) | (have zz := top_two_drew (u := .int .i64 0) (v := .int .i64 0) (t := 30) b0) | (replace zz := later_two b0 zz) | (have zz := later_two (k := wv5.heap.size) (u := .int .i64 0) (v := .int .i64 0) b0 ⟨by go_cell, by go_cell, by go_simp, by go_simp, by simp; omega⟩) | skip); (try simp only [World.size_alloc] at zz)))
      all_goals
        clear keep0 keepY held heldSet
        have S5 : St wv5 x0 [] := ⟨hs0.1, trivial⟩
        first
          | (
              fail_if_success (have q := zz)
              go_wp2
              go_meet
              exact TwoMid.mk hr5 (S5.alloc _ _))
          | (
              go_wp2
              go_meet
              exact TwoMid.mk hr5 (St.put2 (St.put zz S5) (by omega) (by simp only [Apart]) _ _))
    case rest =>
      revert hcut
      revert wc
      intro wv6 hcut
      obtain ⟨k6, n9, d9, ok, rfl, rfl, hr, S5⟩ := hcut
      replace R := Lib.hid (R.out.grow S5.below)
      replace R1 := Lib.hid (R1.out.grow S5.below)
      replace T1 := Lib.hid (T1.out.grow S5.below)
      replace S := S.more S5
      clear S5
      have r := S.holds
      simp only [Holds, and_true] at r
      try simp only [World.size_alloc] at r
      rw [MB.out] at hr
      have FS := fv_int (k := bv) (by omega) (by omega)
      obtain ⟨rfl, hf9, hq9⟩ := res_got hr rfl (fits_int (by omega) (by omega))
      obtain ⟨rfl, rfl⟩ := fq_inj hf9 FS (by rw [hq9, fq_whole]; rfl)
      clear hf9 hq9 hr c1 c2
      have bc := T1.out.cells i hia
      rw [HBV.out] at bc
      have Xc0 := r.1
      have Xc1 := r.2.1
      go_upto_region 10 with fail
      have mkS : ∀ w' : World, Below wv6.heap.size wv6 w' → (Below wv6.heap.size wv6 w' ∧ w'.cell? ⟨k6, 0, none⟩ = some (.int .i64 n9) ∧ w'.cell? ⟨k6, 1, none⟩ = some (.int .i64 1) ∧ w'.cell? ⟨gf, of + i, none⟩ = some (.int .i64 n9)) := fun w' b => ⟨b, (b.cell (cell_below Xc0)).trans Xc0, (b.cell (cell_below Xc1)).trans Xc1, (b.cell (cell_below bc)).trans bc⟩
      have held : ∀ W w' : World, Below W.heap.size W w' → (Below wv6.heap.size wv6 W ∧ W.cell? ⟨k6, 0, none⟩ = some (.int .i64 n9) ∧ W.cell? ⟨k6, 1, none⟩ = some (.int .i64 1) ∧ W.cell? ⟨gf, of + i, none⟩ = some (.int .i64 n9)) → (Below wv6.heap.size wv6 w' ∧ w'.cell? ⟨k6, 0, none⟩ = some (.int .i64 n9) ∧ w'.cell? ⟨k6, 1, none⟩ = some (.int .i64 1) ∧ w'.cell? ⟨gf, of + i, none⟩ = some (.int .i64 n9)) := fun W w' b h => mkS w' (h.1.trans (b.mono h.1.size))
      have keep0 := mkS _ (Below.refl wv6.heap.size wv6).drew
      have atR := fun (W : World) (h : (Below wv6.heap.size wv6 W ∧ W.cell? ⟨k6, 0, none⟩ = some (.int .i64 n9) ∧ W.cell? ⟨k6, 1, none⟩ = some (.int .i64 1) ∧ W.cell? ⟨gf, of + i, none⟩ = some (.int .i64 n9))) => R.out.grow h.1
      have atR1 := fun (W : World) (h : (Below wv6.heap.size wv6 W ∧ W.cell? ⟨k6, 0, none⟩ = some (.int .i64 n9) ∧ W.cell? ⟨k6, 1, none⟩ = some (.int .i64 1) ∧ W.cell? ⟨gf, of + i, none⟩ = some (.int .i64 n9))) => R1.out.grow h.1
      have atT1 := fun (W : World) (h : (Below wv6.heap.size wv6 W ∧ W.cell? ⟨k6, 0, none⟩ = some (.int .i64 n9) ∧ W.cell? ⟨k6, 1, none⟩ = some (.int .i64 1) ∧ W.cell? ⟨gf, of + i, none⟩ = some (.int .i64 n9))) => T1.out.grow h.1
      have tok0 : True := trivial
      have tok1 : True := trivial
      have tok2 : True := trivial
      have tok3 : True := trivial
      go_region_held3 (fun w' => (Below wv6.heap.size wv6 w' ∧ w'.cell? ⟨k6, 0, none⟩ = some (.int .i64 n9) ∧ w'.cell? ⟨k6, 1, none⟩ = some (.int .i64 1) ∧ w'.cell? ⟨gf, of + i, none⟩ = some (.int .i64 n9))) (first | exact keep0 | exact hs0 | exact hs1 | exact hs2 | exact hs3) (first | (have _t := tok0; clear tok0 _t; go_at_call 13; refine (recI_is ⟨atR1 _ (by assumption), atT1 _ (by assumption)⟩ MR.out).mono ?_; rintro e x0 ⟨rfl, b0⟩; have hs0 := held _ _ b0 (by assumption)) | (have _t := tok1; clear tok1 _t; go_at_call 16; refine (total_is ⟨atR1 _ (by assumption), atT1 _ (by assumption)⟩ MT.out).mono ?_; rintro e x1 ⟨rfl, b1⟩; have hs1 := held _ _ b1 (by assumption)) | (have _t := tok2; clear tok2 _t; go_at_call 16; refine (total_is (atR _ (by assumption)) HT.out).mono ?_; rintro e x2 ⟨rfl, b2⟩; have hs2 := held _ _ b2 (by assumption)) | (have _t := tok3; clear tok3 _t; go_at_call 20; refine (frac_any _ _).mono ?_; rintro e wv7 ⟨rfl, b3⟩; have hs3 := held _ _ b3 (by assumption)))
      have B9 := hs3.1
      replace R := Lib.hid (R.out.grow B9)
      replace R1 := Lib.hid (R1.out.grow B9)
      replace T1 := Lib.hid (T1.out.grow B9)
      replace S := S.next B9
      clear mkS held keep0 B9 atR atR1 atT1 hs0 b0 hs1 b1 hs2 b2 hs3 b3
      clear r
      have r := S.holds
      simp only [Holds, and_true] at r
      try simp only [World.size_alloc] at r
      go_wp2_with fail
      go_ret
      exact ⟨by first | rfl | (simp; done) | (simp; omega), S.below⟩

set_option maxRecDepth 100000 in
theorem lifted (os : Os) (started : os.Started) (H : Type) (enc : TypeId × Value → H) :
    ReturnsInHanded {} Try.checked os 10 .any (Rows.fnMergeSpec.pre6 enc Try.prog Try.f10 Rows.fnMergeRow.domain false) (Rows.fnMergeSpec.post enc Try.prog Try.f10 false true false false) := by
  refine returnsInHanded_of_change (C := Try.checked) own started (by kernel_rfl) Try.func10
    (ChangeSpec.witness6 (enc := enc) (C := Try.checked) false ⟨#[], #[.slice none 0 0, .slice none 0 0], []⟩ 8 (by kernel_rfl) (by kernel_rfl) (by kernel_rfl) (by kernel_rfl)) ?_
  intro W base args ds gs before hval0 hW hcnd _
  have hval : ∀ (j : Nat) t v, Try.f10.params[j]? = some t → args[j]? = some v → Value.okWide Try.prog W .any base t v := hval0
  have hW' := hW
  obtain ⟨p, q, hA0, hV, rfl, hfz, hnd⟩ := hW
  have hA : DataW.TrodAll enc Try.prog W 0 (fun _ => true) true Try.f10.params.toList args.toList ds p := hA0
  rw [Try.params10] at hA hval
  obtain ⟨v0, vs0, d0, ds0, p0, q0, hargs, rfl, rfl, h0, r0⟩ := trodAll_cons hA
  obtain ⟨v1, vs1, d1, ds1, p1, q1, rfl, rfl, rfl, h1, r1⟩ := trodAll_cons r0
  obtain ⟨rfl, rfl, rfl⟩ := trodAll_nil r1
  obtain rfl : args = #[v0, v1] := by cases args; simp_all
  obtain ⟨rfl, rfl⟩ := trodVars_none hV
  obtain ⟨a0, len0, cap0, rfl⟩ := okWide_slice Try.underlying22 (hval 0 22 v0 rfl rfl)
  have k0 := h0
  have lt0 : ∀ x ∈ p0, x.block < W.heap.size := by obtain ⟨m, hm⟩ := k0; exact DataW.trod_lt m _ _ _ hm
  obtain ⟨z0, w0⟩ : ∃ zs, IsRow .u8 W a0 len0 cap0 zs := by
    obtain ⟨fuel, hf⟩ := h0
    rcases open_ints Try.underlying22 Try.underlying5 (by kernel_rfl) hf with ⟨hcs, _⟩ | ⟨x, l, c, zs, hcs, _, hl, hm, hz, _, hcell, hwz⟩
    · simp [Value.cells] at hcs
      obtain ⟨rfl, rfl, rfl⟩ := hcs
      exact ⟨[], .inl ⟨rfl, rfl, rfl, rfl⟩⟩
    · simp [Value.cells] at hcs
      obtain ⟨rfl, rfl, rfl⟩ := hcs
      exact ⟨zs, .inr ⟨_, rfl, hl, hm, by simpa using hz, hcell, hwz⟩⟩
  obtain ⟨a1, len1, cap1, rfl⟩ := okWide_slice Try.underlying22 (hval 1 22 v1 rfl rfl)
  have k1 := h1
  have lt1 : ∀ x ∈ p1, x.block < W.heap.size := by obtain ⟨m, hm⟩ := k1; exact DataW.trod_lt m _ _ _ hm
  obtain ⟨z1, w1⟩ : ∃ zs, IsRow .u8 W a1 len1 cap1 zs := by
    obtain ⟨fuel, hf⟩ := h1
    rcases open_ints Try.underlying22 Try.underlying5 (by kernel_rfl) hf with ⟨hcs, _⟩ | ⟨x, l, c, zs, hcs, _, hl, hm, hz, _, hcell, hwz⟩
    · simp [Value.cells] at hcs
      obtain ⟨rfl, rfl, rfl⟩ := hcs
      exact ⟨[], .inl ⟨rfl, rfl, rfl, rfl⟩⟩
    · simp [Value.cells] at hcs
      obtain ⟨rfl, rfl, rfl⟩ := hcs
      exact ⟨zs, .inr ⟨_, rfl, hl, hm, by simpa using hz, hcell, hwz⟩⟩
  clear hA0 hval0
  refine (walk a0 len0 cap0 z0 a1 len1 cap1 z1 W w0 w1).mono fun e W' ⟨he, bel⟩ => ?_
  subst he
  exact ⟨_, rfl, _, _, _, [], _, [], hW', trodAll_mk1 (shut_bool Try.underlying4 _), (trodAll_cons_mk (Below.trod laidOut (by kernel_rfl) (of_decide_eq_true (by kernel_rfl)) k0 bel lt0) (trodAll_cons_mk (Below.trod laidOut (by kernel_rfl) (of_decide_eq_true (by kernel_rfl)) k1 bel lt1) trodAll_mk0)), rfl, bel.frame _, fun h => by cases h⟩

theorem over : Rows.fnMergeRow.holds Try.pinned (OpenSpec.ofChange Rows.fnMergeSpec) :=
  OpenClaim.holds_of_wide 10 Try.f10 rfl rfl rfl rfl rfl rfl rfl ⟨rfl, rfl, rfl, rfl, rfl⟩ rfl rfl rfl rfl rfl (by kernel_rfl) Try.func10 (by kernel_rfl)
    (of_decide_eq_true (by kernel_rfl)) (by unfold Func.isWrapper; first | (rw [if_pos (by decide +kernel)]; kernel_rfl) | (rw [if_neg (by decide +kernel)]; exact ⟨rfl, rfl⟩))
    (fun os started H enc _ => lifted os started H enc)

/-- ████ THE STATEMENT ████ -/
theorem proved : Rows.FnMergeSaid := over
#print axioms proved
end Go.Proofs.Ytkcbgeldnibjcaa.fnMerge
