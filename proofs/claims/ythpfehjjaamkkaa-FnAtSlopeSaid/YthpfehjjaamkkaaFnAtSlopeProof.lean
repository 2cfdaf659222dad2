/- For every input, the law FnAtSlope of the given statements returns true over the program at this commit, and its arguments read afterwards as before: no condition. -/
import Derived.Test.YthpfehjjaamkkaaRows
import Derived.Test.YthpfehjjaamkkaaLawK
import Derived.WalkKit
import Derived.ProofKit
import Derived.OpenShut
import Derived.ShutString
import Derived.ChangeOld
import Derived.Below
namespace Go.Proofs.Ythpfehjjaamkkaa.fnAtSlope
open Go.ChangeShapes Go.WideShapes Go.ChangeAt Go.RowKit
open Go.ChangeMaps (open_string shut_string)
set_option linter.unusedVariables false

theorem own : ownKnob Try.prog.godebug = none := by kernel_rfl
theorem laidOut : laidOutB Try.prog = true := by kernel_rfl

/-- WHAT THE WALK IS TOLD OF A SLICE OF INTEGERS THAT CAME IN: it is nil; or it leads to a row of 'cap' cells, the numbers 'zs' (the first 'len' are its elements, the rest its spare room), each fitting its kind. -/
def IsRow (k : IntKind) (w : World) (a : Option Addr) (len cap : Nat) (zs : List Int) : Prop :=
  (a = none ∧ len = 0 ∧ cap = 0 ∧ zs = []) ∨
  ∃ x, a = some x ∧ len ≤ cap ∧ cap ≤ maxLen ∧ zs.length = cap ∧ (∀ i, i < zs.length → w.cell? (x.add i) = some (.int k (zs.getD i 0))) ∧ ∀ n ∈ zs, (Lit.int k n).wf = true

set_option maxRecDepth 100000 in
set_option maxHeartbeats 3200000 in
theorem walk (a0 : Option Addr) (len0 cap0 : Nat) (z0 : List Int) (w : World) (w0 : IsRow .u8 w a0 len0 cap0 z0) :
    Calls Try.prog 6 #[.slice a0 len0 cap0] w fun e w' => e = .returned (.bool true) ∧ Below w.heap.size w w' := by
  have hB := bytes_of w0
  by_cases hl : 1048576 < len0
  · have hdec : decide (1048576 < len0) = true := by simpa using hl
    go_enter Try.func6, Try.ntmps6
    go_wp2_with fail
    go_ret
    exact ⟨rfl, Below.refl _ _⟩
  have hdec : decide (1048576 < len0) = false := by simpa using hl
  have hm : len0 ≤ 1048576 := by omega
  go_enter Try.func6, Try.ntmps6
  go_wp2_with fail
  refine (DrawCurveAt_any hB).mono ?_
  rintro e u1 ⟨v, l, x, rfl, hr, hbd, hl, hx0, hx1, b1⟩
  clear w0 hB
  have S := St.start b1
  clear b1
  have R := Lib.hid hr
  clear hr
  have BD := Lib.hid hbd
  clear hbd
  cases ho : onC l ((x : Int) : Rat)
  · have HO := Lib.hid ho
    clear ho
    go_wp2_with fail
    refine (at_no R.out HO.out).mono ?_
    rintro e u2 ⟨rfl, b2⟩
    replace R := Lib.hid ((R.out.grow b2).alloc 0 0 32)
    replace S := (S.next b2).alloc 0 0
    clear b2
    have r := S.holds
    simp only [Holds, and_true] at r
    try simp only [World.size_alloc] at r
    go_wp2_with fail
    refine (at_noS R.out HO.out).mono ?_
    rintro e u3 ⟨rfl, b3⟩
    replace R := Lib.hid ((R.out.grow b3).alloc 0 0 32)
    replace S := (S.next b3).alloc 0 0
    clear b3
    clear r
    have r := S.holds
    simp only [Holds, and_true] at r
    try simp only [World.size_alloc] at r
    go_wp2_with fail
    go_ret
    exact ⟨by simp, S.below⟩
  have HO := Lib.hid ho
  clear ho
  go_wp2_with fail
  refine (at_yes R.out HO.out).mono ?_
  rintro e u2 ⟨n, d, rfl, hf, hq, b2⟩
  replace R := Lib.hid ((R.out.grow b2).alloc n d 32)
  replace S := (S.next b2).alloc n d
  clear b2
  have r := S.holds
  simp only [Holds, and_true] at r
  try simp only [World.size_alloc] at r
  have HF := Lib.hid hf; have HQ := Lib.hid hq
  clear hf hq
  go_wp2_with fail
  refine (got_same (at_yesS R.out HO.out) HF.out HQ.out).mono ?_
  rintro e u3 ⟨rfl, b3⟩
  replace R := Lib.hid ((R.out.grow b3).alloc n d 32)
  replace S := (S.next b3).alloc n d
  clear b3
  clear r
  have r := S.holds
  simp only [Holds, and_true] at r
  try simp only [World.size_alloc] at r
  have HC := Lib.hid (onC_curve HO.out)
  obtain ⟨g, o, cp, rfl, hcap, hcapm⟩ := R.out.known hl
  unfold maxLen at hcapm
  obtain ⟨m, hm⟩ : ∃ m, l.length = m + 1 := ⟨l.length - 1, by omega⟩
  rw [hm] at hcap
  rw [hm] at R
  rw [hm]
  have HM := Lib.hid hm
  have em : l.length - 1 = m := by omega
  have hml : m < l.length := by omega
  have h0l : 0 < l.length := by omega
  have q0 : (0 : Int) < (m : Int) + 1 := by omega
  have q1 : 0 < m + 1 := by omega
  have q2 : IntKind.i64.wrap ((m : Int) + 1 - 1) = (m : Int) := by rw [show (m : Int) + 1 - 1 = m by omega]; exact IntWalk.i64_in _ (by omega)
  have q2' : IntKind.i64.wrap (m : Int) = (m : Int) := IntWalk.i64_in _ (by omega)
  have q3 : (0 : Int) ≤ (m : Int) := by omega
  have q4 : (m : Int) < (m : Int) + 1 := by omega
  have q5 : m < m + 1 := by omega
  have ix := (onC_is HC.out h0l).1 HO.out
  simp only [em] at ix
  obtain ⟨rx0, rx1⟩ := onC_int HO.out
  have hm2 : 1 ≤ m := by have := isCurve_len HC.out; omega
  have hm12 : m ≤ 11 := by have := isCurve_len HC.out; omega
  go_upto_region 8 with fail
  generalize (u3.alloc (.cells #[.int .i64 n, .int .i64 d] 32)) = W3 at S R r ⊢
  go_wp2_with fail
  go_loopg [9] m (fun rr z wr => ∃ j : Nat, z = .int .i64 j ∧ j + rr = m ∧ j < m ∧ (∀ hj : j < l.length, l[j].1 ≤ x) ∧ W3 = wr)
  case atStart => exact ⟨0, rfl, by omega, by omega, fun _ => ix.1, rfl⟩
  case round =>
    obtain ⟨j, rfl, hk, hjm, hjx, rfl⟩ := hrel
    have K := Lib.hid hk
    have hj1 : j + 1 < l.length := by omega
    have hj0 : j < l.length := by omega
    have lo := hjx hj0
    clear hk hjx
    have a1 : IntKind.i64.wrap ((j : Int) + 2) = (j : Int) + 2 := IntWalk.i64_in _ (by omega)
    have a2 : IntKind.i64.wrap ((j : Int) + 1) = (j : Int) + 1 := IntWalk.i64_in _ (by omega)
    have a3 : (0 : Int) ≤ (j : Int) + 1 := by omega
    have a4 : (j : Int) + 1 < (m : Int) + 1 := by omega
    have a5 : ((j : Int) + 1).toNat = j + 1 := by omega
    have a6 : (0 : Int) ≤ (j : Int) := by omega
    have a7 : (j : Int) < (m : Int) + 1 := by omega
    obtain ⟨c1, c2⟩ := R.out.cells (j + 1) hj1
    by_cases h2 : j + 1 < m
    · have h2i : (j : Int) + 2 < (m : Int) + 1 := by omega
      by_cases hx : l[j + 1].1 ≤ x
      · have hd : decide (l[j + 1].1 ≤ x) = true := by simpa using hx
        go_wp2_with fail
        go_roundg (gk - 1)
        case measure => have := K.out; omega
        case rel => exact ⟨j + 1, by go_num, by have := K.out; omega, h2, fun _ => hx, rfl⟩
      · have hd : decide (l[j + 1].1 ≤ x) = false := by simpa using hx
        have hi : x ≤ l[j + 1].1 := by omega
        clear hx
        go_upto_region 11 with fail
        clear hd
        have AT := Lib.hid (at_seg HC.out j hj1 (Rat.intCast_le_intCast.2 lo) (Rat.intCast_le_intCast.2 hi))
        have dj := isCurve_dp HC.out j hj0
        have dk := isCurve_dp HC.out (j + 1) hj1
        obtain ⟨ux, uy⟩ := isCurve_up HC.out j hj1
        have SF := Lib.hid (sl_fits dj dk ux uy)
        have SV : Hid (slopeV l j = true) := Lib.hid (by unfold slopeV; rw [HC.out, decide_eq_true (show (0 : Int) ≤ j by omega), decide_eq_true (show (j : Int) < (l.length : Int) - 1 by omega)]; rfl)
        have SR := Lib.hid (slopeR_is hj1)
        have EX : Hid ((l[j].2 : Rat) + ((x : Rat) - (l[j].1 : Rat)) * sl l[j] l[j + 1] = cAt l ((x : Int) : Rat)) := Lib.hid (by rw [AT.out, seg_parts])
        have EF : Hid (fits (((x : Rat) - (l[j].1 : Rat)) * sl l[j] l[j + 1]) = true) := Lib.hid (fits_part (a := l[j].2) (by rw [EX.out]; exact cAt_fits HO.out) dj.2.2.1 (Rat.mul_nonneg (by have := rat_le lo; grind) (sl_nonneg ux uy)))
        have b1 : IntKind.i64.wrap (x - l[j].1) = x - l[j].1 := IntWalk.i64_in _ (by omega)
        have FX := dp_fv (n := x - l[j].1) (by omega) (by omega)
        have FY := dp_fv dj.2.2.1 dj.2.2.2
        have QX : Hid (fq (x - l[j].1) 1 = (x : Rat) - (l[j].1 : Rat)) := Lib.hid (by rw [fq_whole, Rat.intCast_sub])
        clear c1 c2
        go_wp2_with fail
        refine (got_yes (implCurveSlope_any j (wf_small (by omega) (by omega)) R.out) SV.out (by rw [SR.out]; exact SF.out)).mono ?_
        rintro e u4 ⟨n2, d2, rfl, hf2, hq2, b4⟩
        replace R := Lib.hid ((R.out.grow b4).alloc n2 d2 32)
        replace S := (S.next b4).alloc n2 d2
        clear b4
        clear r
        have r := S.holds
        simp only [Holds, and_true] at r
        try simp only [World.size_alloc] at r
        have HF2 := Lib.hid hf2; have HQ2 := Lib.hid (hq2.trans SR.out)
        clear hf2 hq2
        obtain ⟨c3, c4⟩ := R.out.cells j hj0
        have Sc0 := r.1.1
        have Sc1 := r.1.2.1
        clear c4
        go_upto_region 12 with fail
        generalize (u4.alloc (.cells #[.int .i64 n2, .int .i64 d2] 32)) = W4 at S R Sc0 Sc1 c3 r ⊢
        go_cut [12, 13] (fun s0 s1 wx => TwoMid (fv n2 d2 && fv (x - l[j].1) 1) (fq n2 d2 * fq (x - l[j].1) 1) W4 [] s0 s1 wx)
        case first =>
          have mkS : ∀ w' : World, Below W4.heap.size W4 w' → (Below W4.heap.size W4 w' ∧ w'.cell? ⟨u4.heap.size, 0, none⟩ = some (.int .i64 n2) ∧ w'.cell? ⟨u4.heap.size, 1, none⟩ = some (.int .i64 d2) ∧ w'.cell? ⟨g, o + j * 2, none⟩ = some (.int .i64 l[j].1)) := fun w' b => ⟨b, (b.cell (cell_below Sc0)).trans Sc0, (b.cell (cell_below Sc1)).trans Sc1, (b.cell (cell_below c3)).trans c3⟩
          have held : ∀ W w' : World, Below W.heap.size W w' → (Below W4.heap.size W4 W ∧ W.cell? ⟨u4.heap.size, 0, none⟩ = some (.int .i64 n2) ∧ W.cell? ⟨u4.heap.size, 1, none⟩ = some (.int .i64 d2) ∧ W.cell? ⟨g, o + j * 2, none⟩ = some (.int .i64 l[j].1)) → (Below W4.heap.size W4 w' ∧ w'.cell? ⟨u4.heap.size, 0, none⟩ = some (.int .i64 n2) ∧ w'.cell? ⟨u4.heap.size, 1, none⟩ = some (.int .i64 d2) ∧ w'.cell? ⟨g, o + j * 2, none⟩ = some (.int .i64 l[j].1)) := fun W w' b h => mkS w' (h.1.trans (b.mono h.1.size))
          have heldSet : ∀ (W w' : World) (k' : Nat) (x y : Int), W4.heap.size ≤ k' → w' = (W.setCell ⟨k', 0, none⟩ (.int .i64 x)).setCell ⟨k', 1, none⟩ (.int .i64 y) → (Below W4.heap.size W4 W ∧ W.cell? ⟨u4.heap.size, 0, none⟩ = some (.int .i64 n2) ∧ W.cell? ⟨u4.heap.size, 1, none⟩ = some (.int .i64 d2) ∧ W.cell? ⟨g, o + j * 2, none⟩ = some (.int .i64 l[j].1)) → (Below W4.heap.size W4 w' ∧ w'.cell? ⟨u4.heap.size, 0, none⟩ = some (.int .i64 n2) ∧ w'.cell? ⟨u4.heap.size, 1, none⟩ = some (.int .i64 d2) ∧ w'.cell? ⟨g, o + j * 2, none⟩ = some (.int .i64 l[j].1)) := fun W w' k' x y hk e h => by
            subst e
            exact mkS _ ((h.1.setCell (p := ⟨k', 0, none⟩) hk _).setCell (p := ⟨k', 1, none⟩) hk _)
          have keep0 := mkS _ (Below.refl W4.heap.size W4).drew
          have keepY := mkS _ ((Below.refl W4.heap.size W4).alloc (Nat.le_refl _) (.cells #[.int .i64 0, .int .i64 0] 32)).drew
          have atR := fun (W : World) (h : (Below W4.heap.size W4 W ∧ W.cell? ⟨u4.heap.size, 0, none⟩ = some (.int .i64 n2) ∧ W.cell? ⟨u4.heap.size, 1, none⟩ = some (.int .i64 d2) ∧ W.cell? ⟨g, o + j * 2, none⟩ = some (.int .i64 l[j].1))) => R.out.grow h.1
          have tok0 : True := trivial
          have tok1 : True := trivial
          go_region_held3 (fun w' => (Below W4.heap.size W4 w' ∧ w'.cell? ⟨u4.heap.size, 0, none⟩ = some (.int .i64 n2) ∧ w'.cell? ⟨u4.heap.size, 1, none⟩ = some (.int .i64 d2) ∧ w'.cell? ⟨g, o + j * 2, none⟩ = some (.int .i64 l[j].1))) (first | exact keep0 | exact keepY | exact hs0 | exact hs1 | (have _q := hs0; exact held _ _ ((Below.refl _ _).alloc (Nat.le_refl _) _) hs0) | (have _q := hs1; exact held _ _ ((Below.refl _ _).alloc (Nat.le_refl _) _) hs1) | (have _q := hs1; exact heldSet _ _ _ _ _ (by omega) rfl hs1)) (first | (have _t := tok0; clear tok0 _t; go_at_call 18; refine (frac_any _ _).mono ?_; rintro e x0 ⟨rfl, b0⟩; have hs0 := held _ _ b0 (by assumption); have hz0 := hs0.1.size; (first | (have zz := top_two (u := .int .i64 0) (v := .int .i64 0) (t := 32) b0) | (have zz := top_two_drew (u := .int .i64 0) (v := .int .i64 0) (t := 32) b0) | (replace zz := later_two b0 zz) | skip); (try simp only [World.size_alloc] at zz)) | (have _t := tok1; clear tok1 _t; go_at_call 21; refine (implFracMul_any _ _ _ _ _).mono ?_; rintro e x1 ⟨n5, d5, ok5, rfl, hr5, b1⟩; have hs1 := held _ _ b1 (by assumption); have hz1 := hs1.1.size; (first | (have zz := top_two (u := .int .i64 0) (v := .int .i64 0) (t := 32) b1) | (have zz := top_two_drew (u := .int .i64 0) (v := .int .i64 0) (t := 32) b1) | (replace zz := later_two b1 zz) | skip); (try simp only [World.size_alloc] at zz)))
          all_goals
            clear keep0 keepY held heldSet
            have S5 : St W4 x1 [] := ⟨hs1.1, trivial⟩
            first
              | (
                  fail_if_success (have q := zz)
                  go_wp2
                  go_meet
                  exact TwoMid.mk hr5 (S5.alloc _ _))
              | (
                  go_wp2
                  go_meet
                  exact TwoMid.mk hr5 (St.put2 (St.put zz S5) (by omega) (by simp only [Apart]) _ _))
        case rest =>
          revert hcut
          revert wc
          intro u5 hcut
          obtain ⟨k5, n9, d9, ok, rfl, rfl, hr, S5⟩ := hcut
          replace R := Lib.hid (R.out.grow S5.below)
          replace S := S.more S5
          clear S5
          clear r
          have r := S.holds
          simp only [Holds, and_true] at r
          try simp only [World.size_alloc] at r
          have hV : fq n2 d2 * fq (x - l[j].1) 1 = ((x : Rat) - (l[j].1 : Rat)) * sl l[j] l[j + 1] := by rw [HQ2.out, QX.out, Rat.mul_comm]
          obtain ⟨rfl, hf9, hq9⟩ := res_got hr (by rw [HF2.out, FX]; rfl) (by rw [hV]; exact EF.out)
          have HF9 := Lib.hid hf9; have HQ9 := Lib.hid (hq9.trans hV)
          clear hf9 hq9 hr hV c3 Sc0 Sc1
          obtain ⟨c3, c4⟩ := R.out.cells j hj0
          clear c3
          have Ec0 := r.1.1
          have Ec1 := r.1.2.1
          go_upto_region 13 with fail
          go_cut [14, 15] (fun s0 s1 wx => TwoMid (fv l[j].2 1 && fv n9 d9) (fq l[j].2 1 + fq n9 d9) u5 [] s0 s1 wx)
          case first =>
            have mkS : ∀ w' : World, Below u5.heap.size u5 w' → (Below u5.heap.size u5 w' ∧ w'.cell? ⟨g, o + j * 2 + 1, none⟩ = some (.int .i64 l[j].2) ∧ w'.cell? ⟨k5, 0, none⟩ = some (.int .i64 n9) ∧ w'.cell? ⟨k5, 1, none⟩ = some (.int .i64 d9)) := fun w' b => ⟨b, (b.cell (cell_below c4)).trans c4, (b.cell (cell_below Ec0)).trans Ec0, (b.cell (cell_below Ec1)).trans Ec1⟩
            have held : ∀ W w' : World, Below W.heap.size W w' → (Below u5.heap.size u5 W ∧ W.cell? ⟨g, o + j * 2 + 1, none⟩ = some (.int .i64 l[j].2) ∧ W.cell? ⟨k5, 0, none⟩ = some (.int .i64 n9) ∧ W.cell? ⟨k5, 1, none⟩ = some (.int .i64 d9)) → (Below u5.heap.size u5 w' ∧ w'.cell? ⟨g, o + j * 2 + 1, none⟩ = some (.int .i64 l[j].2) ∧ w'.cell? ⟨k5, 0, none⟩ = some (.int .i64 n9) ∧ w'.cell? ⟨k5, 1, none⟩ = some (.int .i64 d9)) := fun W w' b h => mkS w' (h.1.trans (b.mono h.1.size))
            have heldSet : ∀ (W w' : World) (k' : Nat) (x y : Int), u5.heap.size ≤ k' → w' = (W.setCell ⟨k', 0, none⟩ (.int .i64 x)).setCell ⟨k', 1, none⟩ (.int .i64 y) → (Below u5.heap.size u5 W ∧ W.cell? ⟨g, o + j * 2 + 1, none⟩ = some (.int .i64 l[j].2) ∧ W.cell? ⟨k5, 0, none⟩ = some (.int .i64 n9) ∧ W.cell? ⟨k5, 1, none⟩ = some (.int .i64 d9)) → (Below u5.heap.size u5 w' ∧ w'.cell? ⟨g, o + j * 2 + 1, none⟩ = some (.int .i64 l[j].2) ∧ w'.cell? ⟨k5, 0, none⟩ = some (.int .i64 n9) ∧ w'.cell? ⟨k5, 1, none⟩ = some (.int .i64 d9)) := fun W w' k' x y hk e h => by
              subst e
              exact mkS _ ((h.1.setCell (p := ⟨k', 0, none⟩) hk _).setCell (p := ⟨k', 1, none⟩) hk _)
            have keep0 := mkS _ (Below.refl u5.heap.size u5).drew
            have keepY := mkS _ ((Below.refl u5.heap.size u5).alloc (Nat.le_refl _) (.cells #[.int .i64 0, .int .i64 0] 32)).drew
            have atR := fun (W : World) (h : (Below u5.heap.size u5 W ∧ W.cell? ⟨g, o + j * 2 + 1, none⟩ = some (.int .i64 l[j].2) ∧ W.cell? ⟨k5, 0, none⟩ = some (.int .i64 n9) ∧ W.cell? ⟨k5, 1, none⟩ = some (.int .i64 d9))) => R.out.grow h.1
            have tok0 : True := trivial
            have tok1 : True := trivial
            go_region_held3 (fun w' => (Below u5.heap.size u5 w' ∧ w'.cell? ⟨g, o + j * 2 + 1, none⟩ = some (.int .i64 l[j].2) ∧ w'.cell? ⟨k5, 0, none⟩ = some (.int .i64 n9) ∧ w'.cell? ⟨k5, 1, none⟩ = some (.int .i64 d9))) (first | exact keep0 | exact keepY | exact hs0 | exact hs1 | (have _q := hs0; exact held _ _ ((Below.refl _ _).alloc (Nat.le_refl _) _) hs0) | (have _q := hs1; exact held _ _ ((Below.refl _ _).alloc (Nat.le_refl _) _) hs1) | (have _q := hs1; exact heldSet _ _ _ _ _ (by omega) rfl hs1)) (first | (have _t := tok0; clear tok0 _t; go_at_call 18; refine (frac_any _ _).mono ?_; rintro e x0 ⟨rfl, b0⟩; have hs0 := held _ _ b0 (by assumption); have hz0 := hs0.1.size; (first | (have zz := top_two (u := .int .i64 0) (v := .int .i64 0) (t := 32) b0) | (have zz := top_two_drew (u := .int .i64 0) (v := .int .i64 0) (t := 32) b0) | (replace zz := later_two b0 zz) | skip); (try simp only [World.size_alloc] at zz)) | (have _t := tok1; clear tok1 _t; go_at_call 22; refine (implFracAdd_any _ _ _ _ _).mono ?_; rintro e x1 ⟨n6, d6, ok6, rfl, hr6, b1⟩; have hs1 := held _ _ b1 (by assumption); have hz1 := hs1.1.size; (first | (have zz := top_two (u := .int .i64 0) (v := .int .i64 0) (t := 32) b1) | (have zz := top_two_drew (u := .int .i64 0) (v := .int .i64 0) (t := 32) b1) | (replace zz := later_two b1 zz) | skip); (try simp only [World.size_alloc] at zz)))
            all_goals
              clear keep0 keepY held heldSet
              have S5 : St u5 x1 [] := ⟨hs1.1, trivial⟩
              first
                | (
                    fail_if_success (have q := zz)
                    go_wp2
                    go_meet
                    exact TwoMid.mk hr6 (S5.alloc _ _))
                | (
                    go_wp2
                    go_meet
                    exact TwoMid.mk hr6 (St.put2 (St.put zz S5) (by omega) (by simp only [Apart]) _ _))
          case rest =>
            revert hcut
            revert wc
            intro u6 hcut
            obtain ⟨k6, nA, dA, ok, rfl, rfl, hr, S5⟩ := hcut
            replace R := Lib.hid (R.out.grow S5.below)
            replace S := S.more S5
            clear S5
            clear r
            have r := S.holds
            simp only [Holds, and_true] at r
            try simp only [World.size_alloc] at r
            have hV : fq l[j].2 1 + fq n9 d9 = cAt l ((x : Int) : Rat) := by rw [HQ9.out, fq_whole, EX.out]
            obtain ⟨rfl, hfA, hqA⟩ := res_got hr (by rw [HF9.out, FY]; rfl) (by rw [hV]; exact cAt_fits HO.out)
            obtain ⟨rfl, rfl⟩ := fq_inj hfA HF.out (by rw [hqA, hV, HQ.out])
            clear hfA hqA hr hV
            go_wp2_with fail
            go_ret
            exact ⟨by first | rfl | (simp; done) | (simp; omega), S.below⟩
    · have h2i : ¬ (j : Int) + 2 < (m : Int) + 1 := by omega
      obtain rfl : j + 1 = m := by omega
      have hi : x ≤ l[j + 1].1 := ix.2
      have a8 : (j : Int) < (j : Int) + 1 + 1 := by omega
      have a9 : j < j + 1 + 1 := by omega
      go_upto_region 11 with fail
      have AT := Lib.hid (at_seg HC.out j hj1 (Rat.intCast_le_intCast.2 lo) (Rat.intCast_le_intCast.2 hi))
      have dj := isCurve_dp HC.out j hj0
      have dk := isCurve_dp HC.out (j + 1) hj1
      obtain ⟨ux, uy⟩ := isCurve_up HC.out j hj1
      have SF := Lib.hid (sl_fits dj dk ux uy)
      have SV : Hid (slopeV l j = true) := Lib.hid (by unfold slopeV; rw [HC.out, decide_eq_true (show (0 : Int) ≤ j by omega), decide_eq_true (show (j : Int) < (l.length : Int) - 1 by omega)]; rfl)
      have SR := Lib.hid (slopeR_is hj1)
      have EX : Hid ((l[j].2 : Rat) + ((x : Rat) - (l[j].1 : Rat)) * sl l[j] l[j + 1] = cAt l ((x : Int) : Rat)) := Lib.hid (by rw [AT.out, seg_parts])
      have EF : Hid (fits (((x : Rat) - (l[j].1 : Rat)) * sl l[j] l[j + 1]) = true) := Lib.hid (fits_part (a := l[j].2) (by rw [EX.out]; exact cAt_fits HO.out) dj.2.2.1 (Rat.mul_nonneg (by have := rat_le lo; grind) (sl_nonneg ux uy)))
      have b1 : IntKind.i64.wrap (x - l[j].1) = x - l[j].1 := IntWalk.i64_in _ (by omega)
      have FX := dp_fv (n := x - l[j].1) (by omega) (by omega)
      have FY := dp_fv dj.2.2.1 dj.2.2.2
      have QX : Hid (fq (x - l[j].1) 1 = (x : Rat) - (l[j].1 : Rat)) := Lib.hid (by rw [fq_whole, Rat.intCast_sub])
      clear c1 c2
      go_wp2_with fail
      refine (got_yes (implCurveSlope_any j (wf_small (by omega) (by omega)) R.out) SV.out (by rw [SR.out]; exact SF.out)).mono ?_
      rintro e u4 ⟨n2, d2, rfl, hf2, hq2, b4⟩
      replace R := Lib.hid ((R.out.grow b4).alloc n2 d2 32)
      replace S := (S.next b4).alloc n2 d2
      clear b4
      clear r
      have r := S.holds
      simp only [Holds, and_true] at r
      try simp only [World.size_alloc] at r
      have HF2 := Lib.hid hf2; have HQ2 := Lib.hid (hq2.trans SR.out)
      clear hf2 hq2
      obtain ⟨c3, c4⟩ := R.out.cells j hj0
      have Sc0 := r.1.1
      have Sc1 := r.1.2.1
      clear c4
      go_upto_region 12 with fail
      generalize (u4.alloc (.cells #[.int .i64 n2, .int .i64 d2] 32)) = W4 at S R Sc0 Sc1 c3 r ⊢
      go_cut [12, 13] (fun s0 s1 wx => TwoMid (fv n2 d2 && fv (x - l[j].1) 1) (fq n2 d2 * fq (x - l[j].1) 1) W4 [] s0 s1 wx)
      case first =>
        have mkS : ∀ w' : World, Below W4.heap.size W4 w' → (Below W4.heap.size W4 w' ∧ w'.cell? ⟨u4.heap.size, 0, none⟩ = some (.int .i64 n2) ∧ w'.cell? ⟨u4.heap.size, 1, none⟩ = some (.int .i64 d2) ∧ w'.cell? ⟨g, o + j * 2, none⟩ = some (.int .i64 l[j].1)) := fun w' b => ⟨b, (b.cell (cell_below Sc0)).trans Sc0, (b.cell (cell_below Sc1)).trans Sc1, (b.cell (cell_below c3)).trans c3⟩
        have held : ∀ W w' : World, Below W.heap.size W w' → (Below W4.heap.size W4 W ∧ W.cell? ⟨u4.heap.size, 0, none⟩ = some (.int .i64 n2) ∧ W.cell? ⟨u4.heap.size, 1, none⟩ = some (.int .i64 d2) ∧ W.cell? ⟨g, o + j * 2, none⟩ = some (.int .i64 l[j].1)) → (Below W4.heap.size W4 w' ∧ w'.cell? ⟨u4.heap.size, 0, none⟩ = some (.int .i64 n2) ∧ w'.cell? ⟨u4.heap.size, 1, none⟩ = some (.int .i64 d2) ∧ w'.cell? ⟨g, o + j * 2, none⟩ = some (.int .i64 l[j].1)) := fun W w' b h => mkS w' (h.1.trans (b.mono h.1.size))
        have heldSet : ∀ (W w' : World) (k' : Nat) (x y : Int), W4.heap.size ≤ k' → w' = (W.setCell ⟨k', 0, none⟩ (.int .i64 x)).setCell ⟨k', 1, none⟩ (.int .i64 y) → (Below W4.heap.size W4 W ∧ W.cell? ⟨u4.heap.size, 0, none⟩ = some (.int .i64 n2) ∧ W.cell? ⟨u4.heap.size, 1, none⟩ = some (.int .i64 d2) ∧ W.cell? ⟨g, o + j * 2, none⟩ = some (.int .i64 l[j].1)) → (Below W4.heap.size W4 w' ∧ w'.cell? ⟨u4.heap.size, 0, none⟩ = some (.int .i64 n2) ∧ w'.cell? ⟨u4.heap.size, 1, none⟩ = some (.int .i64 d2) ∧ w'.cell? ⟨g, o + j * 2, none⟩ = some (.int .i64 l[j].1)) := fun W w' k' x y hk e h => by
          subst e
          exact mkS _ ((h.1.setCell (p := ⟨k', 0, none⟩) hk _).setCell (p := ⟨k', 1, none⟩) hk _)
        have keep0 := mkS _ (Below.refl W4.heap.size W4).drew
        have keepY := mkS _ ((Below.refl W4.heap.size W4).alloc (Nat.le_refl _) (.cells #[.int .i64 0, .int .i64 0] 32)).drew
        have atR := fun (W : World) (h : (Below W4.heap.size W4 W ∧ W.cell? ⟨u4.heap.size, 0, none⟩ = some (.int .i64 n2) ∧ W.cell? ⟨u4.heap.size, 1, none⟩ = some (.int .i64 d2) ∧ W.cell? ⟨g, o + j * 2, none⟩ = some (.int .i64 l[j].1))) => R.out.grow h.1
        have tok0 : True := trivial
        have tok1 : True := trivial
        go_region_held3 (fun w' => (Below W4.heap.size W4 w' ∧ w'.cell? ⟨u4.heap.size, 0, none⟩ = some (.int .i64 n2) ∧ w'.cell? ⟨u4.heap.size, 1, none⟩ = some (.int .i64 d2) ∧ w'.cell? ⟨g, o + j * 2, none⟩ = some (.int .i64 l[j].1))) (first | exact keep0 | exact keepY | exact hs0 | exact hs1 | (have _q := hs0; exact held _ _ ((Below.refl _ _).alloc (Nat.le_refl _) _) hs0) | (have _q := hs1; exact held _ _ ((Below.refl _ _).alloc (Nat.le_refl _) _) hs1) | (have _q := hs1; exact heldSet _ _ _ _ _ (by omega) rfl hs1)) (first | (have _t := tok0; clear tok0 _t; go_at_call 18; refine (frac_any _ _).mono ?_; rintro e x0 ⟨rfl, b0⟩; have hs0 := held _ _ b0 (by assumption); have hz0 := hs0.1.size; (first | (have zz := top_two (u := .int .i64 0) (v := .int .i64 0) (t := 32) b0) | (have zz := top_two_drew (u := .int .i64 0) (v := .int .i64 0) (t := 32) b0) | (replace zz := later_two b0 zz) | skip); (try simp only [World.size_alloc] at zz)) | (have _t := tok1; clear tok1 _t; go_at_call 21; refine (implFracMul_any _ _ _ _ _).mono ?_; rintro e x1 ⟨n5, d5, ok5, rfl, hr5, b1⟩; have hs1 := held _ _ b1 (by assumption); have hz1 := hs1.1.size; (first | (have zz := top_two (u := .int .i64 0) (v := .int .i64 0) (t := 32) b1) | (have zz := top_two_drew (u := .int .i64 0) (v := .int .i64 0) (t := 32) b1) | (replace zz := later_two b1 zz) | skip); (try simp only [World.size_alloc] at zz)))
        all_goals
          clear keep0 keepY held heldSet
          have S5 : St W4 x1 [] := ⟨hs1.1, trivial⟩
          first
            | (
                fail_if_success (have q := zz)
                go_wp2
                go_meet
                exact TwoMid.mk hr5 (S5.alloc _ _))
            | (
                go_wp2
                go_meet
                exact TwoMid.mk hr5 (St.put2 (St.put zz S5) (by omega) (by simp only [Apart]) _ _))
      case rest =>
        revert hcut
        revert wc
        intro u5 hcut
        obtain ⟨k5, n9, d9, ok, rfl, rfl, hr, S5⟩ := hcut
        replace R := Lib.hid (R.out.grow S5.below)
        replace S := S.more S5
        clear S5
        clear r
        have r := S.holds
        simp only [Holds, and_true] at r
        try simp only [World.size_alloc] at r
        have hV : fq n2 d2 * fq (x - l[j].1) 1 = ((x : Rat) - (l[j].1 : Rat)) * sl l[j] l[j + 1] := by rw [HQ2.out, QX.out, Rat.mul_comm]
        obtain ⟨rfl, hf9, hq9⟩ := res_got hr (by rw [HF2.out, FX]; rfl) (by rw [hV]; exact EF.out)
        have HF9 := Lib.hid hf9; have HQ9 := Lib.hid (hq9.trans hV)
        clear hf9 hq9 hr hV c3 Sc0 Sc1
        obtain ⟨c3, c4⟩ := R.out.cells j hj0
        clear c3
        have Ec0 := r.1.1
        have Ec1 := r.1.2.1
        go_upto_region 13 with fail
        go_cut [14, 15] (fun s0 s1 wx => TwoMid (fv l[j].2 1 && fv n9 d9) (fq l[j].2 1 + fq n9 d9) u5 [] s0 s1 wx)
        case first =>
          have mkS : ∀ w' : World, Below u5.heap.size u5 w' → (Below u5.heap.size u5 w' ∧ w'.cell? ⟨g, o + j * 2 + 1, none⟩ = some (.int .i64 l[j].2) ∧ w'.cell? ⟨k5, 0, none⟩ = some (.int .i64 n9) ∧ w'.cell? ⟨k5, 1, none⟩ = some (.int .i64 d9)) := fun w' b => ⟨b, (b.cell (cell_below c4)).trans c4, (b.cell (cell_below Ec0)).trans Ec0, (b.cell (cell_below Ec1)).trans Ec1⟩
          have held : ∀ W w' : World, Below W.heap.size W w' → (Below u5.heap.size u5 W ∧ W.cell? ⟨g, o + j * 2 + 1, none⟩ = some (.int .i64 l[j].2) ∧ W.cell? ⟨k5, 0, none⟩ = some (.int .i64 n9) ∧ W.cell? ⟨k5, 1, none⟩ = some (.int .i64 d9)) → (Below u5.heap.size u5 w' ∧ w'.cell? ⟨g, o + j * 2 + 1, none⟩ = some (.int .i64 l[j].2) ∧ w'.cell? ⟨k5, 0, none⟩ = some (.int .i64 n9) ∧ w'.cell? ⟨k5, 1, none⟩ = some (.int .i64 d9)) := fun W w' b h => mkS w' (h.1.trans (b.mono h.1.size))
          have heldSet : ∀ (W w' : World) (k' : Nat) (x y : Int), u5.heap.size ≤ k' → w' = (W.setCell ⟨k', 0, none⟩ (.int .i64 x)).setCell ⟨k', 1, none⟩ (.int .i64 y) → (Below u5.heap.size u5 W ∧ W.cell? ⟨g, o + j * 2 + 1, none⟩ = some (.int .i64 l[j].2) ∧ W.cell? ⟨k5, 0, none⟩ = some (.int .i64 n9) ∧ W.cell? ⟨k5, 1, none⟩ = some (.int .i64 d9)) → (Below u5.heap.size u5 w' ∧ w'.cell? ⟨g, o + j * 2 + 1, none⟩ = some (.int .i64 l[j].2) ∧ w'.cell? ⟨k5, 0, none⟩ = some (.int .i64 n9) ∧ w'.cell? ⟨k5, 1, none⟩ = some (.int .i64 d9)) := fun W w' k' x y hk e h => by
            subst e
            exact mkS _ ((h.1.setCell (p := ⟨k', 0, none⟩) hk _).setCell (p := ⟨k', 1, none⟩) hk _)
          have keep0 := mkS _ (Below.refl u5.heap.size u5).drew
          have keepY := mkS _ ((Below.refl u5.heap.size u5).alloc (Nat.le_refl _) (.cells #[.int .i64 0, .int .i64 0] 32)).drew
          have atR := fun (W : World) (h : (Below u5.heap.size u5 W ∧ W.cell? ⟨g, o + j * 2 + 1, none⟩ = some (.int .i64 l[j].2) ∧ W.cell? ⟨k5, 0, none⟩ = some (.int .i64 n9) ∧ W.cell? ⟨k5, 1, none⟩ = some (.int .i64 d9))) => R.out.grow h.1
          have tok0 : True := trivial
          have tok1 : True := trivial
          go_region_held3 (fun w' => (Below u5.heap.size u5 w' ∧ w'.cell? ⟨g, o + j * 2 + 1, none⟩ = some (.int .i64 l[j].2) ∧ w'.cell? ⟨k5, 0, none⟩ = some (.int .i64 n9) ∧ w'.cell? ⟨k5, 1, none⟩ = some (.int .i64 d9))) (first | exact keep0 | exact keepY | exact hs0 | exact hs1 | (have _q := hs0; exact held _ _ ((Below.refl _ _).alloc (Nat.le_refl _) _) hs0) | (have _q := hs1; exact held _ _ ((Below.refl _ _).alloc (Nat.le_refl _) _) hs1) | (have _q := hs1; exact heldSet _ _ _ _ _ (by omega) rfl hs1)) (first | (have _t := tok0; clear tok0 _t; go_at_call 18; refine (frac_any _ _).mono ?_; rintro e x0 ⟨rfl, b0⟩; have hs0 := held _ _ b0 (by assumption); have hz0 := hs0.1.size; (first | (have zz := top_two (u := .int .i64 0) (v := .int .i64 0) (t := 32) b0) | (have zz := top_two_drew (u := .int .i64 0) (v := .int .i64 0) (t := 32) b0) | (replace zz := later_two b0 zz) | skip); (try simp only [World.size_alloc] at zz)) | (have _t := tok1; clear tok1 _t; go_at_call 22; refine (implFracAdd_any _ _ _ _ _).mono ?_; rintro e x1 ⟨n6, d6, ok6, rfl, hr6, b1⟩; have hs1 := held _ _ b1 (by assumption); have hz1 := hs1.1.size; (first | (have zz := top_two (u := .int .i64 0) (v := .int .i64 0) (t := 32) b1) | (have zz := top_two_drew (u := .int .i64 0) (v := .int .i64 0) (t := 32) b1) | (replace zz := later_two b1 zz) | skip); (try simp only [World.size_alloc] at zz)))
          all_goals
            clear keep0 keepY held heldSet
            have S5 : St u5 x1 [] := ⟨hs1.1, trivial⟩
            first
              | (
                  fail_if_success (have q := zz)
                  go_wp2
                  go_meet
                  exact TwoMid.mk hr6 (S5.alloc _ _))
              | (
                  go_wp2
                  go_meet
                  exact TwoMid.mk hr6 (St.put2 (St.put zz S5) (by omega) (by simp only [Apart]) _ _))
        case rest =>
          revert hcut
          revert wc
          intro u6 hcut
          obtain ⟨k6, nA, dA, ok, rfl, rfl, hr, S5⟩ := hcut
          replace R := Lib.hid (R.out.grow S5.below)
          replace S := S.more S5
          clear S5
          clear r
          have r := S.holds
          simp only [Holds, and_true] at r
          try simp only [World.size_alloc] at r
          have hV : fq l[j].2 1 + fq n9 d9 = cAt l ((x : Int) : Rat) := by rw [HQ9.out, fq_whole, EX.out]
          obtain ⟨rfl, hfA, hqA⟩ := res_got hr (by rw [HF9.out, FY]; rfl) (by rw [hV]; exact cAt_fits HO.out)
          obtain ⟨rfl, rfl⟩ := fq_inj hfA HF.out (by rw [hqA, hV, HQ.out])
          clear hfA hqA hr hV
          go_wp2_with fail
          go_ret
          exact ⟨by first | rfl | (simp; done) | (simp; omega), S.below⟩

set_option maxRecDepth 100000 in
theorem lifted (os : Os) (started : os.Started) (H : Type) (enc : TypeId × Value → H) :
    ReturnsInHanded {} Try.checked os 6 .any (Rows.fnAtSlopeSpec.pre6 enc Try.prog Try.f6 Rows.fnAtSlopeRow.domain false) (Rows.fnAtSlopeSpec.post enc Try.prog Try.f6 false true false false) := by
  refine returnsInHanded_of_change (C := Try.checked) own started (by kernel_rfl) Try.func6
    (ChangeSpec.witness6 (enc := enc) (C := Try.checked) false ⟨#[], #[.slice none 0 0], []⟩ 8 (by kernel_rfl) (by kernel_rfl) (by kernel_rfl) (by kernel_rfl)) ?_
  intro W base args ds gs before hval0 hW hcnd _
  have hval : ∀ (j : Nat) t v, Try.f6.params[j]? = some t → args[j]? = some v → Value.okWide Try.prog W .any base t v := hval0
  have hW' := hW
  obtain ⟨p, q, hA0, hV, rfl, hfz, hnd⟩ := hW
  have hA : DataW.TrodAll enc Try.prog W 0 (fun _ => true) true Try.f6.params.toList args.toList ds p := hA0
  rw [Try.params6] at hA hval
  obtain ⟨v0, vs0, d0, ds0, p0, q0, hargs, rfl, rfl, h0, r0⟩ := trodAll_cons hA
  obtain ⟨rfl, rfl, rfl⟩ := trodAll_nil r0
  obtain rfl : args = #[v0] := by cases args; simp_all
  obtain ⟨rfl, rfl⟩ := trodVars_none hV
  obtain ⟨a0, len0, cap0, rfl⟩ := okWide_slice Try.underlying22 (hval 0 22 v0 rfl rfl)
  have k0 := h0
  have lt0 : ∀ x ∈ p0, x.block < W.heap.size := by obtain ⟨m, hm⟩ := k0; exact DataW.trod_lt m _ _ _ hm
  obtain ⟨z0, w0⟩ : ∃ zs, IsRow .u8 W a0 len0 cap0 zs := by
    obtain ⟨fuel, hf⟩ := h0
    rcases open_ints Try.underlying22 Try.underlying5 (by kernel_rfl) hf with ⟨hcs, _⟩ | ⟨x, l, c, zs, hcs, _, hl, hm, hz, _, hcell, hwz⟩
    · simp [Value.cells] at hcs
      obtain ⟨rfl, rfl, rfl⟩ := hcs
      exact ⟨[], .inl ⟨rfl, rfl, rfl, rfl⟩⟩
    · simp [Value.cells] at hcs
      obtain ⟨rfl, rfl, rfl⟩ := hcs
      exact ⟨zs, .inr ⟨_, rfl, hl, hm, by simpa using hz, hcell, hwz⟩⟩
  clear hA0 hval0
  refine (walk a0 len0 cap0 z0 W w0).mono fun e W' ⟨he, bel⟩ => ?_
  subst he
  exact ⟨_, rfl, _, _, _, [], _, [], hW', trodAll_mk1 (shut_bool Try.underlying4 _), (trodAll_cons_mk (Below.trod laidOut (by kernel_rfl) (of_decide_eq_true (by kernel_rfl)) k0 bel lt0) trodAll_mk0), rfl, bel.frame _, fun h => by cases h⟩

theorem over : Rows.fnAtSlopeRow.holds Try.pinned (OpenSpec.ofChange Rows.fnAtSlopeSpec) :=
  OpenClaim.holds_of_wide 6 Try.f6 rfl rfl rfl rfl rfl rfl rfl ⟨rfl, rfl, rfl, rfl, rfl⟩ rfl rfl rfl rfl rfl (by kernel_rfl) Try.func6 (by kernel_rfl)
    (of_decide_eq_true (by kernel_rfl)) (by unfold Func.isWrapper; first | (rw [if_pos (by decide +kernel)]; kernel_rfl) | (rw [if_neg (by decide +kernel)]; exact ⟨rfl, rfl⟩))
    (fun os started H enc _ => lifted os started H enc)

/-- ████ THE STATEMENT ████ -/
theorem proved : Rows.FnAtSlopeSaid := over
#print axioms proved
end Go.Proofs.Ythpfehjjaamkkaa.fnAtSlope
