/- For every input, the law FnThenLine of the given statements returns true over the program at this commit, and its arguments read afterwards as before: no condition. -/
import Derived.Test.YthpfehjjaamkkaaRows
import Derived.Test.YthpfehjjaamkkaaLawK
import Derived.WalkKit
import Derived.ProofKit
import Derived.OpenShut
import Derived.ShutString
import Derived.ChangeOld
import Derived.Below
namespace Go.Proofs.Ythpfehjjaamkkaa.fnThenLine
open Go.ChangeShapes Go.WideShapes Go.ChangeAt Go.RowKit
open Go.ChangeMaps (open_string shut_string)
set_option linter.unusedVariables false

theorem own : ownKnob Try.prog.godebug = none := by kernel_rfl
theorem laidOut : laidOutB Try.prog = true := by kernel_rfl

/-- WHAT THE WALK IS TOLD OF A SLICE OF INTEGERS THAT CAME IN: it is nil; or it leads to a row of 'cap' cells, the numbers 'zs' (the first 'len' are its elements, the rest its spare room), each fitting its kind. -/
def IsRow (k : IntKind) (w : World) (a : Option Addr) (len cap : Nat) (zs : List Int) : Prop :=
  (a = none ∧ len = 0 ∧ cap = 0 ∧ zs = []) ∨
  ∃ x, a = some x ∧ len ≤ cap ∧ cap ≤ maxLen ∧ zs.length = cap ∧ (∀ i, i < zs.length → w.cell? (x.add i) = some (.int k (zs.getD i 0))) ∧ ∀ n ∈ zs, (Lit.int k n).wf = true

set_option maxRecDepth 100000 in
set_option maxHeartbeats 3200000 in
theorem walk (a0 : Option Addr) (len0 cap0 : Nat) (z0 : List Int) (w : World) (w0 : IsRow .u8 w a0 len0 cap0 z0) :
    Calls Try.prog 10 #[.slice a0 len0 cap0] w fun e w' => e = .returned (.bool true) ∧ Below w.heap.size w w' := by
  have hB := bytes_of w0
  by_cases hl : 1048576 < len0
  · have hdec : decide (1048576 < len0) = true := by simpa using hl
    go_enter Try.func10, Try.ntmps10
    go_wp2_with fail
    go_ret
    exact ⟨rfl, Below.refl _ _⟩
  have hdec : decide (1048576 < len0) = false := by simpa using hl
  have hm : len0 ≤ 1048576 := by omega
  go_enter Try.func10, Try.ntmps10
  go_wp2_with fail
  refine (DrawCurveThen_any hB).mono ?_
  rintro e u1 ⟨v, u, l, lb, x, rfl, hr, hrb, hbd, hbdb, hl, hlb, hx0, hx1, b1⟩
  clear w0 hB
  have S := St.start b1
  clear b1
  have R := Lib.hid hr
  clear hr
  have RB := Lib.hid hrb
  clear hrb
  have BDB := Lib.hid hbdb
  clear hbdb
  have BD := Lib.hid hbd
  clear hbd
  cases ht : (thenV l lb x && fits (thenR l lb x))
  · have HN := Lib.hid (Bool.and_eq_false_iff.1 ht)
    clear ht
    go_wp2_with fail
    refine (got_no (implCurveThen_any x R.out RB.out) HN.out).mono ?_
    rintro e u2 ⟨rfl, b2⟩
    replace R := Lib.hid ((R.out.grow b2).alloc 0 0 32)
    replace RB := Lib.hid ((RB.out.grow b2).alloc 0 0 32)
    replace S := (S.next b2).alloc 0 0
    clear b2
    have r := S.holds
    simp only [Holds, and_true] at r
    try simp only [World.size_alloc] at r
    go_wp2_with fail
    refine (got_no (specCurveThen_any x R.out RB.out) HN.out).mono ?_
    rintro e u3 ⟨rfl, b3⟩
    replace R := Lib.hid ((R.out.grow b3).alloc 0 0 32)
    replace RB := Lib.hid ((RB.out.grow b3).alloc 0 0 32)
    replace S := (S.next b3).alloc 0 0
    clear b3
    clear r
    have r := S.holds
    simp only [Holds, and_true] at r
    try simp only [World.size_alloc] at r
    go_wp2_with fail
    go_ret
    exact ⟨by simp, S.below⟩
  rw [Bool.and_eq_true] at ht
  have TV := Lib.hid ht.1; have TF := Lib.hid ht.2
  clear ht
  obtain ⟨ho1, ho2⟩ : onC l ((x : Int) : Rat) = true ∧ onC lb (cAt l ((x : Int) : Rat)) = true := by have := TV.out; rwa [thenV, Bool.and_eq_true] at this
  have HO := Lib.hid ho1; have HOB := Lib.hid ho2
  clear ho1 ho2
  go_wp2_with fail
  refine (got_yes (implCurveThen_any x R.out RB.out) TV.out TF.out).mono ?_
  rintro e u2 ⟨n, d, rfl, hf, hq, b2⟩
  replace R := Lib.hid ((R.out.grow b2).alloc n d 32)
  replace RB := Lib.hid ((RB.out.grow b2).alloc n d 32)
  replace S := (S.next b2).alloc n d
  clear b2
  have r := S.holds
  simp only [Holds, and_true] at r
  try simp only [World.size_alloc] at r
  have HF := Lib.hid hf; have HQ := Lib.hid hq
  clear hf hq
  go_wp2_with fail
  refine (got_same (got_yes (specCurveThen_any x R.out RB.out) TV.out TF.out) HF.out HQ.out).mono ?_
  rintro e u3 ⟨rfl, b3⟩
  replace R := Lib.hid ((R.out.grow b3).alloc n d 32)
  replace RB := Lib.hid ((RB.out.grow b3).alloc n d 32)
  replace S := (S.next b3).alloc n d
  clear b3
  clear r
  have r := S.holds
  simp only [Holds, and_true] at r
  try simp only [World.size_alloc] at r
  have HC := Lib.hid (onC_curve HO.out); have HCB := Lib.hid (onC_curve HOB.out)
  go_wp2_with fail
  refine (at_yes R.out HO.out).mono ?_
  rintro e u4 ⟨n2, d2, rfl, hf2, hq2, b4⟩
  replace R := Lib.hid ((R.out.grow b4).alloc n2 d2 32)
  replace RB := Lib.hid ((RB.out.grow b4).alloc n2 d2 32)
  replace S := (S.next b4).alloc n2 d2
  clear b4
  clear r
  have r := S.holds
  simp only [Holds, and_true] at r
  try simp only [World.size_alloc] at r
  have HF2 := Lib.hid hf2; have HQ2 := Lib.hid hq2
  clear hf2 hq2
  have le30 := at_high HO.out
  have ge0 := at_nonneg HO.out
  have TV2 : Hid (thenV l lineL x = true) := Lib.hid (by unfold thenV; rw [HO.out, line_on ge0 le30]; rfl)
  have TR2 : Hid (thenR l lineL x = cAt l ((x : Int) : Rat)) := Lib.hid (line_at le30)
  clear le30 ge0
  go_wp2_with fail
  refine (line_any _).mono ?_
  rintro e u5 ⟨vl, rfl, rl, b5⟩
  replace R := Lib.hid ((R.out.grow b5))
  replace RB := Lib.hid ((RB.out.grow b5))
  replace S := (S.next b5)
  have RL := Lib.hid rl
  clear rl
  clear b5
  clear r
  have r := S.holds
  simp only [Holds, and_true] at r
  try simp only [World.size_alloc] at r
  go_wp2_with fail
  refine (got_same (got_yes (implCurveThen_any x R.out RL.out) TV2.out (by rw [TR2.out]; exact cAt_fits HO.out)) HF2.out (by rw [HQ2.out, TR2.out])).mono ?_
  rintro e u6 ⟨rfl, b6⟩
  replace R := Lib.hid ((R.out.grow b6).alloc n2 d2 32)
  replace RB := Lib.hid ((RB.out.grow b6).alloc n2 d2 32)
  replace RL := Lib.hid ((RL.out.grow b6).alloc n2 d2 32)
  replace S := (S.next b6).alloc n2 d2
  clear b6
  clear r
  have r := S.holds
  simp only [Holds, and_true] at r
  try simp only [World.size_alloc] at r
  obtain ⟨g, o, cp, rfl, hcap, hcapm⟩ := RB.out.known hlb
  unfold maxLen at hcapm
  have h0l : 0 < lb.length := hlb
  have q0 : (0 : Int) < (lb.length : Int) := by omega
  have dB := isCurve_dp HCB.out 0 h0l
  have OB0 := Lib.hid (knot_on HCB.out 0 h0l)
  have AB0 := Lib.hid (knot_at HCB.out 0 h0l)
  have LI : Hid (cAt lineL ((lb[0].1 : Int) : Rat) = ((lb[0].1 : Int) : Rat)) := Lib.hid (line_at (by have := rat_le dB.2.1; have e : ((30000 : Int) : Rat) = 30000 := rfl; rw [e] at this; exact this))
  have LO : Hid (onC lineL ((lb[0].1 : Int) : Rat) = true) := Lib.hid (line_on (by have := rat_le dB.1; have e : ((0 : Int) : Rat) = 0 := rfl; rw [e] at this; exact this) (by have := rat_le dB.2.1; have e : ((30000 : Int) : Rat) = 30000 := rfl; rw [e] at this; exact this))
  have TV3 : Hid (thenV lineL lb lb[0].1 = true) := Lib.hid (by unfold thenV; rw [LO.out, LI.out, OB0.out]; rfl)
  have TR3 : Hid (thenR lineL lb lb[0].1 = ((lb[0].2 : Int) : Rat)) := Lib.hid (by unfold thenR; rw [LI.out, AB0.out])
  obtain ⟨f0, f1⟩ := RB.out.cells 0 h0l
  simp only [Nat.zero_mul, Nat.add_zero] at f0 f1
  go_upto_region 10 with fail
  generalize (u6.alloc (.cells #[.int .i64 n2, .int .i64 d2] 32)) = W6 at S R RB f0 r ⊢
  go_cut [14, 15] (fun s0 s1 wx => TwoMid (thenV lineL lb lb[0].1) (thenR lineL lb lb[0].1) W6 [] s0 s1 wx)
  case first =>
    have mkS : ∀ w' : World, Below W6.heap.size W6 w' → (Below W6.heap.size W6 w' ∧ w'.cell? ⟨g, o, none⟩ = some (.int .i64 lb[0].1)) := fun w' b => ⟨b, (b.cell (cell_below f0)).trans f0⟩
    have held : ∀ W w' : World, Below W.heap.size W w' → (Below W6.heap.size W6 W ∧ W.cell? ⟨g, o, none⟩ = some (.int .i64 lb[0].1)) → (Below W6.heap.size W6 w' ∧ w'.cell? ⟨g, o, none⟩ = some (.int .i64 lb[0].1)) := fun W w' b h => mkS w' (h.1.trans (b.mono h.1.size))
    have heldSet : ∀ (W w' : World) (k' : Nat) (x y : Int), W6.heap.size ≤ k' → w' = (W.setCell ⟨k', 0, none⟩ (.int .i64 x)).setCell ⟨k', 1, none⟩ (.int .i64 y) → (Below W6.heap.size W6 W ∧ W.cell? ⟨g, o, none⟩ = some (.int .i64 lb[0].1)) → (Below W6.heap.size W6 w' ∧ w'.cell? ⟨g, o, none⟩ = some (.int .i64 lb[0].1)) := fun W w' k' x y hk e h => by
      subst e
      exact mkS _ ((h.1.setCell (p := ⟨k', 0, none⟩) hk _).setCell (p := ⟨k', 1, none⟩) hk _)
    have keep0 := mkS _ (Below.refl W6.heap.size W6).drew
    have keepY := mkS _ ((Below.refl W6.heap.size W6).alloc (Nat.le_refl _) (.cells #[.int .i64 0, .int .i64 0] 32)).drew
    have atR := fun (W : World) (h : (Below W6.heap.size W6 W ∧ W.cell? ⟨g, o, none⟩ = some (.int .i64 lb[0].1))) => R.out.grow h.1
    have atRB := fun (W : World) (h : (Below W6.heap.size W6 W ∧ W.cell? ⟨g, o, none⟩ = some (.int .i64 lb[0].1))) => RB.out.grow h.1
    have tok0 : True := trivial
    have tok1 : True := trivial
    go_region_held3 (fun w' => (Below W6.heap.size W6 w' ∧ w'.cell? ⟨g, o, none⟩ = some (.int .i64 lb[0].1))) (first | exact keep0 | exact keepY | exact hs0 | exact hs1 | (have _q := hs0; exact held _ _ ((Below.refl _ _).alloc (Nat.le_refl _) _) hs0) | (have _q := hs1; exact held _ _ ((Below.refl _ _).alloc (Nat.le_refl _) _) hs1) | (have _q := hs1; exact heldSet _ _ _ _ _ (by omega) rfl hs1)) (first | (have _t := tok0; clear tok0 _t; go_at_call 30; refine (line_any _).mono ?_; rintro e x0 ⟨vl2, rfl, rl2, b0⟩; have hs0 := held _ _ b0 (by assumption); have hz0 := hs0.1.size; (first | (have zz := top_two (u := .int .i64 0) (v := .int .i64 0) (t := 32) b0) | (have zz := top_two_drew (u := .int .i64 0) (v := .int .i64 0) (t := 32) b0) | (replace zz := later_two b0 zz) | skip); (try simp only [World.size_alloc] at zz)) | (have _t := tok1; clear tok1 _t; go_at_call 27; refine (implCurveThen_any lb[0].1 (rl2.grow (by go_grown)) (atRB _ (by assumption))).mono ?_; rintro e x1 ⟨n5, d5, ok5, rfl, hr5, b1⟩; have hs1 := held _ _ b1 (by assumption); have hz1 := hs1.1.size; (first | (have zz := top_two (u := .int .i64 0) (v := .int .i64 0) (t := 32) b1) | (have zz := top_two_drew (u := .int .i64 0) (v := .int .i64 0) (t := 32) b1) | (replace zz := later_two b1 zz) | skip); (try simp only [World.size_alloc] at zz)))
    all_goals
      clear keep0 keepY held heldSet
      have S5 : St W6 x1 [] := ⟨hs1.1, trivial⟩
      first
        | (
            fail_if_success (have q := zz)
            go_wp2
            go_meet
            exact TwoMid.mk hr5 (S5.alloc _ _))
        | (
            go_wp2
            go_meet
            exact TwoMid.mk hr5 (St.put2 (St.put zz S5) (by omega) (by simp only [Apart]) _ _))
  case rest =>
    revert hcut
    revert wc
    intro u7 hcut
    obtain ⟨k7, n9, d9, ok, rfl, rfl, hr, S5⟩ := hcut
    replace R := Lib.hid (R.out.grow S5.below)
    replace RB := Lib.hid (RB.out.grow S5.below)
    replace S := S.more S5
    clear S5
    clear r
    have r := S.holds
    simp only [Holds, and_true] at r
    try simp only [World.size_alloc] at r
    obtain ⟨rfl, hf9, hq9⟩ := res_got hr TV3.out (by rw [TR3.out, ← fq_whole]; exact fq_fits (dp_fv dB.2.2.1 dB.2.2.2))
    obtain ⟨rfl, rfl⟩ := fq_inj hf9 (dp_fv dB.2.2.1 dB.2.2.2) (by rw [hq9, fq_whole, TR3.out])
    clear hf9 hq9 hr f0
    have FB := dp_fv dB.2.2.1 dB.2.2.2
    have GE := Lib.hid (decide_eq_false (show ¬ fq n d < fq lb[0].2 1 by rw [HQ.out, fq_whole]; have := (at_between HOB.out h0l).1; unfold thenR; grind))
    replace f1 := (RB.out.cells 0 h0l).2
    simp only [Nat.zero_mul, Nat.add_zero] at f1
    clear dB q0
    have q0 : (0 : Int) < (lb.length : Int) := by omega
    have Wc0 := r.1.1
    have Wc1 := r.1.2.1
    have Zc0 := r.2.1.1
    have Zc1 := r.2.1.2.1
    have Yc0 := r.2.2.1.1
    have Yc1 := r.2.2.1.2.1
    have Oc0 := r.2.2.2.2.1
    have Oc1 := r.2.2.2.2.2.1
    go_upto_region 11 with fail
    have mkS : ∀ w' : World, Below u7.heap.size u7 w' → (Below u7.heap.size u7 w' ∧ w'.cell? ⟨k7, 0, none⟩ = some (.int .i64 lb[0].2) ∧ w'.cell? ⟨k7, 1, none⟩ = some (.int .i64 1) ∧ w'.cell? ⟨u6.heap.size, 0, none⟩ = some (.int .i64 n2) ∧ w'.cell? ⟨u6.heap.size, 1, none⟩ = some (.int .i64 d2) ∧ w'.cell? ⟨u4.heap.size, 0, none⟩ = some (.int .i64 n2) ∧ w'.cell? ⟨u4.heap.size, 1, none⟩ = some (.int .i64 d2) ∧ w'.cell? ⟨u2.heap.size, 0, none⟩ = some (.int .i64 n) ∧ w'.cell? ⟨u2.heap.size, 1, none⟩ = some (.int .i64 d) ∧ w'.cell? ⟨g, o + 1, none⟩ = some (.int .i64 lb[0].2)) := fun w' b => ⟨b, (b.cell (cell_below Wc0)).trans Wc0, (b.cell (cell_below Wc1)).trans Wc1, (b.cell (cell_below Zc0)).trans Zc0, (b.cell (cell_below Zc1)).trans Zc1, (b.cell (cell_below Yc0)).trans Yc0, (b.cell (cell_below Yc1)).trans Yc1, (b.cell (cell_below Oc0)).trans Oc0, (b.cell (cell_below Oc1)).trans Oc1, (b.cell (cell_below f1)).trans f1⟩
    have held : ∀ W w' : World, Below W.heap.size W w' → (Below u7.heap.size u7 W ∧ W.cell? ⟨k7, 0, none⟩ = some (.int .i64 lb[0].2) ∧ W.cell? ⟨k7, 1, none⟩ = some (.int .i64 1) ∧ W.cell? ⟨u6.heap.size, 0, none⟩ = some (.int .i64 n2) ∧ W.cell? ⟨u6.heap.size, 1, none⟩ = some (.int .i64 d2) ∧ W.cell? ⟨u4.heap.size, 0, none⟩ = some (.int .i64 n2) ∧ W.cell? ⟨u4.heap.size, 1, none⟩ = some (.int .i64 d2) ∧ W.cell? ⟨u2.heap.size, 0, none⟩ = some (.int .i64 n) ∧ W.cell? ⟨u2.heap.size, 1, none⟩ = some (.int .i64 d) ∧ W.cell? ⟨g, o + 1, none⟩ = some (.int .i64 lb[0].2)) → (Below u7.heap.size u7 w' ∧ w'.cell? ⟨k7, 0, none⟩ = some (.int .i64 lb[0].2) ∧ w'.cell? ⟨k7, 1, none⟩ = some (.int .i64 1) ∧ w'.cell? ⟨u6.heap.size, 0, none⟩ = some (.int .i64 n2) ∧ w'.cell? ⟨u6.heap.size, 1, none⟩ = some (.int .i64 d2) ∧ w'.cell? ⟨u4.heap.size, 0, none⟩ = some (.int .i64 n2) ∧ w'.cell? ⟨u4.heap.size, 1, none⟩ = some (.int .i64 d2) ∧ w'.cell? ⟨u2.heap.size, 0, none⟩ = some (.int .i64 n) ∧ w'.cell? ⟨u2.heap.size, 1, none⟩ = some (.int .i64 d) ∧ w'.cell? ⟨g, o + 1, none⟩ = some (.int .i64 lb[0].2)) := fun W w' b h => mkS w' (h.1.trans (b.mono h.1.size))
    have keep0 := mkS _ (Below.refl u7.heap.size u7).drew
    have atR := fun (W : World) (h : (Below u7.heap.size u7 W ∧ W.cell? ⟨k7, 0, none⟩ = some (.int .i64 lb[0].2) ∧ W.cell? ⟨k7, 1, none⟩ = some (.int .i64 1) ∧ W.cell? ⟨u6.heap.size, 0, none⟩ = some (.int .i64 n2) ∧ W.cell? ⟨u6.heap.size, 1, none⟩ = some (.int .i64 d2) ∧ W.cell? ⟨u4.heap.size, 0, none⟩ = some (.int .i64 n2) ∧ W.cell? ⟨u4.heap.size, 1, none⟩ = some (.int .i64 d2) ∧ W.cell? ⟨u2.heap.size, 0, none⟩ = some (.int .i64 n) ∧ W.cell? ⟨u2.heap.size, 1, none⟩ = some (.int .i64 d) ∧ W.cell? ⟨g, o + 1, none⟩ = some (.int .i64 lb[0].2))) => R.out.grow h.1
    have atRB := fun (W : World) (h : (Below u7.heap.size u7 W ∧ W.cell? ⟨k7, 0, none⟩ = some (.int .i64 lb[0].2) ∧ W.cell? ⟨k7, 1, none⟩ = some (.int .i64 1) ∧ W.cell? ⟨u6.heap.size, 0, none⟩ = some (.int .i64 n2) ∧ W.cell? ⟨u6.heap.size, 1, none⟩ = some (.int .i64 d2) ∧ W.cell? ⟨u4.heap.size, 0, none⟩ = some (.int .i64 n2) ∧ W.cell? ⟨u4.heap.size, 1, none⟩ = some (.int .i64 d2) ∧ W.cell? ⟨u2.heap.size, 0, none⟩ = some (.int .i64 n) ∧ W.cell? ⟨u2.heap.size, 1, none⟩ = some (.int .i64 d) ∧ W.cell? ⟨g, o + 1, none⟩ = some (.int .i64 lb[0].2))) => RB.out.grow h.1
    have tok0 : True := trivial
    have tok1 : True := trivial
    have tok2 : True := trivial
    go_region_held3 (fun w' => (Below u7.heap.size u7 w' ∧ w'.cell? ⟨k7, 0, none⟩ = some (.int .i64 lb[0].2) ∧ w'.cell? ⟨k7, 1, none⟩ = some (.int .i64 1) ∧ w'.cell? ⟨u6.heap.size, 0, none⟩ = some (.int .i64 n2) ∧ w'.cell? ⟨u6.heap.size, 1, none⟩ = some (.int .i64 d2) ∧ w'.cell? ⟨u4.heap.size, 0, none⟩ = some (.int .i64 n2) ∧ w'.cell? ⟨u4.heap.size, 1, none⟩ = some (.int .i64 d2) ∧ w'.cell? ⟨u2.heap.size, 0, none⟩ = some (.int .i64 n) ∧ w'.cell? ⟨u2.heap.size, 1, none⟩ = some (.int .i64 d) ∧ w'.cell? ⟨g, o + 1, none⟩ = some (.int .i64 lb[0].2))) (first | exact keep0 | exact hs0 | exact hs1 | exact hs2) (first | (have _t := tok0; clear tok0 _t; go_at_call 18; refine (frac_any _ _).mono ?_; rintro e x0 ⟨rfl, b0⟩; have hs0 := held _ _ b0 (by assumption)) | (have _t := tok1; clear tok1 _t; go_at_call 18; refine (frac_any _ _).mono ?_; rintro e x1 ⟨rfl, b1⟩; have hs1 := held _ _ b1 (by assumption)) | (have _t := tok2; clear tok2 _t; go_at_call 19; refine (less_is' HF.out FB GE.out _).mono ?_; rintro e x2 ⟨rfl, b2⟩; have hs2 := held _ _ b2 (by assumption)))
    have B9 := hs2.1
    replace R := Lib.hid (R.out.grow B9)
    replace RB := Lib.hid (RB.out.grow B9)
    replace S := S.next B9
    clear mkS held keep0 B9 atR atRB hs0 b0 hs1 b1 hs2 b2
    clear r
    have r := S.holds
    simp only [Holds, and_true] at r
    try simp only [World.size_alloc] at r
    go_wp2_with fail
    go_ret
    exact ⟨by first | rfl | (simp; done) | (simp; omega), S.below⟩

set_option maxRecDepth 100000 in
theorem lifted (os : Os) (started : os.Started) (H : Type) (enc : TypeId × Value → H) :
    ReturnsInHanded {} Try.checked os 10 .any (Rows.fnThenLineSpec.pre6 enc Try.prog Try.f10 Rows.fnThenLineRow.domain false) (Rows.fnThenLineSpec.post enc Try.prog Try.f10 false true false false) := by
  refine returnsInHanded_of_change (C := Try.checked) own started (by kernel_rfl) Try.func10
    (ChangeSpec.witness6 (enc := enc) (C := Try.checked) false ⟨#[], #[.slice none 0 0], []⟩ 8 (by kernel_rfl) (by kernel_rfl) (by kernel_rfl) (by kernel_rfl)) ?_
  intro W base args ds gs before hval0 hW hcnd _
  have hval : ∀ (j : Nat) t v, Try.f10.params[j]? = some t → args[j]? = some v → Value.okWide Try.prog W .any base t v := hval0
  have hW' := hW
  obtain ⟨p, q, hA0, hV, rfl, hfz, hnd⟩ := hW
  have hA : DataW.TrodAll enc Try.prog W 0 (fun _ => true) true Try.f10.params.toList args.toList ds p := hA0
  rw [Try.params10] at hA hval
  obtain ⟨v0, vs0, d0, ds0, p0, q0, hargs, rfl, rfl, h0, r0⟩ := trodAll_cons hA
  obtain ⟨rfl, rfl, rfl⟩ := trodAll_nil r0
  obtain rfl : args = #[v0] := by cases args; simp_all
  obtain ⟨rfl, rfl⟩ := trodVars_none hV
  obtain ⟨a0, len0, cap0, rfl⟩ := okWide_slice Try.underlying22 (hval 0 22 v0 rfl rfl)
  have k0 := h0
  have lt0 : ∀ x ∈ p0, x.block < W.heap.size := by obtain ⟨m, hm⟩ := k0; exact DataW.trod_lt m _ _ _ hm
  obtain ⟨z0, w0⟩ : ∃ zs, IsRow .u8 W a0 len0 cap0 zs := by
    obtain ⟨fuel, hf⟩ := h0
    rcases open_ints Try.underlying22 Try.underlying5 (by kernel_rfl) hf with ⟨hcs, _⟩ | ⟨x, l, c, zs, hcs, _, hl, hm, hz, _, hcell, hwz⟩
    · simp [Value.cells] at hcs
      obtain ⟨rfl, rfl, rfl⟩ := hcs
      exact ⟨[], .inl ⟨rfl, rfl, rfl, rfl⟩⟩
    · simp [Value.cells] at hcs
      obtain ⟨rfl, rfl, rfl⟩ := hcs
      exact ⟨zs, .inr ⟨_, rfl, hl, hm, by simpa using hz, hcell, hwz⟩⟩
  clear hA0 hval0
  refine (walk a0 len0 cap0 z0 W w0).mono fun e W' ⟨he, bel⟩ => ?_
  subst he
  exact ⟨_, rfl, _, _, _, [], _, [], hW', trodAll_mk1 (shut_bool Try.underlying4 _), (trodAll_cons_mk (Below.trod laidOut (by kernel_rfl) (of_decide_eq_true (by kernel_rfl)) k0 bel lt0) trodAll_mk0), rfl, bel.frame _, fun h => by cases h⟩

theorem over : Rows.fnThenLineRow.holds Try.pinned (OpenSpec.ofChange Rows.fnThenLineSpec) :=
  OpenClaim.holds_of_wide 10 Try.f10 rfl rfl rfl rfl rfl rfl rfl ⟨rfl, rfl, rfl, rfl, rfl⟩ rfl rfl rfl rfl rfl (by kernel_rfl) Try.func10 (by kernel_rfl)
    (of_decide_eq_true (by kernel_rfl)) (by unfold Func.isWrapper; first | (rw [if_pos (by decide +kernel)]; kernel_rfl) | (rw [if_neg (by decide +kernel)]; exact ⟨rfl, rfl⟩))
    (fun os started H enc _ => lifted os started H enc)

/-- ████ THE STATEMENT ████ -/
theorem proved : Rows.FnThenLineSaid := over
#print axioms proved
end Go.Proofs.Ythpfehjjaamkkaa.fnThenLine
