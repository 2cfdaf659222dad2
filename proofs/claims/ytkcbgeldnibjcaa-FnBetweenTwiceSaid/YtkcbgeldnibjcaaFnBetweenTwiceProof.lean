/- For every input, the law FnBetweenTwice of the given statements returns true over the program at this commit, and its arguments read afterwards as before: no condition. -/
import Derived.Test.YtkcbgeldnibjcaaRows
import Derived.Test.YtkcbgeldnibjcaaLawR
import Derived.WalkKit
import Derived.ProofKit
import Derived.OpenShut
import Derived.ShutString
import Derived.ChangeOld
import Derived.Below
namespace Go.Proofs.Ytkcbgeldnibjcaa.fnBetweenTwice
open Go.ChangeShapes Go.WideShapes Go.ChangeAt Go.RowKit
open Go.ChangeMaps (open_string shut_string)
set_option linter.unusedVariables false

theorem own : ownKnob Try.prog.godebug = none := by kernel_rfl
theorem laidOut : laidOutB Try.prog = true := by kernel_rfl

/-- WHAT THE WALK IS TOLD OF A SLICE OF INTEGERS THAT CAME IN: it is nil; or it leads to a row of 'cap' cells, the numbers 'zs' (the first 'len' are its elements, the rest its spare room), each fitting its kind. -/
def IsRow (k : IntKind) (w : World) (a : Option Addr) (len cap : Nat) (zs : List Int) : Prop :=
  (a = none ∧ len = 0 ∧ cap = 0 ∧ zs = []) ∨
  ∃ x, a = some x ∧ len ≤ cap ∧ cap ≤ maxLen ∧ zs.length = cap ∧ (∀ i, i < zs.length → w.cell? (x.add i) = some (.int k (zs.getD i 0))) ∧ ∀ n ∈ zs, (Lit.int k n).wf = true

set_option maxRecDepth 100000 in
set_option maxHeartbeats 3200000 in
theorem walk (a0 : Option Addr) (len0 cap0 : Nat) (z0 : List Int) (w : World) (w0 : IsRow .u8 w a0 len0 cap0 z0) :
    Calls Try.prog 7 #[.slice a0 len0 cap0] w fun e w' => e = .returned (.bool true) ∧ Below w.heap.size w w' := by
  have hB := bytes_of w0
  by_cases hl : 1048576 < len0
  · have hdec : decide (1048576 < len0) = true := by simpa using hl
    go_enter Try.func7, Try.ntmps7
    go_wp2_with fail
    go_ret
    exact ⟨rfl, Below.refl _ _⟩
  have hdec : decide (1048576 < len0) = false := by simpa using hl
  have hm : len0 ≤ 1048576 := by omega
  go_enter Try.func7, Try.ntmps7
  go_wp2_with fail
  refine (DrawRecordBetween_any hB).mono ?_
  rintro e wv1 ⟨v, u, l, a, t, b, rfl, rl, ra, hl2, ha1, t0, t1, b0, b1x, b1⟩
  clear w0 hB
  have S := St.start b1
  clear b1
  have R := Lib.hid (show Rec _ _ _ l a from ⟨rl, ra⟩)
  clear rl ra
  cases hb : bet l a t b with
  | none =>
    have HB := Lib.hid hb
    clear hb
    go_wp2_with fail
    refine (bet_no R.out HB.out).mono ?_
    rintro e wv2 ⟨rfl, b2⟩
    replace R := Lib.hid ((R.out.grow b2).alloc 0 0 30)
    replace S := (S.next b2).alloc 0 0
    clear b2
    have r := S.holds
    simp only [Holds, and_true] at r
    try simp only [World.size_alloc] at r
    go_wp2_with fail
    refine (betS_no R.out HB.out).mono ?_
    rintro e wv3 ⟨rfl, b3⟩
    replace R := Lib.hid ((R.out.grow b3).alloc 0 0 30)
    replace S := (S.next b3).alloc 0 0
    clear b3
    clear r
    have r := S.holds
    simp only [Holds, and_true] at r
    try simp only [World.size_alloc] at r
    go_wp2_with fail
    go_ret
    exact ⟨by simp, S.below⟩
  | some r =>
    have HB := Lib.hid hb
    clear hb
    go_wp2_with fail
    refine (bet_yes R.out HB.out).mono ?_
    rintro e wv2 ⟨n, d, rfl, hf, hq, b2⟩
    replace R := Lib.hid ((R.out.grow b2).alloc n d 30)
    replace S := (S.next b2).alloc n d
    clear b2
    have r := S.holds
    simp only [Holds, and_true] at r
    try simp only [World.size_alloc] at r
    have HF := Lib.hid hf; have HQ := Lib.hid hq
    clear hf hq
    go_wp2_with fail
    refine (got_same (betS_yes R.out HB.out) HF.out HQ.out).mono ?_
    rintro e wv3 ⟨rfl, b3⟩
    replace R := Lib.hid ((R.out.grow b3).alloc n d 30)
    replace S := (S.next b3).alloc n d
    clear b3
    clear r
    have r := S.holds
    simp only [Holds, and_true] at r
    try simp only [World.size_alloc] at r
    obtain ⟨hr, hfit, hv, ht0, htb, hb3⟩ := bet_is HB.out
    have HV := Lib.hid hv; have HR := Lib.hid hr; have FT := Lib.hid hfit
    clear hv hr hfit
    obtain ⟨hL, ha0, ha20⟩ := rec_len HV.out
    obtain ⟨g, o, cp, rfl, hcap, hcapm⟩ := R.out.1.known (by omega)
    obtain ⟨g', o', cp', rfl, hcap', hcapm'⟩ := R.out.2.known (by omega)
    unfold maxLen at hcapm hcapm'
    rw [hL] at hcap
    rw [hL] at R
    rw [hL]
    have HL := Lib.hid hL
    have hl0 : 0 < l.length := by omega
    have hla : a.length < l.length := by omega
    clear hL
    have q0 : (0 : Int) < (a.length : Int) + 1 := by omega
    have q1 : 0 < a.length + 1 := by omega
    have q2 : IntKind.i64.wrap ((a.length : Int) + 1 - 1) = (a.length : Int) := by rw [show (a.length : Int) + 1 - 1 = a.length by omega]; exact IntWalk.i64_in _ (by omega)
    have q2' : IntKind.i64.wrap (a.length : Int) = (a.length : Int) := IntWalk.i64_in _ (by omega)
    have q3 : (0 : Int) ≤ (a.length : Int) := by omega
    have q4 : (a.length : Int) < (a.length : Int) + 1 := by omega
    have q5 : a.length < a.length + 1 := by omega
    go_wp2_with fail
    have O1 : Hid (IOwn ((wv3.alloc (.cells #[.int .i64 n, .int .i64 d] 30)).alloc (.cells #[] 3)) (wv3.alloc (.cells #[.int .i64 n, .int .i64 d] 30)).heap.size (.slice (some ⟨(wv3.alloc (.cells #[.int .i64 n, .int .i64 d] 30)).heap.size, 0, none⟩) 0 0) []) := Lib.hid (iown_new (Nat.le_refl _))
    have BA := (Below.refl (wv3.alloc (.cells #[.int .i64 n, .int .i64 d] 30)).heap.size (wv3.alloc (.cells #[.int .i64 n, .int .i64 d] 30))).alloc (Nat.le_refl _) (.cells #[] 3)
    skip
    go_loopg [11, 12] a.length (fun rr lv z wr => ∃ j : Nat, z = .int .i64 j ∧ j + rr = a.length ∧ IOwn wr (wv3.alloc (.cells #[.int .i64 n, .int .i64 d] 30)).heap.size lv ((a.take j).map (2 * ·)) ∧ Below (wv3.alloc (.cells #[.int .i64 n, .int .i64 d] 30)).heap.size (wv3.alloc (.cells #[.int .i64 n, .int .i64 d] 30)) wr)
    case atStart => exact ⟨0, rfl, by omega, by have := O1.out; simpa only [World.size_alloc, List.take_zero, List.map_nil] using this, BA⟩
    case round =>
      obtain ⟨wv7, rfl⟩ : ∃ x, x = wr := ⟨wr, rfl⟩
      obtain ⟨j, rfl, hk, ho, hb⟩ := hrel
      have K := Lib.hid hk; have O := Lib.hid ho; have B := Lib.hid hb
      have hjl : j ≤ a.length := by omega
      clear hk ho hb O1 BA
      have S7 := S.next B.out
      have R7 := Lib.hid (R.out.grow B.out)
      have hz7 := B.out.size
      by_cases hlt : j < a.length
      · have am := R7.out.2.cells j hlt
        have rm0 := rec_amount HV.out j hlt
        have i1 : (j : Int) < (a.length : Int) := by omega
        have i2 : (0 : Int) ≤ (j : Int) := by omega
        have e1 : IntKind.i64.wrap (2 * a[j]) = 2 * a[j] := IntWalk.i64_in _ (by omega)
        have n1 := new_one wv7 (.int .i64 (2 * a[j])) 3
        have N1 := Lib.hid n1
        have BW := Lib.hid ((Below.refl wv7.heap.size wv7).alloc (Nat.le_refl _) (.cells #[.int .i64 (2 * a[j])] 3))
        clear n1 rm0
        go_wp2_with (at_builtin; refine iappend_one intsT rfl _ _ rfl (B := (wv3.alloc (.cells #[.int .i64 n, .int .i64 d] 30)).heap.size) _ _ rfl (O.out.grow BW.out) ⟨wv7.heap.size, 0, none⟩ (2 * a[j]) rfl N1.out (by rw [List.length_map, List.length_take]; omega) (by simp at hz7 ⊢; omega) ?_; intro v8 w8 hown8 hg8)
        rw [double_take hlt] at hown8
        have O8 := Lib.hid hown8
        have B8 := Lib.hid (B.out.trans ((BW.out.mono hz7).trans ((O.out.grow BW.out).below hg8 (by simp at hz7 ⊢; omega))))
        clear hown8 hg8
        go_wp2_with fail
        go_roundg (gk - 1)
        case measure => have := K.out; omega
        case rel => exact ⟨j + 1, by go_num, by have := K.out; omega, O8.out, B8.out⟩
      · have hj : j = a.length := by omega
        have hd := O.out.row
        rw [hj, List.take_length] at hd
        have RD := Lib.hid hd
        clear hd
        replace R := R7
        replace S := S7
        clear R7 S7 O
        clear r
        have r := S.holds
        simp only [Holds, and_true] at r
        try simp only [World.size_alloc] at r
        cases hY : bet l (a.map (2 * ·)) t b with
        | none =>
          have HBY := Lib.hid hY
          clear hY
          go_wp2_with fail
          refine (bet_no ⟨R.out.1, RD.out⟩ HBY.out).mono ?_
          rintro e wv8 ⟨rfl, b8⟩
          replace R := Lib.hid ((R.out.grow b8).alloc 0 0 30)
          replace RD := Lib.hid ((RD.out.grow b8).alloc 0 0 30)
          replace S := (S.next b8).alloc 0 0
          clear b8
          clear r
          have r := S.holds
          simp only [Holds, and_true] at r
          try simp only [World.size_alloc] at r
          have Oc0 := r.2.2.1
          have Oc1 := r.2.2.2.1
          go_upto_region 14 with fail
          generalize (wv8.alloc (.cells #[.int .i64 0, .int .i64 0] 30)) = W8 at S R RD Oc0 Oc1 r ⊢
          go_cut [15, 16] (fun s0 s1 wx => TwoMid (fv n d && fv 2 1) (fq n d * fq 2 1) W8 [] s0 s1 wx)
          case first =>
            have mkS : ∀ w' : World, Below W8.heap.size W8 w' → (Below W8.heap.size W8 w' ∧ w'.cell? ⟨wv2.heap.size, 0, none⟩ = some (.int .i64 n) ∧ w'.cell? ⟨wv2.heap.size, 1, none⟩ = some (.int .i64 d)) := fun w' b => ⟨b, (b.cell (cell_below Oc0)).trans Oc0, (b.cell (cell_below Oc1)).trans Oc1⟩
            have held : ∀ W w' : World, Below W.heap.size W w' → (Below W8.heap.size W8 W ∧ W.cell? ⟨wv2.heap.size, 0, none⟩ = some (.int .i64 n) ∧ W.cell? ⟨wv2.heap.size, 1, none⟩ = some (.int .i64 d)) → (Below W8.heap.size W8 w' ∧ w'.cell? ⟨wv2.heap.size, 0, none⟩ = some (.int .i64 n) ∧ w'.cell? ⟨wv2.heap.size, 1, none⟩ = some (.int .i64 d)) := fun W w' b h => mkS w' (h.1.trans (b.mono h.1.size))
            have heldSet : ∀ (W w' : World) (k' : Nat) (x y : Int), W8.heap.size ≤ k' → w' = (W.setCell ⟨k', 0, none⟩ (.int .i64 x)).setCell ⟨k', 1, none⟩ (.int .i64 y) → (Below W8.heap.size W8 W ∧ W.cell? ⟨wv2.heap.size, 0, none⟩ = some (.int .i64 n) ∧ W.cell? ⟨wv2.heap.size, 1, none⟩ = some (.int .i64 d)) → (Below W8.heap.size W8 w' ∧ w'.cell? ⟨wv2.heap.size, 0, none⟩ = some (.int .i64 n) ∧ w'.cell? ⟨wv2.heap.size, 1, none⟩ = some (.int .i64 d)) := fun W w' k' x y hk e h => by
              subst e
              exact mkS _ ((h.1.setCell (p := ⟨k', 0, none⟩) hk _).setCell (p := ⟨k', 1, none⟩) hk _)
            have keep0 := mkS _ (Below.refl W8.heap.size W8).drew
            have keepY := mkS _ ((Below.refl W8.heap.size W8).alloc (Nat.le_refl _) (.cells #[.int .i64 0, .int .i64 0] 30)).drew
            have atR := fun (W : World) (h : (Below W8.heap.size W8 W ∧ W.cell? ⟨wv2.heap.size, 0, none⟩ = some (.int .i64 n) ∧ W.cell? ⟨wv2.heap.size, 1, none⟩ = some (.int .i64 d))) => R.out.grow h.1
            have atRD := fun (W : World) (h : (Below W8.heap.size W8 W ∧ W.cell? ⟨wv2.heap.size, 0, none⟩ = some (.int .i64 n) ∧ W.cell? ⟨wv2.heap.size, 1, none⟩ = some (.int .i64 d))) => RD.out.grow h.1
            have tok0 : True := trivial
            have tok1 : True := trivial
            go_region_held3 (fun w' => (Below W8.heap.size W8 w' ∧ w'.cell? ⟨wv2.heap.size, 0, none⟩ = some (.int .i64 n) ∧ w'.cell? ⟨wv2.heap.size, 1, none⟩ = some (.int .i64 d))) (first | exact keep0 | exact keepY | exact hs0 | exact hs1 | (have _q := hs0; exact held _ _ ((Below.refl _ _).alloc (Nat.le_refl _) _) hs0) | (have _q := hs1; exact held _ _ ((Below.refl _ _).alloc (Nat.le_refl _) _) hs1) | (have _q := hs1; exact heldSet _ _ _ _ _ (by omega) rfl hs1)) (first | (have _t := tok0; clear tok0 _t; go_at_call 20; refine (frac_any _ _).mono ?_; rintro e x0 ⟨rfl, b0⟩; have hs0 := held _ _ b0 (by assumption); have hz0 := hs0.1.size; (first | (have zz := top_two (u := .int .i64 0) (v := .int .i64 0) (t := 30) b0) | (have zz := top_two_drew (u := .int .i64 0) (v := .int .i64 0) (t := 30) b0) | (replace zz := later_two b0 zz) | (have zz := later_two (k := W8.heap.size) (u := .int .i64 0) (v := .int .i64 0) b0 ⟨by go_cell, by go_cell, by go_simp, by go_simp, by simp; omega⟩) | skip); (try simp only [World.size_alloc] at zz)) | (have _t := tok1; clear tok1 _t; go_at_call 25; refine (implFracMul_any _ _ _ _ _).mono ?_; rintro e x1 ⟨n5, d5, ok5, rfl, hr5, b1⟩; have hs1 := held _ _ b1 (by assumption); have hz1 := hs1.1.size; (first | (have zz := top_two (u := .int .i64 0) (v := .int .i64 0) (t := 30) b1) | (have zz := top_two_drew (u := .int .i64 0) (v := .int .i64 0) (t := 30) b1) | (replace zz := later_two b1 zz) | (have zz := later_two (k := W8.heap.size) (u := .int .i64 0) (v := .int .i64 0) b1 ⟨by go_cell, by go_cell, by go_simp, by go_simp, by simp; omega⟩) | skip); (try simp only [World.size_alloc] at zz)))
            all_goals
              clear keep0 keepY held heldSet
              have S5 : St W8 x1 [] := ⟨hs1.1, trivial⟩
              first
                | (
                    fail_if_success (have q := zz)
                    go_wp2
                    go_meet
                    exact TwoMid.mk hr5 (S5.alloc _ _))
                | (
                    go_wp2
                    go_meet
                    exact TwoMid.mk hr5 (St.put2 (St.put zz S5) (by omega) (by simp only [Apart]) _ _))
          case rest =>
            revert hcut
            revert wc
            intro wv9 hcut
            obtain ⟨k9, n9, d9, ok, rfl, rfl, hr, S5⟩ := hcut
            replace R := Lib.hid (R.out.grow S5.below)
            replace RD := Lib.hid (RD.out.grow S5.below)
            replace S := S.more S5
            clear S5
            clear r
            have r := S.holds
            simp only [Holds, and_true] at r
            try simp only [World.size_alloc] at r
            go_wp2_with fail
            go_ret
            exact ⟨by first | rfl | (simp; done) | (simp; omega), S.below⟩
        | some rY =>
          have HBY := Lib.hid hY
          clear hY
          go_wp2_with fail
          refine (bet_yes ⟨R.out.1, RD.out⟩ HBY.out).mono ?_
          rintro e wv8 ⟨nY, dY, rfl, hf, hq, b8⟩
          replace R := Lib.hid ((R.out.grow b8).alloc nY dY 30)
          replace RD := Lib.hid ((RD.out.grow b8).alloc nY dY 30)
          replace S := (S.next b8).alloc nY dY
          clear b8
          clear r
          have r := S.holds
          simp only [Holds, and_true] at r
          try simp only [World.size_alloc] at r
          have HFY := Lib.hid hf; have HQY := Lib.hid hq
          clear hf hq
          have Oc0 := r.2.2.1
          have Oc1 := r.2.2.2.1
          go_upto_region 14 with fail
          generalize (wv8.alloc (.cells #[.int .i64 nY, .int .i64 dY] 30)) = W8 at S R RD Oc0 Oc1 r ⊢
          go_cut [15, 16] (fun s0 s1 wx => TwoMid (fv n d && fv 2 1) (fq n d * fq 2 1) W8 [] s0 s1 wx)
          case first =>
            have mkS : ∀ w' : World, Below W8.heap.size W8 w' → (Below W8.heap.size W8 w' ∧ w'.cell? ⟨wv2.heap.size, 0, none⟩ = some (.int .i64 n) ∧ w'.cell? ⟨wv2.heap.size, 1, none⟩ = some (.int .i64 d)) := fun w' b => ⟨b, (b.cell (cell_below Oc0)).trans Oc0, (b.cell (cell_below Oc1)).trans Oc1⟩
            have held : ∀ W w' : World, Below W.heap.size W w' → (Below W8.heap.size W8 W ∧ W.cell? ⟨wv2.heap.size, 0, none⟩ = some (.int .i64 n) ∧ W.cell? ⟨wv2.heap.size, 1, none⟩ = some (.int .i64 d)) → (Below W8.heap.size W8 w' ∧ w'.cell? ⟨wv2.heap.size, 0, none⟩ = some (.int .i64 n) ∧ w'.cell? ⟨wv2.heap.size, 1, none⟩ = some (.int .i64 d)) := fun W w' b h => mkS w' (h.1.trans (b.mono h.1.size))
            have heldSet : ∀ (W w' : World) (k' : Nat) (x y : Int), W8.heap.size ≤ k' → w' = (W.setCell ⟨k', 0, none⟩ (.int .i64 x)).setCell ⟨k', 1, none⟩ (.int .i64 y) → (Below W8.heap.size W8 W ∧ W.cell? ⟨wv2.heap.size, 0, none⟩ = some (.int .i64 n) ∧ W.cell? ⟨wv2.heap.size, 1, none⟩ = some (.int .i64 d)) → (Below W8.heap.size W8 w' ∧ w'.cell? ⟨wv2.heap.size, 0, none⟩ = some (.int .i64 n) ∧ w'.cell? ⟨wv2.heap.size, 1, none⟩ = some (.int .i64 d)) := fun W w' k' x y hk e h => by
              subst e
              exact mkS _ ((h.1.setCell (p := ⟨k', 0, none⟩) hk _).setCell (p := ⟨k', 1, none⟩) hk _)
            have keep0 := mkS _ (Below.refl W8.heap.size W8).drew
            have keepY := mkS _ ((Below.refl W8.heap.size W8).alloc (Nat.le_refl _) (.cells #[.int .i64 0, .int .i64 0] 30)).drew
            have atR := fun (W : World) (h : (Below W8.heap.size W8 W ∧ W.cell? ⟨wv2.heap.size, 0, none⟩ = some (.int .i64 n) ∧ W.cell? ⟨wv2.heap.size, 1, none⟩ = some (.int .i64 d))) => R.out.grow h.1
            have atRD := fun (W : World) (h : (Below W8.heap.size W8 W ∧ W.cell? ⟨wv2.heap.size, 0, none⟩ = some (.int .i64 n) ∧ W.cell? ⟨wv2.heap.size, 1, none⟩ = some (.int .i64 d))) => RD.out.grow h.1
            have tok0 : True := trivial
            have tok1 : True := trivial
            go_region_held3 (fun w' => (Below W8.heap.size W8 w' ∧ w'.cell? ⟨wv2.heap.size, 0, none⟩ = some (.int .i64 n) ∧ w'.cell? ⟨wv2.heap.size, 1, none⟩ = some (.int .i64 d))) (first | exact keep0 | exact keepY | exact hs0 | exact hs1 | (have _q := hs0; exact held _ _ ((Below.refl _ _).alloc (Nat.le_refl _) _) hs0) | (have _q := hs1; exact held _ _ ((Below.refl _ _).alloc (Nat.le_refl _) _) hs1) | (have _q := hs1; exact heldSet _ _ _ _ _ (by omega) rfl hs1)) (first | (have _t := tok0; clear tok0 _t; go_at_call 20; refine (frac_any _ _).mono ?_; rintro e x0 ⟨rfl, b0⟩; have hs0 := held _ _ b0 (by assumption); have hz0 := hs0.1.size; (first | (have zz := top_two (u := .int .i64 0) (v := .int .i64 0) (t := 30) b0) | (have zz := top_two_drew (u := .int .i64 0) (v := .int .i64 0) (t := 30) b0) | (replace zz := later_two b0 zz) | (have zz := later_two (k := W8.heap.size) (u := .int .i64 0) (v := .int .i64 0) b0 ⟨by go_cell, by go_cell, by go_simp, by go_simp, by simp; omega⟩) | skip); (try simp only [World.size_alloc] at zz)) | (have _t := tok1; clear tok1 _t; go_at_call 25; refine (implFracMul_any _ _ _ _ _).mono ?_; rintro e x1 ⟨n5, d5, ok5, rfl, hr5, b1⟩; have hs1 := held _ _ b1 (by assumption); have hz1 := hs1.1.size; (first | (have zz := top_two (u := .int .i64 0) (v := .int .i64 0) (t := 30) b1) | (have zz := top_two_drew (u := .int .i64 0) (v := .int .i64 0) (t := 30) b1) | (replace zz := later_two b1 zz) | (have zz := later_two (k := W8.heap.size) (u := .int .i64 0) (v := .int .i64 0) b1 ⟨by go_cell, by go_cell, by go_simp, by go_simp, by simp; omega⟩) | skip); (try simp only [World.size_alloc] at zz)))
            all_goals
              clear keep0 keepY held heldSet
              have S5 : St W8 x1 [] := ⟨hs1.1, trivial⟩
              first
                | (
                    fail_if_success (have q := zz)
                    go_wp2
                    go_meet
                    exact TwoMid.mk hr5 (S5.alloc _ _))
                | (
                    go_wp2
                    go_meet
                    exact TwoMid.mk hr5 (St.put2 (St.put zz S5) (by omega) (by simp only [Apart]) _ _))
          case rest =>
            revert hcut
            revert wc
            intro wv9 hcut
            obtain ⟨k9, n9, d9, ok, rfl, rfl, hr, S5⟩ := hcut
            replace R := Lib.hid (R.out.grow S5.below)
            replace RD := Lib.hid (RD.out.grow S5.below)
            replace S := S.more S5
            clear S5
            clear r
            have r := S.holds
            simp only [Holds, and_true] at r
            try simp only [World.size_alloc] at r
            have hV : fq n d * fq 2 1 = rY := by rw [(bet_is HBY.out).1, amt_double, ← HR.out, ← HQ.out, fq_whole, Rat.mul_comm]; rfl
            obtain ⟨rfl, hf9, hq9⟩ := res_got hr (by rw [HF.out]; rfl) (by rw [hV]; exact (bet_is HBY.out).2.1)
            obtain ⟨rfl, rfl⟩ := fq_inj hf9 HFY.out (by rw [hq9, hV, HQY.out])
            clear hf9 hq9 hr hV
            go_wp2_with fail
            go_ret
            exact ⟨by first | rfl | (simp; done) | (simp; omega), S.below⟩

set_option maxRecDepth 100000 in
theorem lifted (os : Os) (started : os.Started) (H : Type) (enc : TypeId × Value → H) :
    ReturnsInHanded {} Try.checked os 7 .any (Rows.fnBetweenTwiceSpec.pre6 enc Try.prog Try.f7 Rows.fnBetweenTwiceRow.domain false) (Rows.fnBetweenTwiceSpec.post enc Try.prog Try.f7 false true false false) := by
  refine returnsInHanded_of_change (C := Try.checked) own started (by kernel_rfl) Try.func7
    (ChangeSpec.witness6 (enc := enc) (C := Try.checked) false ⟨#[], #[.slice none 0 0], []⟩ 8 (by kernel_rfl) (by kernel_rfl) (by kernel_rfl) (by kernel_rfl)) ?_
  intro W base args ds gs before hval0 hW hcnd _
  have hval : ∀ (j : Nat) t v, Try.f7.params[j]? = some t → args[j]? = some v → Value.okWide Try.prog W .any base t v := hval0
  have hW' := hW
  obtain ⟨p, q, hA0, hV, rfl, hfz, hnd⟩ := hW
  have hA : DataW.TrodAll enc Try.prog W 0 (fun _ => true) true Try.f7.params.toList args.toList ds p := hA0
  rw [Try.params7] at hA hval
  obtain ⟨v0, vs0, d0, ds0, p0, q0, hargs, rfl, rfl, h0, r0⟩ := trodAll_cons hA
  obtain ⟨rfl, rfl, rfl⟩ := trodAll_nil r0
  obtain rfl : args = #[v0] := by cases args; simp_all
  obtain ⟨rfl, rfl⟩ := trodVars_none hV
  obtain ⟨a0, len0, cap0, rfl⟩ := okWide_slice Try.underlying22 (hval 0 22 v0 rfl rfl)
  have k0 := h0
  have lt0 : ∀ x ∈ p0, x.block < W.heap.size := by obtain ⟨m, hm⟩ := k0; exact DataW.trod_lt m _ _ _ hm
  obtain ⟨z0, w0⟩ : ∃ zs, IsRow .u8 W a0 len0 cap0 zs := by
    obtain ⟨fuel, hf⟩ := h0
    rcases open_ints Try.underlying22 Try.underlying5 (by kernel_rfl) hf with ⟨hcs, _⟩ | ⟨x, l, c, zs, hcs, _, hl, hm, hz, _, hcell, hwz⟩
    · simp [Value.cells] at hcs
      obtain ⟨rfl, rfl, rfl⟩ := hcs
      exact ⟨[], .inl ⟨rfl, rfl, rfl, rfl⟩⟩
    · simp [Value.cells] at hcs
      obtain ⟨rfl, rfl, rfl⟩ := hcs
      exact ⟨zs, .inr ⟨_, rfl, hl, hm, by simpa using hz, hcell, hwz⟩⟩
  clear hA0 hval0
  refine (walk a0 len0 cap0 z0 W w0).mono fun e W' ⟨he, bel⟩ => ?_
  subst he
  exact ⟨_, rfl, _, _, _, [], _, [], hW', trodAll_mk1 (shut_bool Try.underlying4 _), (trodAll_cons_mk (Below.trod laidOut (by kernel_rfl) (of_decide_eq_true (by kernel_rfl)) k0 bel lt0) trodAll_mk0), rfl, bel.frame _, fun h => by cases h⟩

theorem over : Rows.fnBetweenTwiceRow.holds Try.pinned (OpenSpec.ofChange Rows.fnBetweenTwiceSpec) :=
  OpenClaim.holds_of_wide 7 Try.f7 rfl rfl rfl rfl rfl rfl rfl ⟨rfl, rfl, rfl, rfl, rfl⟩ rfl rfl rfl rfl rfl (by kernel_rfl) Try.func7 (by kernel_rfl)
    (of_decide_eq_true (by kernel_rfl)) (by unfold Func.isWrapper; first | (rw [if_pos (by decide +kernel)]; kernel_rfl) | (rw [if_neg (by decide +kernel)]; exact ⟨rfl, rfl⟩))
    (fun os started H enc _ => lifted os started H enc)

/-- ████ THE STATEMENT ████ -/
theorem proved : Rows.FnBetweenTwiceSaid := over
#print axioms proved
end Go.Proofs.Ytkcbgeldnibjcaa.fnBetweenTwice
