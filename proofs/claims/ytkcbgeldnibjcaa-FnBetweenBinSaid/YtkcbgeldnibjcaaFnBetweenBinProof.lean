/- For every input, the law FnBetweenBin of the given statements returns true over the program at this commit, and its arguments read afterwards as before: no condition. -/
import Derived.Test.YtkcbgeldnibjcaaRows
import Derived.Test.YtkcbgeldnibjcaaLawR
import Derived.WalkKit
import Derived.ProofKit
import Derived.OpenShut
import Derived.ShutString
import Derived.ChangeOld
import Derived.Below
namespace Go.Proofs.Ytkcbgeldnibjcaa.fnBetweenBin
open Go.ChangeShapes Go.WideShapes Go.ChangeAt Go.RowKit
open Go.ChangeMaps (open_string shut_string)
set_option linter.unusedVariables false

theorem own : ownKnob Try.prog.godebug = none := by kernel_rfl
theorem laidOut : laidOutB Try.prog = true := by kernel_rfl

/-- WHAT THE WALK IS TOLD OF A SLICE OF INTEGERS THAT CAME IN: it is nil; or it leads to a row of 'cap' cells, the numbers 'zs' (the first 'len' are its elements, the rest its spare room), each fitting its kind. -/
def IsRow (k : IntKind) (w : World) (a : Option Addr) (len cap : Nat) (zs : List Int) : Prop :=
  (a = none ∧ len = 0 ∧ cap = 0 ∧ zs = []) ∨
  ∃ x, a = some x ∧ len ≤ cap ∧ cap ≤ maxLen ∧ zs.length = cap ∧ (∀ i, i < zs.length → w.cell? (x.add i) = some (.int k (zs.getD i 0))) ∧ ∀ n ∈ zs, (Lit.int k n).wf = true

set_option maxRecDepth 100000 in
set_option maxHeartbeats 3200000 in
theorem walk (a0 : Option Addr) (len0 cap0 : Nat) (z0 : List Int) (a1 : Option Addr) (len1 cap1 : Nat) (z1 : List Int) (w : World) (w0 : IsRow .u8 w a0 len0 cap0 z0) (w1 : IsRow .u8 w a1 len1 cap1 z1) :
    Calls Try.prog 6 #[.slice a0 len0 cap0, .slice a1 len1 cap1] w fun e w' => e = .returned (.bool true) ∧ Below w.heap.size w w' := by
  have hB := bytes_of w0
  have hB1 := bytes_len (bytes_of w1)
  unfold maxLen at hB1
  by_cases hl : 1048576 < len0
  · have hdec : decide (1048576 < len0) = true := by simpa using hl
    go_enter Try.func6, Try.ntmps6
    go_wp2_with fail
    go_ret
    exact ⟨rfl, Below.refl _ _⟩
  have hdec : decide (1048576 < len0) = false := by simpa using hl
  by_cases hl1 : 1048576 < len1
  · go_enter Try.func6, Try.ntmps6
    go_wp2_with fail
    go_ret
    exact ⟨rfl, Below.refl _ _⟩
  have hm : len0 ≤ 1048576 := by omega
  have hm1 : len1 ≤ 1048576 := by omega
  clear hB1
  go_enter Try.func6, Try.ntmps6
  go_wp2_with fail
  refine (DrawRecordBetween_any hB).mono ?_
  rintro e wv1 ⟨v, u, l, a, t, b, rfl, rl, ra, hl2, ha1, t0, t1, b0, b1x, b1⟩
  clear w0 w1 hB
  have S := St.start b1
  clear b1
  have R := Lib.hid (show Rec _ _ _ l a from ⟨rl, ra⟩)
  clear rl ra
  cases hb : bet l a t b with
  | none =>
    have HB := Lib.hid hb
    clear hb
    go_wp2_with fail
    refine (bet_no R.out HB.out).mono ?_
    rintro e wv2 ⟨rfl, b2⟩
    replace R := Lib.hid ((R.out.grow b2).alloc 0 0 30)
    replace S := (S.next b2).alloc 0 0
    clear b2
    have r := S.holds
    simp only [Holds, and_true] at r
    try simp only [World.size_alloc] at r
    go_wp2_with fail
    refine (betS_no R.out HB.out).mono ?_
    rintro e wv3 ⟨rfl, b3⟩
    replace R := Lib.hid ((R.out.grow b3).alloc 0 0 30)
    replace S := (S.next b3).alloc 0 0
    clear b3
    clear r
    have r := S.holds
    simp only [Holds, and_true] at r
    try simp only [World.size_alloc] at r
    go_wp2_with fail
    go_ret
    exact ⟨by simp, S.below⟩
  | some r =>
    have HB := Lib.hid hb
    clear hb
    go_wp2_with fail
    refine (bet_yes R.out HB.out).mono ?_
    rintro e wv2 ⟨n, d, rfl, hf, hq, b2⟩
    replace R := Lib.hid ((R.out.grow b2).alloc n d 30)
    replace S := (S.next b2).alloc n d
    clear b2
    have r := S.holds
    simp only [Holds, and_true] at r
    try simp only [World.size_alloc] at r
    have HF := Lib.hid hf; have HQ := Lib.hid hq
    clear hf hq
    go_wp2_with fail
    refine (got_same (betS_yes R.out HB.out) HF.out HQ.out).mono ?_
    rintro e wv3 ⟨rfl, b3⟩
    replace R := Lib.hid ((R.out.grow b3).alloc n d 30)
    replace S := (S.next b3).alloc n d
    clear b3
    clear r
    have r := S.holds
    simp only [Holds, and_true] at r
    try simp only [World.size_alloc] at r
    obtain ⟨hr, hfit, hv, ht0, htb, hb3⟩ := bet_is HB.out
    have HV := Lib.hid hv; have HR := Lib.hid hr; have FT := Lib.hid hfit
    clear hv hr hfit
    obtain ⟨hL, ha0, ha20⟩ := rec_len HV.out
    obtain ⟨g, o, cp, rfl, hcap, hcapm⟩ := R.out.1.known (by omega)
    obtain ⟨g', o', cp', rfl, hcap', hcapm'⟩ := R.out.2.known (by omega)
    unfold maxLen at hcapm hcapm'
    rw [hL] at hcap
    rw [hL] at R
    rw [hL]
    have HL := Lib.hid hL
    have hl0 : 0 < l.length := by omega
    have hla : a.length < l.length := by omega
    clear hL
    have q0 : (0 : Int) < (a.length : Int) + 1 := by omega
    have q1 : 0 < a.length + 1 := by omega
    have q2 : IntKind.i64.wrap ((a.length : Int) + 1 - 1) = (a.length : Int) := by rw [show (a.length : Int) + 1 - 1 = a.length by omega]; exact IntWalk.i64_in _ (by omega)
    have q2' : IntKind.i64.wrap (a.length : Int) = (a.length : Int) := IntWalk.i64_in _ (by omega)
    have q3 : (0 : Int) ≤ (a.length : Int) := by omega
    have q4 : (a.length : Int) < (a.length : Int) + 1 := by omega
    have q5 : a.length < a.length + 1 := by omega
    obtain ⟨y, hy⟩ : ∃ y : Int, (len1 : Int).tmod (a.length : Int) = y := ⟨_, rfl⟩
    have hy0 : 0 ≤ y := by rw [← hy]; exact Int.tmod_nonneg _ (by omega)
    have hy1 : y < (a.length : Int) := by rw [← hy]; exact Int.tmod_lt_of_pos _ (by omega)
    have hye : (len1 : Int) % (a.length : Int) = y := by rw [← hy, Int.tmod_eq_emod_of_nonneg (by omega)]
    have z2 : ¬ ((a.length : Int) = 0) := by omega
    obtain ⟨j, rfl⟩ : ∃ j : Nat, y = j := ⟨y.toNat, by omega⟩
    have hj : j < a.length := by omega
    have z3 : IntKind.i64.wrap (j : Int) = (j : Int) := IntWalk.i64_in _ (by omega)
    have z4 : IntKind.i64.wrap ((j : Int) + 1) = (j : Int) + 1 := IntWalk.i64_in _ (by omega)
    have i1 : (j : Int) < (a.length : Int) + 1 := by omega
    have i2 : (0 : Int) ≤ (j : Int) := by omega
    have i3 : (j : Int) + 1 < (a.length : Int) + 1 := by omega
    have i4 : ((j : Int) + 1).toNat = j + 1 := by omega
    have i5 : (0 : Int) ≤ (j : Int) + 1 := by omega
    have i6 : (j : Int) < (a.length : Int) := by omega
    have i7 : j < a.length + 1 := by omega
    have i8 : j + 1 < a.length + 1 := by omega
    have hj0 : j < l.length := by omega
    have hj1 : j + 1 < l.length := by omega
    have rm0 := rec_amount HV.out j hj
    have c1 := R.out.1.cells j hj0; have c2 := R.out.1.cells (j + 1) hj1
    have B1 := Lib.hid (bet_bin HV.out HL.out j hj); have B2 := Lib.hid (bet_before HV.out HL.out); have B3 := Lib.hid (bet_behind HV.out HL.out)
    go_upto_region 9 with fail
    generalize (wv3.alloc (.cells #[.int .i64 n, .int .i64 d] 30)) = W3 at S R c1 c2 r ⊢
    go_cut [14, 15] (fun s0 s1 wx => TwoMid ((bet l a l[j] l[j + 1]).isSome) ((bet l a l[j] l[j + 1]).getD 0) W3 [] s0 s1 wx)
    case first =>
      have mkS : ∀ w' : World, Below W3.heap.size W3 w' → (Below W3.heap.size W3 w' ∧ w'.cell? ⟨g, o + j, none⟩ = some (.int .i64 l[j]) ∧ w'.cell? ⟨g, o + (j + 1), none⟩ = some (.int .i64 l[j + 1])) := fun w' b => ⟨b, (b.cell (cell_below c1)).trans c1, (b.cell (cell_below c2)).trans c2⟩
      have held : ∀ W w' : World, Below W.heap.size W w' → (Below W3.heap.size W3 W ∧ W.cell? ⟨g, o + j, none⟩ = some (.int .i64 l[j]) ∧ W.cell? ⟨g, o + (j + 1), none⟩ = some (.int .i64 l[j + 1])) → (Below W3.heap.size W3 w' ∧ w'.cell? ⟨g, o + j, none⟩ = some (.int .i64 l[j]) ∧ w'.cell? ⟨g, o + (j + 1), none⟩ = some (.int .i64 l[j + 1])) := fun W w' b h => mkS w' (h.1.trans (b.mono h.1.size))
      have heldSet : ∀ (W w' : World) (k' : Nat) (x y : Int), W3.heap.size ≤ k' → w' = (W.setCell ⟨k', 0, none⟩ (.int .i64 x)).setCell ⟨k', 1, none⟩ (.int .i64 y) → (Below W3.heap.size W3 W ∧ W.cell? ⟨g, o + j, none⟩ = some (.int .i64 l[j]) ∧ W.cell? ⟨g, o + (j + 1), none⟩ = some (.int .i64 l[j + 1])) → (Below W3.heap.size W3 w' ∧ w'.cell? ⟨g, o + j, none⟩ = some (.int .i64 l[j]) ∧ w'.cell? ⟨g, o + (j + 1), none⟩ = some (.int .i64 l[j + 1])) := fun W w' k' x y hk e h => by
        subst e
        exact mkS _ ((h.1.setCell (p := ⟨k', 0, none⟩) hk _).setCell (p := ⟨k', 1, none⟩) hk _)
      have keep0 := mkS _ (Below.refl W3.heap.size W3).drew
      have keepY := mkS _ ((Below.refl W3.heap.size W3).alloc (Nat.le_refl _) (.cells #[.int .i64 0, .int .i64 0] 30)).drew
      have atR := fun (W : World) (h : (Below W3.heap.size W3 W ∧ W.cell? ⟨g, o + j, none⟩ = some (.int .i64 l[j]) ∧ W.cell? ⟨g, o + (j + 1), none⟩ = some (.int .i64 l[j + 1]))) => R.out.grow h.1
      have tok0 : True := trivial
      go_region_held3 (fun w' => (Below W3.heap.size W3 w' ∧ w'.cell? ⟨g, o + j, none⟩ = some (.int .i64 l[j]) ∧ w'.cell? ⟨g, o + (j + 1), none⟩ = some (.int .i64 l[j + 1]))) (first | exact keep0 | exact keepY | exact hs0 | (have _q := hs0; exact held _ _ ((Below.refl _ _).alloc (Nat.le_refl _) _) hs0) | (have _q := hs0; exact heldSet _ _ _ _ _ (by omega) rfl hs0)) (first | (go_at_call 18; refine (implRecordBetween_any _ _ (atR _ (by assumption))).mono ?_; rintro e x0 ⟨n5, d5, ok5, rfl, hr5, b0⟩; have hs0 := held _ _ b0 (by assumption); have hz0 := hs0.1.size; (first | (have zz := top_two (u := .int .i64 0) (v := .int .i64 0) (t := 30) b0) | (have zz := top_two_drew (u := .int .i64 0) (v := .int .i64 0) (t := 30) b0) | (replace zz := later_two b0 zz) | (have zz := later_two (k := W3.heap.size) (u := .int .i64 0) (v := .int .i64 0) b0 ⟨by go_cell, by go_cell, by go_simp, by go_simp, by simp; omega⟩) | skip); (try simp only [World.size_alloc] at zz)))
      all_goals
        clear keep0 keepY held heldSet
        have S5 : St W3 x0 [] := ⟨hs0.1, trivial⟩
        first
          | (
              fail_if_success (have q := zz)
              go_wp2
              go_meet
              exact TwoMid.mk hr5 (S5.alloc _ _))
          | (
              go_wp2
              go_meet
              exact TwoMid.mk hr5 (St.put2 (St.put zz S5) (by omega) (by simp only [Apart]) _ _))
    case rest =>
      revert hcut
      revert wc
      intro wv4 hcut
      obtain ⟨k4, n9, d9, ok, rfl, rfl, hr, S5⟩ := hcut
      replace R := Lib.hid (R.out.grow S5.below)
      replace S := S.more S5
      clear S5
      clear r
      have r := S.holds
      simp only [Holds, and_true] at r
      try simp only [World.size_alloc] at r
      rw [B1.out] at hr
      have FS := fv_int (k := a[j]) (by omega) (by omega)
      obtain ⟨rfl, hf9, hq9⟩ := res_got hr rfl (fits_int (by omega) (by omega))
      obtain ⟨rfl, rfl⟩ := fq_inj hf9 FS (by rw [hq9, fq_whole]; rfl)
      clear hf9 hq9 hr c1 c2
      have f0 := R.out.1.cells 0 hl0
      simp only [Nat.add_zero] at f0
      go_wp2_with fail
      refine (bet_int R.out B2.out (by omega) (by omega)).mono ?_
      rintro e wv5 ⟨rfl, b5⟩
      replace R := Lib.hid ((R.out.grow b5).alloc 0 1 30)
      replace S := (S.next b5).alloc 0 1
      clear b5
      clear r
      have r := S.holds
      simp only [Holds, and_true] at r
      try simp only [World.size_alloc] at r
      clear f0
      have t9 := R.out.1.cells a.length hla
      go_wp2_with fail
      refine (bet_int R.out B3.out (by omega) (by omega)).mono ?_
      rintro e wv6 ⟨rfl, b6⟩
      replace R := Lib.hid ((R.out.grow b6).alloc 0 1 30)
      replace S := (S.next b6).alloc 0 1
      clear b6
      clear r
      have r := S.holds
      simp only [Holds, and_true] at r
      try simp only [World.size_alloc] at r
      clear t9
      have am := R.out.2.cells j hj
      have DP := (fv_part HF.out).1
      have Xc0 := r.2.2.1.1
      have Xc1 := r.2.2.1.2.1
      have Yc0 := r.2.1.1
      have Yc1 := r.2.1.2.1
      have Zc0 := r.1.1
      have Zc1 := r.1.2.1
      have Oc0 := r.2.2.2.2.1
      have Oc1 := r.2.2.2.2.2.1
      go_upto_region 12 with fail
      generalize (wv6.alloc (.cells #[.int .i64 0, .int .i64 1] 30)) = W6 at S R Xc0 Xc1 Yc0 Yc1 Zc0 Zc1 Oc0 Oc1 am r ⊢
      have mkS : ∀ w' : World, Below W6.heap.size W6 w' → (Below W6.heap.size W6 w' ∧ w'.cell? ⟨k4, 0, none⟩ = some (.int .i64 a[j]) ∧ w'.cell? ⟨k4, 1, none⟩ = some (.int .i64 1) ∧ w'.cell? ⟨wv5.heap.size, 0, none⟩ = some (.int .i64 0) ∧ w'.cell? ⟨wv5.heap.size, 1, none⟩ = some (.int .i64 1) ∧ w'.cell? ⟨wv6.heap.size, 0, none⟩ = some (.int .i64 0) ∧ w'.cell? ⟨wv6.heap.size, 1, none⟩ = some (.int .i64 1) ∧ w'.cell? ⟨wv2.heap.size, 0, none⟩ = some (.int .i64 n) ∧ w'.cell? ⟨wv2.heap.size, 1, none⟩ = some (.int .i64 d) ∧ w'.cell? ⟨g', o' + j, none⟩ = some (.int .i64 a[j])) := fun w' b => ⟨b, (b.cell (cell_below Xc0)).trans Xc0, (b.cell (cell_below Xc1)).trans Xc1, (b.cell (cell_below Yc0)).trans Yc0, (b.cell (cell_below Yc1)).trans Yc1, (b.cell (cell_below Zc0)).trans Zc0, (b.cell (cell_below Zc1)).trans Zc1, (b.cell (cell_below Oc0)).trans Oc0, (b.cell (cell_below Oc1)).trans Oc1, (b.cell (cell_below am)).trans am⟩
      have held : ∀ W w' : World, Below W.heap.size W w' → (Below W6.heap.size W6 W ∧ W.cell? ⟨k4, 0, none⟩ = some (.int .i64 a[j]) ∧ W.cell? ⟨k4, 1, none⟩ = some (.int .i64 1) ∧ W.cell? ⟨wv5.heap.size, 0, none⟩ = some (.int .i64 0) ∧ W.cell? ⟨wv5.heap.size, 1, none⟩ = some (.int .i64 1) ∧ W.cell? ⟨wv6.heap.size, 0, none⟩ = some (.int .i64 0) ∧ W.cell? ⟨wv6.heap.size, 1, none⟩ = some (.int .i64 1) ∧ W.cell? ⟨wv2.heap.size, 0, none⟩ = some (.int .i64 n) ∧ W.cell? ⟨wv2.heap.size, 1, none⟩ = some (.int .i64 d) ∧ W.cell? ⟨g', o' + j, none⟩ = some (.int .i64 a[j])) → (Below W6.heap.size W6 w' ∧ w'.cell? ⟨k4, 0, none⟩ = some (.int .i64 a[j]) ∧ w'.cell? ⟨k4, 1, none⟩ = some (.int .i64 1) ∧ w'.cell? ⟨wv5.heap.size, 0, none⟩ = some (.int .i64 0) ∧ w'.cell? ⟨wv5.heap.size, 1, none⟩ = some (.int .i64 1) ∧ w'.cell? ⟨wv6.heap.size, 0, none⟩ = some (.int .i64 0) ∧ w'.cell? ⟨wv6.heap.size, 1, none⟩ = some (.int .i64 1) ∧ w'.cell? ⟨wv2.heap.size, 0, none⟩ = some (.int .i64 n) ∧ w'.cell? ⟨wv2.heap.size, 1, none⟩ = some (.int .i64 d) ∧ w'.cell? ⟨g', o' + j, none⟩ = some (.int .i64 a[j])) := fun W w' b h => mkS w' (h.1.trans (b.mono h.1.size))
      have keep0 := mkS _ (Below.refl W6.heap.size W6).drew
      have atR := fun (W : World) (h : (Below W6.heap.size W6 W ∧ W.cell? ⟨k4, 0, none⟩ = some (.int .i64 a[j]) ∧ W.cell? ⟨k4, 1, none⟩ = some (.int .i64 1) ∧ W.cell? ⟨wv5.heap.size, 0, none⟩ = some (.int .i64 0) ∧ W.cell? ⟨wv5.heap.size, 1, none⟩ = some (.int .i64 1) ∧ W.cell? ⟨wv6.heap.size, 0, none⟩ = some (.int .i64 0) ∧ W.cell? ⟨wv6.heap.size, 1, none⟩ = some (.int .i64 1) ∧ W.cell? ⟨wv2.heap.size, 0, none⟩ = some (.int .i64 n) ∧ W.cell? ⟨wv2.heap.size, 1, none⟩ = some (.int .i64 d) ∧ W.cell? ⟨g', o' + j, none⟩ = some (.int .i64 a[j]))) => R.out.grow h.1
      have tok0 : True := trivial
      have tok1 : True := trivial
      have tok2 : True := trivial
      go_region_held3 (fun w' => (Below W6.heap.size W6 w' ∧ w'.cell? ⟨k4, 0, none⟩ = some (.int .i64 a[j]) ∧ w'.cell? ⟨k4, 1, none⟩ = some (.int .i64 1) ∧ w'.cell? ⟨wv5.heap.size, 0, none⟩ = some (.int .i64 0) ∧ w'.cell? ⟨wv5.heap.size, 1, none⟩ = some (.int .i64 1) ∧ w'.cell? ⟨wv6.heap.size, 0, none⟩ = some (.int .i64 0) ∧ w'.cell? ⟨wv6.heap.size, 1, none⟩ = some (.int .i64 1) ∧ w'.cell? ⟨wv2.heap.size, 0, none⟩ = some (.int .i64 n) ∧ w'.cell? ⟨wv2.heap.size, 1, none⟩ = some (.int .i64 d) ∧ w'.cell? ⟨g', o' + j, none⟩ = some (.int .i64 a[j]))) (first | exact keep0 | exact hs0 | exact hs1 | exact hs2) (first | (have _t := tok0; clear tok0 _t; go_at_call 20; refine (frac_any _ _).mono ?_; rintro e x0 ⟨rfl, b0⟩; have hs0 := held _ _ b0 (by assumption)) | (have _t := tok1; clear tok1 _t; go_at_call 20; refine (frac_any _ _).mono ?_; rintro e x1 ⟨rfl, b1⟩; have hs1 := held _ _ b1 (by assumption)) | (have _t := tok2; clear tok2 _t; go_at_call 20; refine (frac_any _ _).mono ?_; rintro e wv7 ⟨rfl, b2⟩; have hs2 := held _ _ b2 (by assumption)))
      have B9 := hs2.1
      replace R := Lib.hid (R.out.grow B9)
      replace S := S.next B9
      clear mkS held keep0 B9 atR hs0 b0 hs1 b1 hs2 b2
      clear r
      have r := S.holds
      simp only [Holds, and_true] at r
      try simp only [World.size_alloc] at r
      go_wp2_with fail
      go_ret
      exact ⟨by first | rfl | (simp; done) | (simp; omega), S.below⟩

set_option maxRecDepth 100000 in
theorem lifted (os : Os) (started : os.Started) (H : Type) (enc : TypeId × Value → H) :
    ReturnsInHanded {} Try.checked os 6 .any (Rows.fnBetweenBinSpec.pre6 enc Try.prog Try.f6 Rows.fnBetweenBinRow.domain false) (Rows.fnBetweenBinSpec.post enc Try.prog Try.f6 false true false false) := by
  refine returnsInHanded_of_change (C := Try.checked) own started (by kernel_rfl) Try.func6
    (ChangeSpec.witness6 (enc := enc) (C := Try.checked) false ⟨#[], #[.slice none 0 0, .slice none 0 0], []⟩ 8 (by kernel_rfl) (by kernel_rfl) (by kernel_rfl) (by kernel_rfl)) ?_
  intro W base args ds gs before hval0 hW hcnd _
  have hval : ∀ (j : Nat) t v, Try.f6.params[j]? = some t → args[j]? = some v → Value.okWide Try.prog W .any base t v := hval0
  have hW' := hW
  obtain ⟨p, q, hA0, hV, rfl, hfz, hnd⟩ := hW
  have hA : DataW.TrodAll enc Try.prog W 0 (fun _ => true) true Try.f6.params.toList args.toList ds p := hA0
  rw [Try.params6] at hA hval
  obtain ⟨v0, vs0, d0, ds0, p0, q0, hargs, rfl, rfl, h0, r0⟩ := trodAll_cons hA
  obtain ⟨v1, vs1, d1, ds1, p1, q1, rfl, rfl, rfl, h1, r1⟩ := trodAll_cons r0
  obtain ⟨rfl, rfl, rfl⟩ := trodAll_nil r1
  obtain rfl : args = #[v0, v1] := by cases args; simp_all
  obtain ⟨rfl, rfl⟩ := trodVars_none hV
  obtain ⟨a0, len0, cap0, rfl⟩ := okWide_slice Try.underlying22 (hval 0 22 v0 rfl rfl)
  have k0 := h0
  have lt0 : ∀ x ∈ p0, x.block < W.heap.size := by obtain ⟨m, hm⟩ := k0; exact DataW.trod_lt m _ _ _ hm
  obtain ⟨z0, w0⟩ : ∃ zs, IsRow .u8 W a0 len0 cap0 zs := by
    obtain ⟨fuel, hf⟩ := h0
    rcases open_ints Try.underlying22 Try.underlying5 (by kernel_rfl) hf with ⟨hcs, _⟩ | ⟨x, l, c, zs, hcs, _, hl, hm, hz, _, hcell, hwz⟩
    · simp [Value.cells] at hcs
      obtain ⟨rfl, rfl, rfl⟩ := hcs
      exact ⟨[], .inl ⟨rfl, rfl, rfl, rfl⟩⟩
    · simp [Value.cells] at hcs
      obtain ⟨rfl, rfl, rfl⟩ := hcs
      exact ⟨zs, .inr ⟨_, rfl, hl, hm, by simpa using hz, hcell, hwz⟩⟩
  obtain ⟨a1, len1, cap1, rfl⟩ := okWide_slice Try.underlying22 (hval 1 22 v1 rfl rfl)
  have k1 := h1
  have lt1 : ∀ x ∈ p1, x.block < W.heap.size := by obtain ⟨m, hm⟩ := k1; exact DataW.trod_lt m _ _ _ hm
  obtain ⟨z1, w1⟩ : ∃ zs, IsRow .u8 W a1 len1 cap1 zs := by
    obtain ⟨fuel, hf⟩ := h1
    rcases open_ints Try.underlying22 Try.underlying5 (by kernel_rfl) hf with ⟨hcs, _⟩ | ⟨x, l, c, zs, hcs, _, hl, hm, hz, _, hcell, hwz⟩
    · simp [Value.cells] at hcs
      obtain ⟨rfl, rfl, rfl⟩ := hcs
      exact ⟨[], .inl ⟨rfl, rfl, rfl, rfl⟩⟩
    · simp [Value.cells] at hcs
      obtain ⟨rfl, rfl, rfl⟩ := hcs
      exact ⟨zs, .inr ⟨_, rfl, hl, hm, by simpa using hz, hcell, hwz⟩⟩
  clear hA0 hval0
  refine (walk a0 len0 cap0 z0 a1 len1 cap1 z1 W w0 w1).mono fun e W' ⟨he, bel⟩ => ?_
  subst he
  exact ⟨_, rfl, _, _, _, [], _, [], hW', trodAll_mk1 (shut_bool Try.underlying4 _), (trodAll_cons_mk (Below.trod laidOut (by kernel_rfl) (of_decide_eq_true (by kernel_rfl)) k0 bel lt0) (trodAll_cons_mk (Below.trod laidOut (by kernel_rfl) (of_decide_eq_true (by kernel_rfl)) k1 bel lt1) trodAll_mk0)), rfl, bel.frame _, fun h => by cases h⟩

theorem over : Rows.fnBetweenBinRow.holds Try.pinned (OpenSpec.ofChange Rows.fnBetweenBinSpec) :=
  OpenClaim.holds_of_wide 6 Try.f6 rfl rfl rfl rfl rfl rfl rfl ⟨rfl, rfl, rfl, rfl, rfl⟩ rfl rfl rfl rfl rfl (by kernel_rfl) Try.func6 (by kernel_rfl)
    (of_decide_eq_true (by kernel_rfl)) (by unfold Func.isWrapper; first | (rw [if_pos (by decide +kernel)]; kernel_rfl) | (rw [if_neg (by decide +kernel)]; exact ⟨rfl, rfl⟩))
    (fun os started H enc _ => lifted os started H enc)

/-- ████ THE STATEMENT ████ -/
theorem proved : Rows.FnBetweenBinSaid := over
#print axioms proved
end Go.Proofs.Ytkcbgeldnibjcaa.fnBetweenBin
