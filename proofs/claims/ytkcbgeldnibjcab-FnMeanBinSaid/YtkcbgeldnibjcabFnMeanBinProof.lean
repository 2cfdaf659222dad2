/- For every input, the law FnMeanBin of the given statements returns true over the program at this commit, and its arguments read afterwards as before: no condition. -/
import Derived.Test.YtkcbgeldnibjcabRows
import Derived.Test.YtkcbgeldnibjcabLawR
import Derived.WalkKit
import Derived.ProofKit
import Derived.OpenShut
import Derived.ShutString
import Derived.ChangeOld
import Derived.Below
namespace Go.Proofs.Ytkcbgeldnibjcab.fnMeanBin
open Go.ChangeShapes Go.WideShapes Go.ChangeAt Go.RowKit
open Go.ChangeMaps (open_string shut_string)
set_option linter.unusedVariables false

theorem own : ownKnob Try.prog.godebug = none := by kernel_rfl
theorem laidOut : laidOutB Try.prog = true := by kernel_rfl

/-- WHAT THE WALK IS TOLD OF A SLICE OF INTEGERS THAT CAME IN: it is nil; or it leads to a row of 'cap' cells, the numbers 'zs' (the first 'len' are its elements, the rest its spare room), each fitting its kind. -/
def IsRow (k : IntKind) (w : World) (a : Option Addr) (len cap : Nat) (zs : List Int) : Prop :=
  (a = none ∧ len = 0 ∧ cap = 0 ∧ zs = []) ∨
  ∃ x, a = some x ∧ len ≤ cap ∧ cap ≤ maxLen ∧ zs.length = cap ∧ (∀ i, i < zs.length → w.cell? (x.add i) = some (.int k (zs.getD i 0))) ∧ ∀ n ∈ zs, (Lit.int k n).wf = true

set_option maxRecDepth 100000 in
set_option maxHeartbeats 3200000 in
theorem walk (a0 : Option Addr) (len0 cap0 : Nat) (z0 : List Int) (a1 : Option Addr) (len1 cap1 : Nat) (z1 : List Int) (w : World) (w0 : IsRow .u8 w a0 len0 cap0 z0) (w1 : IsRow .u8 w a1 len1 cap1 z1) :
    Calls Try.prog 4 #[.slice a0 len0 cap0, .slice a1 len1 cap1] w fun e w' => e = .returned (.bool true) ∧ Below w.heap.size w w' := by
  have hB := bytes_of w0
  have hB1 := bytes_len (bytes_of w1)
  unfold maxLen at hB1
  by_cases hl : 1048576 < len0
  · have hdec : decide (1048576 < len0) = true := by simpa using hl
    go_enter Try.func4, Try.ntmps4
    go_wp2_with fail
    go_ret
    exact ⟨rfl, Below.refl _ _⟩
  have hdec : decide (1048576 < len0) = false := by simpa using hl
  by_cases hl1 : 1048576 < len1
  · go_enter Try.func4, Try.ntmps4
    go_wp2_with fail
    go_ret
    exact ⟨rfl, Below.refl _ _⟩
  have hm : len0 ≤ 1048576 := by omega
  have hm1 : len1 ≤ 1048576 := by omega
  clear hB1
  go_enter Try.func4, Try.ntmps4
  go_wp2_with fail
  refine (DrawRecordMean_any hB).mono ?_
  rintro e wv1 ⟨v, u, l, a, t, b, rfl, rl, ra, hl2, ha1, t0, t1, b0, b1x, b1⟩
  clear w0 w1 hB
  have S := St.start b1
  clear b1
  have R := Lib.hid (show Rec _ _ _ l a from ⟨rl, ra⟩)
  clear rl ra
  cases hb : meanOf l a t b with
  | none =>
    have HB := Lib.hid hb
    clear hb
    go_wp2_with fail
    refine (mean_no R.out HB.out).mono ?_
    rintro e wv2 ⟨rfl, b2⟩
    replace R := Lib.hid ((R.out.grow b2).alloc 0 0 27)
    replace S := (S.next b2).alloc 0 0
    clear b2
    have r := S.holds
    simp only [Holds, and_true] at r
    try simp only [World.size_alloc] at r
    go_wp2_with fail
    refine (meanS_no R.out HB.out).mono ?_
    rintro e wv3 ⟨rfl, b3⟩
    replace R := Lib.hid ((R.out.grow b3).alloc 0 0 27)
    replace S := (S.next b3).alloc 0 0
    clear b3
    clear r
    have r := S.holds
    simp only [Holds, and_true] at r
    try simp only [World.size_alloc] at r
    go_wp2_with fail
    go_ret
    exact ⟨by simp, S.below⟩
  | some r =>
    have HB := Lib.hid hb
    clear hb
    go_wp2_with fail
    refine (mean_yes R.out HB.out).mono ?_
    rintro e wv2 ⟨n, d, rfl, hf, hq, b2⟩
    replace R := Lib.hid ((R.out.grow b2).alloc n d 27)
    replace S := (S.next b2).alloc n d
    clear b2
    have r := S.holds
    simp only [Holds, and_true] at r
    try simp only [World.size_alloc] at r
    have HF := Lib.hid hf; have HQ := Lib.hid hq
    clear hf hq
    go_wp2_with fail
    refine (got_same (meanS_yes R.out HB.out) HF.out HQ.out).mono ?_
    rintro e wv3 ⟨rfl, b3⟩
    replace R := Lib.hid ((R.out.grow b3).alloc n d 27)
    replace S := (S.next b3).alloc n d
    clear b3
    clear r
    have r := S.holds
    simp only [Holds, and_true] at r
    try simp only [World.size_alloc] at r
    obtain ⟨r1, hb1, hr1, htb, hfit⟩ := meanOf_is HB.out
    obtain ⟨hr, hfit1, hv, ht0, _, hb3⟩ := bet_is hb1
    have HB1 := Lib.hid hb1; have HV := Lib.hid hv; have HR1 := Lib.hid hr1; have FT := Lib.hid hfit; have FT1 := Lib.hid hfit1; have HR := Lib.hid hr
    clear hv hr1 hfit hfit1 hr hb1
    obtain ⟨hL, ha0, ha20⟩ := rec_len HV.out
    obtain ⟨g, o, cp, rfl, hcap, hcapm⟩ := R.out.1.known (by omega)
    obtain ⟨g', o', cp', rfl, hcap', hcapm'⟩ := R.out.2.known (by omega)
    unfold maxLen at hcapm hcapm'
    rw [hL] at hcap
    rw [hL] at R
    rw [hL]
    have HL := Lib.hid hL
    have hl0 : 0 < l.length := by omega
    have hla : a.length < l.length := by omega
    clear hL
    have q0 : (0 : Int) < (a.length : Int) + 1 := by omega
    have q1 : 0 < a.length + 1 := by omega
    have q2 : IntKind.i64.wrap ((a.length : Int) + 1 - 1) = (a.length : Int) := by rw [show (a.length : Int) + 1 - 1 = a.length by omega]; exact IntWalk.i64_in _ (by omega)
    have q2' : IntKind.i64.wrap (a.length : Int) = (a.length : Int) := IntWalk.i64_in _ (by omega)
    have q3 : (0 : Int) ≤ (a.length : Int) := by omega
    have q4 : (a.length : Int) < (a.length : Int) + 1 := by omega
    have q5 : a.length < a.length + 1 := by omega
    obtain ⟨y, hy⟩ : ∃ y : Int, (len1 : Int).tmod (a.length : Int) = y := ⟨_, rfl⟩
    have hy0 : 0 ≤ y := by rw [← hy]; exact Int.tmod_nonneg _ (by omega)
    have hy1 : y < (a.length : Int) := by rw [← hy]; exact Int.tmod_lt_of_pos _ (by omega)
    have hye : (len1 : Int) % (a.length : Int) = y := by rw [← hy, Int.tmod_eq_emod_of_nonneg (by omega)]
    have z2 : ¬ ((a.length : Int) = 0) := by omega
    obtain ⟨j, rfl⟩ : ∃ j : Nat, y = j := ⟨y.toNat, by omega⟩
    have hj : j < a.length := by omega
    have z3 : IntKind.i64.wrap (j : Int) = (j : Int) := IntWalk.i64_in _ (by omega)
    have z4 : IntKind.i64.wrap ((j : Int) + 1) = (j : Int) + 1 := IntWalk.i64_in _ (by omega)
    have i1 : (j : Int) < (a.length : Int) + 1 := by omega
    have i2 : (0 : Int) ≤ (j : Int) := by omega
    have i3 : (j : Int) + 1 < (a.length : Int) + 1 := by omega
    have i4 : ((j : Int) + 1).toNat = j + 1 := by omega
    have i5 : (0 : Int) ≤ (j : Int) + 1 := by omega
    have i6 : (j : Int) < (a.length : Int) := by omega
    have i7 : j < a.length + 1 := by omega
    have i8 : j + 1 < a.length + 1 := by omega
    have hj0 : j < l.length := by omega
    have hj1 : j + 1 < l.length := by omega
    have ra0 := edges_range (rec_edges HV.out) j hj0; have rb0 := edges_range (rec_edges HV.out) (j + 1) hj1; have up0 := edges_up (rec_edges HV.out) j (j + 1) (by omega) hj1; have rm0 := rec_amount HV.out j hj
    have e2 : IntKind.i64.wrap (l[j + 1] - l[j]) = l[j + 1] - l[j] := IntWalk.i64_in _ (by omega)
    obtain ⟨p, hp⟩ : ∃ p : Int, l[j + 1] - l[j] = p := ⟨_, rfl⟩
    have hp0 : 0 < p := by omega
    have hp1 : p ≤ 30000 := by omega
    rw [hp] at e2
    have e2' : IntKind.i64.wrap p = p := IntWalk.i64_in _ (by omega)
    have c1 := R.out.1.cells j hj0; have c2 := R.out.1.cells (j + 1) hj1
    go_upto_region 9 with fail
    go_quiet (fail)
    have BQ := below_drews (Below.refl (wv3.alloc (.cells #[.int .i64 n, .int .i64 d] 27)).heap.size (wv3.alloc (.cells #[.int .i64 n, .int .i64 d] 27))) nq
    try simp only [hp]
    replace R := Lib.hid (R.out.grow BQ)
    replace S := S.next BQ
    clear BQ c1 c2
    clear r
    have r := S.holds
    simp only [Holds, and_true] at r
    try simp only [World.size_alloc] at r
    have c3 := R.out.2.cells j hj
    have XF : Hid (fits ((a[j] : Rat) / ((p : Int) : Rat)) = true) := Lib.hid (fits_part1 rm0.1 rm0.2 hp0 hp1)
    have XV : Hid (ofV a[j] p = true) := Lib.hid (ofV_iff.2 (by omega))
    go_wp2_with fail
    refine (got_yes (implFracOf_any a[j] p _) XV.out (by rw [Rat.divInt_eq_div]; exact XF.out)).mono ?_
    rintro e wv4 ⟨n2, d2, rfl, hf2, hq2, b4⟩
    replace R := Lib.hid ((R.out.grow b4).alloc n2 d2 27)
    replace S := (S.next b4).alloc n2 d2
    clear b4
    clear r
    have r := S.holds
    simp only [Holds, and_true] at r
    try simp only [World.size_alloc] at r
    have HF2 := Lib.hid hf2; have HQ2 : Hid (fq n2 d2 = (a[j] : Rat) / ((p : Int) : Rat)) := Lib.hid (by rw [hq2, Rat.divInt_eq_div])
    clear hf2 hq2 c3
    have M1 : Hid (meanOf l a l[j] l[j + 1] = some ((a[j] : Rat) / ((p : Int) : Rat))) := Lib.hid (by have := mean_bin HV.out j hj up0 (Int.le_refl _); rwa [hp] at this)
    have c1 := R.out.1.cells j hj0; have c2 := R.out.1.cells (j + 1) hj1
    go_upto_region 11 with fail
    generalize (wv4.alloc (.cells #[.int .i64 n2, .int .i64 d2] 27)) = W4 at S R c1 c2 r ⊢
    go_cut [17, 18] (fun s0 s1 wx => TwoMid ((meanOf l a l[j] l[j + 1]).isSome) ((meanOf l a l[j] l[j + 1]).getD 0) W4 [] s0 s1 wx)
    case first =>
      have mkS : ∀ w' : World, Below W4.heap.size W4 w' → (Below W4.heap.size W4 w' ∧ w'.cell? ⟨g, o + j, none⟩ = some (.int .i64 l[j]) ∧ w'.cell? ⟨g, o + (j + 1), none⟩ = some (.int .i64 l[j + 1])) := fun w' b => ⟨b, (b.cell (cell_below c1)).trans c1, (b.cell (cell_below c2)).trans c2⟩
      have held : ∀ W w' : World, Below W.heap.size W w' → (Below W4.heap.size W4 W ∧ W.cell? ⟨g, o + j, none⟩ = some (.int .i64 l[j]) ∧ W.cell? ⟨g, o + (j + 1), none⟩ = some (.int .i64 l[j + 1])) → (Below W4.heap.size W4 w' ∧ w'.cell? ⟨g, o + j, none⟩ = some (.int .i64 l[j]) ∧ w'.cell? ⟨g, o + (j + 1), none⟩ = some (.int .i64 l[j + 1])) := fun W w' b h => mkS w' (h.1.trans (b.mono h.1.size))
      have heldSet : ∀ (W w' : World) (k' : Nat) (x y : Int), W4.heap.size ≤ k' → w' = (W.setCell ⟨k', 0, none⟩ (.int .i64 x)).setCell ⟨k', 1, none⟩ (.int .i64 y) → (Below W4.heap.size W4 W ∧ W.cell? ⟨g, o + j, none⟩ = some (.int .i64 l[j]) ∧ W.cell? ⟨g, o + (j + 1), none⟩ = some (.int .i64 l[j + 1])) → (Below W4.heap.size W4 w' ∧ w'.cell? ⟨g, o + j, none⟩ = some (.int .i64 l[j]) ∧ w'.cell? ⟨g, o + (j + 1), none⟩ = some (.int .i64 l[j + 1])) := fun W w' k' x y hk e h => by
        subst e
        exact mkS _ ((h.1.setCell (p := ⟨k', 0, none⟩) hk _).setCell (p := ⟨k', 1, none⟩) hk _)
      have keep0 := mkS _ (Below.refl W4.heap.size W4).drew
      have keepY := mkS _ ((Below.refl W4.heap.size W4).alloc (Nat.le_refl _) (.cells #[.int .i64 0, .int .i64 0] 27)).drew
      have atR := fun (W : World) (h : (Below W4.heap.size W4 W ∧ W.cell? ⟨g, o + j, none⟩ = some (.int .i64 l[j]) ∧ W.cell? ⟨g, o + (j + 1), none⟩ = some (.int .i64 l[j + 1]))) => R.out.grow h.1
      have tok0 : True := trivial
      go_region_held3 (fun w' => (Below W4.heap.size W4 w' ∧ w'.cell? ⟨g, o + j, none⟩ = some (.int .i64 l[j]) ∧ w'.cell? ⟨g, o + (j + 1), none⟩ = some (.int .i64 l[j + 1]))) (first | exact keep0 | exact keepY | exact hs0 | (have _q := hs0; exact held _ _ ((Below.refl _ _).alloc (Nat.le_refl _) _) hs0) | (have _q := hs0; exact heldSet _ _ _ _ _ (by omega) rfl hs0)) (first | (go_at_call 13; refine (implRecordMean_any _ _ (atR _ (by assumption))).mono ?_; rintro e x0 ⟨n5, d5, ok5, rfl, hr5, b0⟩; have hs0 := held _ _ b0 (by assumption); have hz0 := hs0.1.size; (first | (have zz := top_two (u := .int .i64 0) (v := .int .i64 0) (t := 27) b0) | (have zz := top_two_drew (u := .int .i64 0) (v := .int .i64 0) (t := 27) b0) | (replace zz := later_two b0 zz) | (have zz := later_two (k := W4.heap.size) (u := .int .i64 0) (v := .int .i64 0) b0 ⟨by go_cell, by go_cell, by go_simp, by go_simp, by simp; omega⟩) | skip); (try simp only [World.size_alloc] at zz)))
      all_goals
        clear keep0 keepY held heldSet
        have S5 : St W4 x0 [] := ⟨hs0.1, trivial⟩
        first
          | (
              fail_if_success (have q := zz)
              go_wp2
              go_meet
              exact TwoMid.mk hr5 (S5.alloc _ _))
          | (
              go_wp2
              go_meet
              exact TwoMid.mk hr5 (St.put2 (St.put zz S5) (by omega) (by simp only [Apart]) _ _))
    case rest =>
      revert hcut
      revert wc
      intro wv5 hcut
      obtain ⟨k5, n9, d9, ok, rfl, rfl, hr, S5⟩ := hcut
      replace R := Lib.hid (R.out.grow S5.below)
      replace S := S.more S5
      clear S5
      clear r
      have r := S.holds
      simp only [Holds, and_true] at r
      try simp only [World.size_alloc] at r
      rw [M1.out] at hr
      obtain ⟨rfl, hf9, hq9⟩ := res_got hr rfl XF.out
      obtain ⟨rfl, rfl⟩ := fq_inj hf9 HF2.out (by rw [hq9, HQ2.out]; rfl)
      clear hf9 hq9 hr c1 c2
      have hde : (len1 : Int).tdiv 7 = (len1 : Int) / 7 := Int.tdiv_eq_ediv_of_nonneg (by omega)
      obtain ⟨s, hs⟩ : ∃ s : Int, ((len1 : Int) / 7).tmod p = s := ⟨_, rfl⟩
      have hs0 : 0 ≤ s := by rw [← hs]; exact Int.tmod_nonneg _ (by omega)
      have hs1 : s < p := by rw [← hs]; exact Int.tmod_lt_of_pos _ hp0
      have hse : ((len1 : Int) / 7) % p = s := by rw [← hs, Int.tmod_eq_emod_of_nonneg (by omega)]
      have zp : ¬ (p = 0) := by omega
      have e3 : IntKind.i64.wrap (l[j] + 1) = l[j] + 1 := IntWalk.i64_in _ (by omega)
      have e4 : IntKind.i64.wrap (l[j] + 1 + s) = l[j] + 1 + s := IntWalk.i64_in _ (by omega)
      have e5 : IntKind.i64.wrap s = s := IntWalk.i64_in _ (by omega)
      have e6 : IntKind.i64.wrap ((len1 : Int) / 7) = (len1 : Int) / 7 := IntWalk.i64_in _ (by omega)
      have M2 : Hid (meanOf l a l[j] (l[j] + 1 + s) = some ((a[j] : Rat) / ((p : Int) : Rat))) := Lib.hid (by have := mean_bin (u := l[j] + 1 + s) HV.out j hj (by omega) (by omega); rwa [hp] at this)
      have c1 := R.out.1.cells j hj0
      go_upto_region 12 with fail
      go_cut [19, 20] (fun s0 s1 wx => TwoMid ((meanOf l a l[j] (l[j] + 1 + s)).isSome) ((meanOf l a l[j] (l[j] + 1 + s)).getD 0) wv5 [] s0 s1 wx)
      case first =>
        have mkS : ∀ w' : World, Below wv5.heap.size wv5 w' → (Below wv5.heap.size wv5 w' ∧ w'.cell? ⟨g, o + j, none⟩ = some (.int .i64 l[j])) := fun w' b => ⟨b, (b.cell (cell_below c1)).trans c1⟩
        have held : ∀ W w' : World, Below W.heap.size W w' → (Below wv5.heap.size wv5 W ∧ W.cell? ⟨g, o + j, none⟩ = some (.int .i64 l[j])) → (Below wv5.heap.size wv5 w' ∧ w'.cell? ⟨g, o + j, none⟩ = some (.int .i64 l[j])) := fun W w' b h => mkS w' (h.1.trans (b.mono h.1.size))
        have heldSet : ∀ (W w' : World) (k' : Nat) (x y : Int), wv5.heap.size ≤ k' → w' = (W.setCell ⟨k', 0, none⟩ (.int .i64 x)).setCell ⟨k', 1, none⟩ (.int .i64 y) → (Below wv5.heap.size wv5 W ∧ W.cell? ⟨g, o + j, none⟩ = some (.int .i64 l[j])) → (Below wv5.heap.size wv5 w' ∧ w'.cell? ⟨g, o + j, none⟩ = some (.int .i64 l[j])) := fun W w' k' x y hk e h => by
          subst e
          exact mkS _ ((h.1.setCell (p := ⟨k', 0, none⟩) hk _).setCell (p := ⟨k', 1, none⟩) hk _)
        have keep0 := mkS _ (Below.refl wv5.heap.size wv5).drew
        have keepY := mkS _ ((Below.refl wv5.heap.size wv5).alloc (Nat.le_refl _) (.cells #[.int .i64 0, .int .i64 0] 27)).drew
        have atR := fun (W : World) (h : (Below wv5.heap.size wv5 W ∧ W.cell? ⟨g, o + j, none⟩ = some (.int .i64 l[j]))) => R.out.grow h.1
        have tok0 : True := trivial
        go_region_held3 (fun w' => (Below wv5.heap.size wv5 w' ∧ w'.cell? ⟨g, o + j, none⟩ = some (.int .i64 l[j]))) (first | exact keep0 | exact keepY | exact hs0 | (have _q := hs0; exact held _ _ ((Below.refl _ _).alloc (Nat.le_refl _) _) hs0) | (have _q := hs0; exact heldSet _ _ _ _ _ (by omega) rfl hs0)) (first | (go_at_call 13; refine (implRecordMean_any _ _ (atR _ (by assumption))).mono ?_; rintro e x0 ⟨n5, d5, ok5, rfl, hr5, b0⟩; have hs0 := held _ _ b0 (by assumption); have hz0 := hs0.1.size; (first | (have zz := top_two (u := .int .i64 0) (v := .int .i64 0) (t := 27) b0) | (have zz := top_two_drew (u := .int .i64 0) (v := .int .i64 0) (t := 27) b0) | (replace zz := later_two b0 zz) | (have zz := later_two (k := wv5.heap.size) (u := .int .i64 0) (v := .int .i64 0) b0 ⟨by go_cell, by go_cell, by go_simp, by go_simp, by simp; omega⟩) | skip); (try simp only [World.size_alloc] at zz)))
        all_goals
          clear keep0 keepY held heldSet
          have S5 : St wv5 x0 [] := ⟨hs0.1, trivial⟩
          first
            | (
                fail_if_success (have q := zz)
                go_wp2
                go_meet
                exact TwoMid.mk hr5 (S5.alloc _ _))
            | (
                go_wp2
                go_meet
                exact TwoMid.mk hr5 (St.put2 (St.put zz S5) (by omega) (by simp only [Apart]) _ _))
      case rest =>
        revert hcut
        revert wc
        intro wv6 hcut
        obtain ⟨k6, n9, d9, ok, rfl, rfl, hr, S5⟩ := hcut
        replace R := Lib.hid (R.out.grow S5.below)
        replace S := S.more S5
        clear S5
        clear r
        have r := S.holds
        simp only [Holds, and_true] at r
        try simp only [World.size_alloc] at r
        rw [M2.out] at hr
        obtain ⟨rfl, hf9, hq9⟩ := res_got hr rfl XF.out
        obtain ⟨rfl, rfl⟩ := fq_inj hf9 HF2.out (by rw [hq9, HQ2.out]; rfl)
        clear hf9 hq9 hr c1
        have NN := num_nonneg HF.out (by rw [HQ.out, HR1.out]; exact mean_nonneg htb (by rw [HR.out]; exact amt_nonneg HV.out t b))
        go_wp2_with fail
        go_ret
        exact ⟨by first | rfl | (simp; done) | (simp; omega), S.below⟩

set_option maxRecDepth 100000 in
theorem lifted (os : Os) (started : os.Started) (H : Type) (enc : TypeId × Value → H) :
    ReturnsInHanded {} Try.checked os 4 .any (Rows.fnMeanBinSpec.pre6 enc Try.prog Try.f4 Rows.fnMeanBinRow.domain false) (Rows.fnMeanBinSpec.post enc Try.prog Try.f4 false true false false) := by
  refine returnsInHanded_of_change (C := Try.checked) own started (by kernel_rfl) Try.func4
    (ChangeSpec.witness6 (enc := enc) (C := Try.checked) false ⟨#[], #[.slice none 0 0, .slice none 0 0], []⟩ 8 (by kernel_rfl) (by kernel_rfl) (by kernel_rfl) (by kernel_rfl)) ?_
  intro W base args ds gs before hval0 hW hcnd _
  have hval : ∀ (j : Nat) t v, Try.f4.params[j]? = some t → args[j]? = some v → Value.okWide Try.prog W .any base t v := hval0
  have hW' := hW
  obtain ⟨p, q, hA0, hV, rfl, hfz, hnd⟩ := hW
  have hA : DataW.TrodAll enc Try.prog W 0 (fun _ => true) true Try.f4.params.toList args.toList ds p := hA0
  rw [Try.params4] at hA hval
  obtain ⟨v0, vs0, d0, ds0, p0, q0, hargs, rfl, rfl, h0, r0⟩ := trodAll_cons hA
  obtain ⟨v1, vs1, d1, ds1, p1, q1, rfl, rfl, rfl, h1, r1⟩ := trodAll_cons r0
  obtain ⟨rfl, rfl, rfl⟩ := trodAll_nil r1
  obtain rfl : args = #[v0, v1] := by cases args; simp_all
  obtain ⟨rfl, rfl⟩ := trodVars_none hV
  obtain ⟨a0, len0, cap0, rfl⟩ := okWide_slice Try.underlying22 (hval 0 22 v0 rfl rfl)
  have k0 := h0
  have lt0 : ∀ x ∈ p0, x.block < W.heap.size := by obtain ⟨m, hm⟩ := k0; exact DataW.trod_lt m _ _ _ hm
  obtain ⟨z0, w0⟩ : ∃ zs, IsRow .u8 W a0 len0 cap0 zs := by
    obtain ⟨fuel, hf⟩ := h0
    rcases open_ints Try.underlying22 Try.underlying5 (by kernel_rfl) hf with ⟨hcs, _⟩ | ⟨x, l, c, zs, hcs, _, hl, hm, hz, _, hcell, hwz⟩
    · simp [Value.cells] at hcs
      obtain ⟨rfl, rfl, rfl⟩ := hcs
      exact ⟨[], .inl ⟨rfl, rfl, rfl, rfl⟩⟩
    · simp [Value.cells] at hcs
      obtain ⟨rfl, rfl, rfl⟩ := hcs
      exact ⟨zs, .inr ⟨_, rfl, hl, hm, by simpa using hz, hcell, hwz⟩⟩
  obtain ⟨a1, len1, cap1, rfl⟩ := okWide_slice Try.underlying22 (hval 1 22 v1 rfl rfl)
  have k1 := h1
  have lt1 : ∀ x ∈ p1, x.block < W.heap.size := by obtain ⟨m, hm⟩ := k1; exact DataW.trod_lt m _ _ _ hm
  obtain ⟨z1, w1⟩ : ∃ zs, IsRow .u8 W a1 len1 cap1 zs := by
    obtain ⟨fuel, hf⟩ := h1
    rcases open_ints Try.underlying22 Try.underlying5 (by kernel_rfl) hf with ⟨hcs, _⟩ | ⟨x, l, c, zs, hcs, _, hl, hm, hz, _, hcell, hwz⟩
    · simp [Value.cells] at hcs
      obtain ⟨rfl, rfl, rfl⟩ := hcs
      exact ⟨[], .inl ⟨rfl, rfl, rfl, rfl⟩⟩
    · simp [Value.cells] at hcs
      obtain ⟨rfl, rfl, rfl⟩ := hcs
      exact ⟨zs, .inr ⟨_, rfl, hl, hm, by simpa using hz, hcell, hwz⟩⟩
  clear hA0 hval0
  refine (walk a0 len0 cap0 z0 a1 len1 cap1 z1 W w0 w1).mono fun e W' ⟨he, bel⟩ => ?_
  subst he
  exact ⟨_, rfl, _, _, _, [], _, [], hW', trodAll_mk1 (shut_bool Try.underlying4 _), (trodAll_cons_mk (Below.trod laidOut (by kernel_rfl) (of_decide_eq_true (by kernel_rfl)) k0 bel lt0) (trodAll_cons_mk (Below.trod laidOut (by kernel_rfl) (of_decide_eq_true (by kernel_rfl)) k1 bel lt1) trodAll_mk0)), rfl, bel.frame _, fun h => by cases h⟩

theorem over : Rows.fnMeanBinRow.holds Try.pinned (OpenSpec.ofChange Rows.fnMeanBinSpec) :=
  OpenClaim.holds_of_wide 4 Try.f4 rfl rfl rfl rfl rfl rfl rfl ⟨rfl, rfl, rfl, rfl, rfl⟩ rfl rfl rfl rfl rfl (by kernel_rfl) Try.func4 (by kernel_rfl)
    (of_decide_eq_true (by kernel_rfl)) (by unfold Func.isWrapper; first | (rw [if_pos (by decide +kernel)]; kernel_rfl) | (rw [if_neg (by decide +kernel)]; exact ⟨rfl, rfl⟩))
    (fun os started H enc _ => lifted os started H enc)

/-- ████ THE STATEMENT ████ -/
theorem proved : Rows.FnMeanBinSaid := over
#print axioms proved
end Go.Proofs.Ytkcbgeldnibjcab.fnMeanBin
