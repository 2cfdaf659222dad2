/- For every input, the law FnSlopeMean of the given statements returns true over the program at this commit, and its arguments read afterwards as before: no condition. -/
import Derived.Test.YthpfehjjaamkkacRows
import Derived.Test.YthpfehjjaamkkacLawK
import Derived.WalkKit
import Derived.ProofKit
import Derived.OpenShut
import Derived.ShutString
import Derived.ChangeOld
import Derived.Below
namespace Go.Proofs.Ythpfehjjaamkkac.fnSlopeMean
open Go.ChangeShapes Go.WideShapes Go.ChangeAt Go.RowKit
open Go.ChangeMaps (open_string shut_string)
set_option linter.unusedVariables false

theorem own : ownKnob Try.prog.godebug = none := by kernel_rfl
theorem laidOut : laidOutB Try.prog = true := by kernel_rfl

/-- WHAT THE WALK IS TOLD OF A SLICE OF INTEGERS THAT CAME IN: it is nil; or it leads to a row of 'cap' cells, the numbers 'zs' (the first 'len' are its elements, the rest its spare room), each fitting its kind. -/
def IsRow (k : IntKind) (w : World) (a : Option Addr) (len cap : Nat) (zs : List Int) : Prop :=
  (a = none ∧ len = 0 ∧ cap = 0 ∧ zs = []) ∨
  ∃ x, a = some x ∧ len ≤ cap ∧ cap ≤ maxLen ∧ zs.length = cap ∧ (∀ i, i < zs.length → w.cell? (x.add i) = some (.int k (zs.getD i 0))) ∧ ∀ n ∈ zs, (Lit.int k n).wf = true

set_option maxRecDepth 100000 in
set_option maxHeartbeats 3200000 in
theorem walk (a0 : Option Addr) (len0 cap0 : Nat) (z0 : List Int) (w : World) (w0 : IsRow .u8 w a0 len0 cap0 z0) :
    Calls Try.prog 4 #[.slice a0 len0 cap0] w fun e w' => e = .returned (.bool true) ∧ Below w.heap.size w w' := by
  have hB := bytes_of w0
  by_cases hl : 1048576 < len0
  · have hdec : decide (1048576 < len0) = true := by simpa using hl
    go_enter Try.func4, Try.ntmps4
    go_wp2_with fail
    go_ret
    exact ⟨rfl, Below.refl _ _⟩
  have hdec : decide (1048576 < len0) = false := by simpa using hl
  have hm : len0 ≤ 1048576 := by omega
  go_enter Try.func4, Try.ntmps4
  go_wp2_with fail
  refine (DrawCurveSlope_any hB).mono ?_
  rintro e wv1 ⟨v, l, x, rfl, hr, hbd, hl, hx0, hx1, b1⟩
  clear w0 hB
  have S := St.start b1
  clear b1
  have R := Lib.hid hr
  clear hr
  have BD := Lib.hid hbd
  clear hbd
  have xw := wf_small hx0 hx1
  cases hs : slopeV l x
  · have HN := Lib.hid hs
    clear hs
    go_wp2_with fail
    refine (got_no (implCurveSlope_any x xw R.out) (.inl HN.out)).mono ?_
    rintro e wv2 ⟨rfl, b2⟩
    replace R := Lib.hid ((R.out.grow b2).alloc 0 0 35)
    replace S := (S.next b2).alloc 0 0
    clear b2
    have r := S.holds
    simp only [Holds, and_true] at r
    try simp only [World.size_alloc] at r
    go_wp2_with fail
    refine (got_no (specCurveSlope_any x R.out) (.inl HN.out)).mono ?_
    rintro e wv3 ⟨rfl, b3⟩
    replace R := Lib.hid ((R.out.grow b3).alloc 0 0 35)
    replace S := (S.next b3).alloc 0 0
    clear b3
    clear r
    have r := S.holds
    simp only [Holds, and_true] at r
    try simp only [World.size_alloc] at r
    go_wp2_with fail
    go_ret
    exact ⟨by simp, S.below⟩
  obtain ⟨j, rfl, hc, hj⟩ := slopeV_nat hs
  have HC := Lib.hid hc; have HS := Lib.hid hs; have SR := Lib.hid (slopeR_is hj)
  obtain ⟨ux, uy⟩ := isCurve_up hc j hj
  have DA := Lib.hid (isCurve_dp hc j (by omega)); have DB := Lib.hid (isCurve_dp hc (j + 1) hj)
  have SF := Lib.hid (sl_fits DA.out DB.out ux uy)
  clear hs hc
  go_wp2_with fail
  refine (got_yes (implCurveSlope_any j xw R.out) HS.out (by rw [SR.out]; exact SF.out)).mono ?_
  rintro e wv2 ⟨n, d, rfl, hf, hq, b2⟩
  replace R := Lib.hid ((R.out.grow b2).alloc n d 35)
  replace S := (S.next b2).alloc n d
  clear b2
  have r := S.holds
  simp only [Holds, and_true] at r
  try simp only [World.size_alloc] at r
  have HF := Lib.hid hf; have HQ := Lib.hid (hq.trans SR.out)
  clear hf
  go_wp2_with fail
  refine (got_same (got_yes (specCurveSlope_any j R.out) HS.out (by rw [SR.out]; exact SF.out)) HF.out hq).mono ?_
  rintro e wv3 ⟨rfl, b3⟩
  replace R := Lib.hid ((R.out.grow b3).alloc n d 35)
  replace S := (S.next b3).alloc n d
  clear b3
  clear r
  have r := S.holds
  simp only [Holds, and_true] at r
  try simp only [World.size_alloc] at r
  clear hq
  obtain ⟨g, o, cp, rfl, hcap, hcapm⟩ := R.out.known hl
  unfold maxLen at hcapm
  obtain ⟨m, hm⟩ : ∃ m, l.length = m + 1 := ⟨l.length - 1, by omega⟩
  rw [hm] at hcap
  rw [hm] at R
  rw [hm]
  have HM := Lib.hid hm
  have em : l.length - 1 = m := by omega
  have hml : m < l.length := by omega
  have h0l : 0 < l.length := by omega
  have q0 : (0 : Int) < (m : Int) + 1 := by omega
  have q1 : 0 < m + 1 := by omega
  have q2 : IntKind.i64.wrap ((m : Int) + 1 - 1) = (m : Int) := by rw [show (m : Int) + 1 - 1 = m by omega]; exact IntWalk.i64_in _ (by omega)
  have q2' : IntKind.i64.wrap (m : Int) = (m : Int) := IntWalk.i64_in _ (by omega)
  have q3 : (0 : Int) ≤ (m : Int) := by omega
  have q4 : (m : Int) < (m : Int) + 1 := by omega
  have q5 : m < m + 1 := by omega
  have hm12 : m ≤ 11 := by have := isCurve_len HC.out; omega
  have hm1 : 1 ≤ m := by have := isCurve_len HC.out; omega
  have w00 := wf_small (x := 0) (by omega) (by omega)
  have EC := Lib.hid (by have := isCurve_ends HC.out h0l; simp only [em] at this; exact this : isCurve [l[0], l[m]] = true)
  have SV0 : Hid (slopeV [l[0], l[m]] 0 = true) := Lib.hid (slopeV_is (j := 0) EC.out (by simp))
  have SR0 : Hid (slopeR [l[0], l[m]] 0 = sl l[0] l[m]) := Lib.hid (slopeR_is (l := [l[0], l[m]]) (k := 0) (by simp))
  have up0 := isCurve_up EC.out 0 (by simp)
  have SF0 := Lib.hid (sl_fits (isCurve_dp HC.out 0 h0l) (isCurve_dp HC.out m hml) up0.1 up0.2)
  clear up0
  obtain ⟨f0, f1⟩ := R.out.cells 0 h0l
  simp only [Nat.zero_mul, Nat.add_zero] at f0 f1
  obtain ⟨t0, t1⟩ := R.out.cells m hml
  have RT := fun (W : World) (b : Nat) (h0 : W.cell? ⟨b, 0, none⟩ = some (.int .i64 l[0].1)) (h1 : W.cell? ⟨b, 1, none⟩ = some (.int .i64 l[0].2)) (h2 : W.cell? ⟨b, 2, none⟩ = some (.int .i64 l[m].1)) (h3 : W.cell? ⟨b, 3, none⟩ = some (.int .i64 l[m].2)) => implCurveSlope_any 0 w00 (row_two h0 h1 h2 h3)
  go_upto_region 8 with fail
  generalize (wv3.alloc (.cells #[.int .i64 n, .int .i64 d] 35)) = W3 at S R f0 f1 t0 t1 r ⊢
  go_cut [9, 10] (fun s0 s1 wx => TwoMid (slopeV [l[0], l[m]] 0) (slopeR [l[0], l[m]] 0) W3 [] s0 s1 wx)
  case first =>
    have mkS : ∀ w' : World, Below W3.heap.size W3 w' → (Below W3.heap.size W3 w' ∧ w'.cell? ⟨g, o, none⟩ = some (.int .i64 l[0].1) ∧ w'.cell? ⟨g, o + 1, none⟩ = some (.int .i64 l[0].2) ∧ w'.cell? ⟨g, o + m * 2, none⟩ = some (.int .i64 l[m].1) ∧ w'.cell? ⟨g, o + m * 2 + 1, none⟩ = some (.int .i64 l[m].2)) := fun w' b => ⟨b, (b.cell (cell_below f0)).trans f0, (b.cell (cell_below f1)).trans f1, (b.cell (cell_below t0)).trans t0, (b.cell (cell_below t1)).trans t1⟩
    have held : ∀ W w' : World, Below W.heap.size W w' → (Below W3.heap.size W3 W ∧ W.cell? ⟨g, o, none⟩ = some (.int .i64 l[0].1) ∧ W.cell? ⟨g, o + 1, none⟩ = some (.int .i64 l[0].2) ∧ W.cell? ⟨g, o + m * 2, none⟩ = some (.int .i64 l[m].1) ∧ W.cell? ⟨g, o + m * 2 + 1, none⟩ = some (.int .i64 l[m].2)) → (Below W3.heap.size W3 w' ∧ w'.cell? ⟨g, o, none⟩ = some (.int .i64 l[0].1) ∧ w'.cell? ⟨g, o + 1, none⟩ = some (.int .i64 l[0].2) ∧ w'.cell? ⟨g, o + m * 2, none⟩ = some (.int .i64 l[m].1) ∧ w'.cell? ⟨g, o + m * 2 + 1, none⟩ = some (.int .i64 l[m].2)) := fun W w' b h => mkS w' (h.1.trans (b.mono h.1.size))
    have heldSet : ∀ (W w' : World) (k' : Nat) (x y : Int), W3.heap.size ≤ k' → w' = (W.setCell ⟨k', 0, none⟩ (.int .i64 x)).setCell ⟨k', 1, none⟩ (.int .i64 y) → (Below W3.heap.size W3 W ∧ W.cell? ⟨g, o, none⟩ = some (.int .i64 l[0].1) ∧ W.cell? ⟨g, o + 1, none⟩ = some (.int .i64 l[0].2) ∧ W.cell? ⟨g, o + m * 2, none⟩ = some (.int .i64 l[m].1) ∧ W.cell? ⟨g, o + m * 2 + 1, none⟩ = some (.int .i64 l[m].2)) → (Below W3.heap.size W3 w' ∧ w'.cell? ⟨g, o, none⟩ = some (.int .i64 l[0].1) ∧ w'.cell? ⟨g, o + 1, none⟩ = some (.int .i64 l[0].2) ∧ w'.cell? ⟨g, o + m * 2, none⟩ = some (.int .i64 l[m].1) ∧ w'.cell? ⟨g, o + m * 2 + 1, none⟩ = some (.int .i64 l[m].2)) := fun W w' k' x y hk e h => by
      subst e
      exact mkS _ ((h.1.setCell (p := ⟨k', 0, none⟩) hk _).setCell (p := ⟨k', 1, none⟩) hk _)
    have keep0 := mkS _ (Below.refl W3.heap.size W3).drew
    have keepY := mkS _ ((Below.refl W3.heap.size W3).alloc (Nat.le_refl _) (.cells #[.int .i64 0, .int .i64 0] 35)).drew
    have keepB := mkS _ ((Below.refl W3.heap.size W3).alloc (Nat.le_refl _) (.cells #[.int .i64 l[0].1, .int .i64 l[0].2, .int .i64 l[m].1, .int .i64 l[m].2] 29)).drew
    have keepBY := mkS _ (((Below.refl W3.heap.size W3).alloc (Nat.le_refl _) (.cells #[.int .i64 l[0].1, .int .i64 l[0].2, .int .i64 l[m].1, .int .i64 l[m].2] 29)).alloc (by simp) (.cells #[.int .i64 0, .int .i64 0] 35)).drew
    have keepYB := mkS _ (((Below.refl W3.heap.size W3).alloc (Nat.le_refl _) (.cells #[.int .i64 0, .int .i64 0] 35)).alloc (by simp) (.cells #[.int .i64 l[0].1, .int .i64 l[0].2, .int .i64 l[m].1, .int .i64 l[m].2] 29)).drew
    have atR := fun (W : World) (h : (Below W3.heap.size W3 W ∧ W.cell? ⟨g, o, none⟩ = some (.int .i64 l[0].1) ∧ W.cell? ⟨g, o + 1, none⟩ = some (.int .i64 l[0].2) ∧ W.cell? ⟨g, o + m * 2, none⟩ = some (.int .i64 l[m].1) ∧ W.cell? ⟨g, o + m * 2 + 1, none⟩ = some (.int .i64 l[m].2))) => R.out.grow h.1
    have tok0 : True := trivial
    go_region_held3 (fun w' => (Below W3.heap.size W3 w' ∧ w'.cell? ⟨g, o, none⟩ = some (.int .i64 l[0].1) ∧ w'.cell? ⟨g, o + 1, none⟩ = some (.int .i64 l[0].2) ∧ w'.cell? ⟨g, o + m * 2, none⟩ = some (.int .i64 l[m].1) ∧ w'.cell? ⟨g, o + m * 2 + 1, none⟩ = some (.int .i64 l[m].2))) (first | (with_reducible exact keep0) | (with_reducible exact keepY) | (with_reducible exact keepB) | (with_reducible exact keepBY) | (with_reducible exact keepYB) | (with_reducible exact hs0) | (with_reducible exact (held _ _ ((Below.refl _ _).alloc (Nat.le_refl _) _) hs0)) | (have _q := hs0; exact heldSet _ _ _ _ _ (by omega) rfl hs0)) (first | (go_at_call 18; (first | ((with_reducible change Calls Try.prog 18 #[.slice (some ⟨W3.heap.size, 0, none⟩) 2 2, .int .i64 0] _ _); refine Calls.mono (RT _ (W3.heap.size) ?_ ?_ ?_ ?_) ?_; (focus go_cell); (focus go_cell); (focus go_cell); (focus go_cell)) | ((with_reducible change Calls Try.prog 18 #[.slice (some ⟨W3.heap.size + 1, 0, none⟩) 2 2, .int .i64 0] _ _); refine Calls.mono (RT _ (W3.heap.size + 1) ?_ ?_ ?_ ?_) ?_; (focus go_cell); (focus go_cell); (focus go_cell); (focus go_cell))); rintro e x0 ⟨n5, d5, ok5, rfl, hr5, b0⟩; have hs0 := held _ _ b0 (by assumption); have hz0 := hs0.1.size; (first | (have zz := top_two (u := .int .i64 0) (v := .int .i64 0) (t := 35) b0) | (have zz := top_two_drew (u := .int .i64 0) (v := .int .i64 0) (t := 35) b0) | (replace zz := later_two b0 zz) | (have zz := later_two (k := W3.heap.size) (u := .int .i64 0) (v := .int .i64 0) b0 ⟨by go_cell, by go_cell, by go_simp, by go_simp, by simp; omega⟩) | skip); (try simp only [World.size_alloc] at zz)))
    all_goals
      clear keep0 keepY held heldSet
      have S5 : St W3 x0 [] := ⟨hs0.1, trivial⟩
      first
        | (
            fail_if_success (have q := zz)
            go_wp2
            go_meet
            exact TwoMid.mk hr5 (S5.alloc _ _))
        | (
            go_wp2
            go_meet
            exact TwoMid.mk hr5 (St.put2 (St.put zz S5) (by omega) (by simp only [Apart]) _ _))
  case rest =>
    revert hcut
    revert wc
    intro wv4 hcut
    obtain ⟨k4, na, da, ok, rfl, rfl, hr, S5⟩ := hcut
    replace R := Lib.hid (R.out.grow S5.below)
    replace S := S.more S5
    clear S5
    clear r
    have r := S.holds
    simp only [Holds, and_true] at r
    try simp only [World.size_alloc] at r
    obtain ⟨rfl, hfa, hqa⟩ := res_got hr SV0.out (by rw [SR0.out]; exact SF0.out)
    have HFA := Lib.hid hfa; have HQA := Lib.hid (hqa.trans SR0.out)
    clear hfa hqa hr f0 f1 t0 t1
    have LO := Lib.hid (slopes_low HC.out h0l (s := sl l[0] l[m]) (by simp only [em]; exact Rat.le_refl))
    have HI := Lib.hid (slopes_high HC.out h0l (s := sl l[0] l[m]) (by simp only [em]; exact Rat.le_refl))
    have pd := fv_part HF.out
    go_wp2_with fail
    go_loopg [11, 12, 13] m (fun rr lv hv z wr => ∃ (j : Nat) (lo hi : Bool), lv = .bool lo ∧ hv = .bool hi ∧ z = .int .i64 j ∧ j + rr = m ∧ (∀ i (h : i + 1 < l.length), i < j → sl (l[i]'(by omega)) l[i + 1] ≤ sl l[0] l[m] → lo = true) ∧ (∀ i (h : i + 1 < l.length), i < j → sl l[0] l[m] ≤ sl (l[i]'(by omega)) l[i + 1] → hi = true) ∧ Below wv4.heap.size wv4 wr)
    case atStart => exact ⟨0, false, false, rfl, rfl, rfl, by omega, fun i _ h => by omega, fun i _ h => by omega, Below.refl _ _⟩
    case round =>
      obtain ⟨j', lo, hi, rfl, rfl, rfl, hk, hlo, hhi, hb⟩ := hrel
      have K := Lib.hid hk; have LOW := Lib.hid hlo; have HIG := Lib.hid hhi
      have hjl : j' ≤ m := by omega
      clear hk hlo hhi
      have Q := St.start hb
      replace R := Lib.hid (R.out.grow hb)
      replace S := S.next hb
      clear hb
      clear r
      have r := S.holds
      simp only [Holds, and_true] at r
      try simp only [World.size_alloc] at r
      have a2 : IntKind.i64.wrap ((j' : Int) + 1) = (j' : Int) + 1 := IntWalk.i64_in _ (by omega)
      by_cases hlt : j' < m
      · have h2i : (j' : Int) + 1 < (m : Int) + 1 := by omega
        have hj1 : j' + 1 < l.length := by omega
        obtain ⟨vx, vy⟩ := isCurve_up HC.out j' hj1
        have SFj := Lib.hid (sl_fits (isCurve_dp HC.out j' (by omega)) (isCurve_dp HC.out (j' + 1) hj1) vx vy)
        have SRj := Lib.hid (slopeR_is hj1)
        have SVj : Hid (slopeV l j' = true) := Lib.hid (slopeV_is HC.out hj1)
        go_wp2_with fail
        refine (got_yes (implCurveSlope_any j' (wf_small (by omega) (by omega)) R.out) SVj.out (by rw [SRj.out]; exact SFj.out)).mono ?_
        rintro e wv5 ⟨n3, d3, rfl, hf3, hq3, b5⟩
        replace R := Lib.hid ((R.out.grow b5).alloc n3 d3 35)
        replace S := (S.next b5).alloc n3 d3
        replace Q := (Q.next b5).alloc n3 d3
        clear b5
        clear r
        have r := S.holds
        simp only [Holds, and_true] at r
        try simp only [World.size_alloc] at r
        have HF3 := Lib.hid hf3; have HQ3 := Lib.hid (hq3.trans SRj.out)
        clear hf3 hq3
        obtain ⟨b1, hb1⟩ : ∃ b1, decide (fq na da < fq n3 d3) = b1 := ⟨_, rfl⟩
        obtain ⟨b2, hb2⟩ : ∃ b2, decide (fq n3 d3 < fq na da) = b2 := ⟨_, rfl⟩
        have HB1 := Lib.hid hb1; have HB2 := Lib.hid hb2
        clear hb1 hb2
        cases lo
        · skip
          have LN : Hid (∀ i (h : i + 1 < l.length), i < j' + 1 → sl (l[i]'(by omega)) l[i + 1] ≤ sl l[0] l[m] → (!b1) = true) := Lib.hid (fun i h hij hs => by
            by_cases e : i = j'
            · subst e; have := HB1.out; rw [HQA.out, HQ3.out] at this; rw [← this, Bool.not_eq_true', decide_eq_false_iff_not]; grind
            · exact absurd (LOW.out i h (by omega) hs) (by simp))
          go_wp2_with fail
          refine (less_is' HFA.out HF3.out HB1.out _).mono ?_
          rintro e wv6 ⟨rfl, b6⟩
          replace R := Lib.hid ((R.out.grow b6))
          replace S := (S.next b6)
          replace Q := (Q.next b6)
          clear b6
          clear r
          have r := S.holds
          simp only [Holds, and_true] at r
          try simp only [World.size_alloc] at r
          cases hi
          · skip
            have HN : Hid (∀ i (h : i + 1 < l.length), i < j' + 1 → sl l[0] l[m] ≤ sl (l[i]'(by omega)) l[i + 1] → (!b2) = true) := Lib.hid (fun i h hij hs => by
              by_cases e : i = j'
              · subst e; have := HB2.out; rw [HQA.out, HQ3.out] at this; rw [← this, Bool.not_eq_true', decide_eq_false_iff_not]; grind
              · exact absurd (HIG.out i h (by omega) hs) (by simp))
            go_wp2_with fail
            refine (less_is' HF3.out HFA.out HB2.out _).mono ?_
            rintro e wv7 ⟨rfl, b7⟩
            replace R := Lib.hid ((R.out.grow b7))
            replace S := (S.next b7)
            replace Q := (Q.next b7)
            clear b7
            clear r
            have r := S.holds
            simp only [Holds, and_true] at r
            try simp only [World.size_alloc] at r
            go_wp2_with fail
            go_roundg (gk - 1)
            case measure => have := K.out; omega
            case rel => exact ⟨j' + 1, _, _, rfl, rfl, by go_num, by have := K.out; omega, LN.out, HN.out, Q.below⟩
          · skip
            go_wp2_with fail
            go_roundg (gk - 1)
            case measure => have := K.out; omega
            case rel => exact ⟨j' + 1, _, _, rfl, rfl, by go_num, by have := K.out; omega, LN.out, fun _ _ _ _ => rfl, Q.below⟩
        · skip
          cases hi
          · skip
            have HN : Hid (∀ i (h : i + 1 < l.length), i < j' + 1 → sl l[0] l[m] ≤ sl (l[i]'(by omega)) l[i + 1] → (!b2) = true) := Lib.hid (fun i h hij hs => by
              by_cases e : i = j'
              · subst e; have := HB2.out; rw [HQA.out, HQ3.out] at this; rw [← this, Bool.not_eq_true', decide_eq_false_iff_not]; grind
              · exact absurd (HIG.out i h (by omega) hs) (by simp))
            go_wp2_with fail
            refine (less_is' HF3.out HFA.out HB2.out _).mono ?_
            rintro e wv6 ⟨rfl, b6⟩
            replace R := Lib.hid ((R.out.grow b6))
            replace S := (S.next b6)
            replace Q := (Q.next b6)
            clear b6
            clear r
            have r := S.holds
            simp only [Holds, and_true] at r
            try simp only [World.size_alloc] at r
            go_wp2_with fail
            go_roundg (gk - 1)
            case measure => have := K.out; omega
            case rel => exact ⟨j' + 1, _, _, rfl, rfl, by go_num, by have := K.out; omega, fun _ _ _ _ => rfl, HN.out, Q.below⟩
          · skip
            go_wp2_with fail
            go_roundg (gk - 1)
            case measure => have := K.out; omega
            case rel => exact ⟨j' + 1, _, _, rfl, rfl, by go_num, by have := K.out; omega, fun _ _ _ _ => rfl, fun _ _ _ _ => rfl, Q.below⟩
      · have h2i : ¬ (j' : Int) + 1 < (m : Int) + 1 := by omega
        clear Q
        obtain rfl : lo = true := by obtain ⟨i, h, e⟩ := LO.out; exact LOW.out i h (by omega) e
        obtain rfl : hi = true := by obtain ⟨i, h, e⟩ := HI.out; exact HIG.out i h (by omega) e
        have pd0 : 0 < d := by omega
        go_wp2_with fail
        go_ret
        exact ⟨by first | rfl | (simp; done) | (simp; omega), S.below⟩

set_option maxRecDepth 100000 in
theorem lifted (os : Os) (started : os.Started) (H : Type) (enc : TypeId × Value → H) :
    ReturnsInHanded {} Try.checked os 4 .any (Rows.fnSlopeMeanSpec.pre6 enc Try.prog Try.f4 Rows.fnSlopeMeanRow.domain false) (Rows.fnSlopeMeanSpec.post enc Try.prog Try.f4 false true false false) := by
  refine returnsInHanded_of_change (C := Try.checked) own started (by kernel_rfl) Try.func4
    (ChangeSpec.witness6 (enc := enc) (C := Try.checked) false ⟨#[], #[.slice none 0 0], []⟩ 8 (by kernel_rfl) (by kernel_rfl) (by kernel_rfl) (by kernel_rfl)) ?_
  intro W base args ds gs before hval0 hW hcnd _
  have hval : ∀ (j : Nat) t v, Try.f4.params[j]? = some t → args[j]? = some v → Value.okWide Try.prog W .any base t v := hval0
  have hW' := hW
  obtain ⟨p, q, hA0, hV, rfl, hfz, hnd⟩ := hW
  have hA : DataW.TrodAll enc Try.prog W 0 (fun _ => true) true Try.f4.params.toList args.toList ds p := hA0
  rw [Try.params4] at hA hval
  obtain ⟨v0, vs0, d0, ds0, p0, q0, hargs, rfl, rfl, h0, r0⟩ := trodAll_cons hA
  obtain ⟨rfl, rfl, rfl⟩ := trodAll_nil r0
  obtain rfl : args = #[v0] := by cases args; simp_all
  obtain ⟨rfl, rfl⟩ := trodVars_none hV
  obtain ⟨a0, len0, cap0, rfl⟩ := okWide_slice Try.underlying22 (hval 0 22 v0 rfl rfl)
  have k0 := h0
  have lt0 : ∀ x ∈ p0, x.block < W.heap.size := by obtain ⟨m, hm⟩ := k0; exact DataW.trod_lt m _ _ _ hm
  obtain ⟨z0, w0⟩ : ∃ zs, IsRow .u8 W a0 len0 cap0 zs := by
    obtain ⟨fuel, hf⟩ := h0
    rcases open_ints Try.underlying22 Try.underlying5 (by kernel_rfl) hf with ⟨hcs, _⟩ | ⟨x, l, c, zs, hcs, _, hl, hm, hz, _, hcell, hwz⟩
    · simp [Value.cells] at hcs
      obtain ⟨rfl, rfl, rfl⟩ := hcs
      exact ⟨[], .inl ⟨rfl, rfl, rfl, rfl⟩⟩
    · simp [Value.cells] at hcs
      obtain ⟨rfl, rfl, rfl⟩ := hcs
      exact ⟨zs, .inr ⟨_, rfl, hl, hm, by simpa using hz, hcell, hwz⟩⟩
  clear hA0 hval0
  refine (walk a0 len0 cap0 z0 W w0).mono fun e W' ⟨he, bel⟩ => ?_
  subst he
  exact ⟨_, rfl, _, _, _, [], _, [], hW', trodAll_mk1 (shut_bool Try.underlying4 _), (trodAll_cons_mk (Below.trod laidOut (by kernel_rfl) (of_decide_eq_true (by kernel_rfl)) k0 bel lt0) trodAll_mk0), rfl, bel.frame _, fun h => by cases h⟩

theorem over : Rows.fnSlopeMeanRow.holds Try.pinned (OpenSpec.ofChange Rows.fnSlopeMeanSpec) :=
  OpenClaim.holds_of_wide 4 Try.f4 rfl rfl rfl rfl rfl rfl rfl ⟨rfl, rfl, rfl, rfl, rfl⟩ rfl rfl rfl rfl rfl (by kernel_rfl) Try.func4 (by kernel_rfl)
    (of_decide_eq_true (by kernel_rfl)) (by unfold Func.isWrapper; first | (rw [if_pos (by decide +kernel)]; kernel_rfl) | (rw [if_neg (by decide +kernel)]; exact ⟨rfl, rfl⟩))
    (fun os started H enc _ => lifted os started H enc)

/-- ████ THE STATEMENT ████ -/
theorem proved : Rows.FnSlopeMeanSaid := over
#print axioms proved
end Go.Proofs.Ythpfehjjaamkkac.fnSlopeMean
