/- For every input, the law FnAtDouble of the given statements returns true over the program at this commit, and its arguments read afterwards as before: no condition. -/
import Derived.Test.YthpfehjjaamkkabRows
import Derived.Test.YthpfehjjaamkkabLawK
import Derived.WalkKit
import Derived.ProofKit
import Derived.OpenShut
import Derived.ShutString
import Derived.ChangeOld
import Derived.Below
namespace Go.Proofs.Ythpfehjjaamkkab.fnAtDouble
open Go.ChangeShapes Go.WideShapes Go.ChangeAt Go.RowKit
open Go.ChangeMaps (open_string shut_string)
set_option linter.unusedVariables false

theorem own : ownKnob Try.prog.godebug = none := by kernel_rfl
theorem laidOut : laidOutB Try.prog = true := by kernel_rfl

/-- WHAT THE WALK IS TOLD OF A SLICE OF INTEGERS THAT CAME IN: it is nil; or it leads to a row of 'cap' cells, the numbers 'zs' (the first 'len' are its elements, the rest its spare room), each fitting its kind. -/
def IsRow (k : IntKind) (w : World) (a : Option Addr) (len cap : Nat) (zs : List Int) : Prop :=
  (a = none ∧ len = 0 ∧ cap = 0 ∧ zs = []) ∨
  ∃ x, a = some x ∧ len ≤ cap ∧ cap ≤ maxLen ∧ zs.length = cap ∧ (∀ i, i < zs.length → w.cell? (x.add i) = some (.int k (zs.getD i 0))) ∧ ∀ n ∈ zs, (Lit.int k n).wf = true

set_option maxRecDepth 100000 in
set_option maxHeartbeats 3200000 in
theorem walk (a0 : Option Addr) (len0 cap0 : Nat) (z0 : List Int) (w : World) (w0 : IsRow .u8 w a0 len0 cap0 z0) :
    Calls Try.prog 11 #[.slice a0 len0 cap0] w fun e w' => e = .returned (.bool true) ∧ Below w.heap.size w w' := by
  have hB := bytes_of w0
  by_cases hl : 1048576 < len0
  · have hdec : decide (1048576 < len0) = true := by simpa using hl
    go_enter Try.func11, Try.ntmps11
    go_wp2_with fail
    go_ret
    exact ⟨rfl, Below.refl _ _⟩
  have hdec : decide (1048576 < len0) = false := by simpa using hl
  have hm : len0 ≤ 1048576 := by omega
  go_enter Try.func11, Try.ntmps11
  go_wp2_with fail
  refine (DrawCurveAt_any hB).mono ?_
  rintro e wv1 ⟨v, l, x, rfl, hr, hbd, hl, hx0, hx1, b1⟩
  clear w0 hB
  have S := St.start b1
  clear b1
  have R := Lib.hid hr
  clear hr
  have BD := Lib.hid hbd
  clear hbd
  cases ho : onC l ((x : Int) : Rat)
  · have HO := Lib.hid ho
    clear ho
    go_wp2_with fail
    refine (at_no R.out HO.out).mono ?_
    rintro e wv2 ⟨rfl, b2⟩
    replace R := Lib.hid ((R.out.grow b2).alloc 0 0 32)
    replace S := (S.next b2).alloc 0 0
    clear b2
    have r := S.holds
    simp only [Holds, and_true] at r
    try simp only [World.size_alloc] at r
    go_wp2_with fail
    refine (at_noS R.out HO.out).mono ?_
    rintro e wv3 ⟨rfl, b3⟩
    replace R := Lib.hid ((R.out.grow b3).alloc 0 0 32)
    replace S := (S.next b3).alloc 0 0
    clear b3
    clear r
    have r := S.holds
    simp only [Holds, and_true] at r
    try simp only [World.size_alloc] at r
    go_wp2_with fail
    go_ret
    exact ⟨by simp, S.below⟩
  have HO := Lib.hid ho
  clear ho
  go_wp2_with fail
  refine (at_yes R.out HO.out).mono ?_
  rintro e wv2 ⟨n, d, rfl, hf, hq, b2⟩
  replace R := Lib.hid ((R.out.grow b2).alloc n d 32)
  replace S := (S.next b2).alloc n d
  clear b2
  have r := S.holds
  simp only [Holds, and_true] at r
  try simp only [World.size_alloc] at r
  have HF := Lib.hid hf; have HQ := Lib.hid hq
  clear hf hq
  go_wp2_with fail
  refine (got_same (at_yesS R.out HO.out) HF.out HQ.out).mono ?_
  rintro e wv3 ⟨rfl, b3⟩
  replace R := Lib.hid ((R.out.grow b3).alloc n d 32)
  replace S := (S.next b3).alloc n d
  clear b3
  clear r
  have r := S.holds
  simp only [Holds, and_true] at r
  try simp only [World.size_alloc] at r
  have HC := Lib.hid (onC_curve HO.out)
  obtain ⟨g, o, cp, rfl, hcap, hcapm⟩ := R.out.known hl
  unfold maxLen at hcapm
  obtain ⟨m, hm⟩ : ∃ m, l.length = m + 1 := ⟨l.length - 1, by omega⟩
  rw [hm] at hcap
  rw [hm] at R
  rw [hm]
  have HM := Lib.hid hm
  have em : l.length - 1 = m := by omega
  have hml : m < l.length := by omega
  have h0l : 0 < l.length := by omega
  have q0 : (0 : Int) < (m : Int) + 1 := by omega
  have q1 : 0 < m + 1 := by omega
  have q2 : IntKind.i64.wrap ((m : Int) + 1 - 1) = (m : Int) := by rw [show (m : Int) + 1 - 1 = m by omega]; exact IntWalk.i64_in _ (by omega)
  have q2' : IntKind.i64.wrap (m : Int) = (m : Int) := IntWalk.i64_in _ (by omega)
  have q3 : (0 : Int) ≤ (m : Int) := by omega
  have q4 : (m : Int) < (m : Int) + 1 := by omega
  have q5 : m < m + 1 := by omega
  have hm12 : m ≤ 11 := by have := isCurve_len HC.out; omega
  go_upto_region 8 with fail
  generalize (wv3.alloc (.cells #[.int .i64 n, .int .i64 d] 32)) = W3 at S R r ⊢
  have hgW : g < W3.heap.size := cell_below (R.out.cells 0 h0l).1
  have O0 := Lib.hid (own_new 25 (w := W3) (B := W3.heap.size) (Nat.le_refl _))
  have T0 : Hid ((l.take 0).map doubleK = []) := Lib.hid rfl
  go_wp2_with fail
  go_loopg [9, 10] l.length (fun rr vb z wr => ∃ j : Nat, z = .int .i64 j ∧ j + rr = l.length ∧ Own 25 wr W3.heap.size vb ((l.take j).map doubleK) ∧ Below W3.heap.size W3 wr)
  case atStart => exact ⟨0, rfl, by omega, O0.out, by go_grown⟩
  case round =>
    obtain ⟨j, rfl, hk, ho, hb⟩ := hrel
    have K := Lib.hid hk; have OB := Lib.hid ho; have BB := Lib.hid hb
    have hjl : j ≤ l.length := by omega
    clear hk ho
    have Q := St.start hb
    replace R := Lib.hid (R.out.grow hb)
    replace S := S.next hb
    clear hb
    clear r
    have r := S.holds
    simp only [Holds, and_true] at r
    try simp only [World.size_alloc] at r
    by_cases hlt : j < l.length
    · clear r Q S
      have a6 : (0 : Int) ≤ (j : Int) := by omega
      have a7 : (j : Int) < (m : Int) + 1 := by omega
      obtain ⟨c1, c2⟩ := R.out.cells j hlt
      have dj := isCurve_dp HC.out j hlt
      have b1 : IntKind.i64.wrap (2 * l[j].2) = 2 * l[j].2 := IntWalk.i64_in _ (by omega)
      have hnb := own_far OB.out hgW
      have hsz := BB.out.size
      have hgl : g < wr.heap.size := by omega
      obtain ⟨n1, n2⟩ := new_two_drew wr (.int .i64 l[j].1) (.int .i64 (2 * l[j].2)) 25
      have N1 := Lib.hid n1; have N2 := Lib.hid n2
      clear n1 n2
      go_wp2_with fail
      go_region_held3 (fun w' => w'.cell? ⟨g, o + j * 2, none⟩ = some (.int .i64 l[j].1) ∧ w'.cell? ⟨g, o + j * 2 + 1, none⟩ = some (.int .i64 l[j].2))
        (first | go_keep | (go_split_ands; exact ⟨(hgrow.cell_far _ (by simp; omega) (Ne.symm hnb)).trans ‹_›, (hgrow.cell_far _ (by simp; omega) (Ne.symm hnb)).trans ‹_›⟩))
        ((refine step_append_pair knotT (by rfl) _ _ (by rfl) (B := W3.heap.size) _ _ (by rfl) ((OB.out.grow (by go_grown)).grow (by go_grown)) ⟨wr.heap.size, 0, none⟩ (l[j].1, 2 * l[j].2) (by rfl) N1.out N2.out (by simp; omega) (by simp; omega) ?_; intro v5 w5 hown5 hgrow))
      have O5 := Lib.hid hown5
      have B5 := Lib.hid (BB.out.trans (((show Below wr.heap.size wr _ by go_grown).mono hsz).trans ((Below.refl _ _).grown hgrow (by simp; omega) (fun k hk => (OB.out.lt k hk).1))))
      clear hown5 hgrow
      go_wp2_with fail
      go_roundg (gk - 1)
      case measure => have := K.out; omega
      case rel => exact ⟨j + 1, by go_num, by have := K.out; omega, by have := O5.out; rwa [double_take hlt] at this, B5.out⟩
    · have hj : ¬ (j : Int) < (m : Int) + 1 := by omega
      obtain rfl : j = l.length := by omega
      clear Q
      have RD : Hid (Row wr _ (l.map doubleK)) := Lib.hid (by have := OB.out.row; rwa [List.take_length] at this)
      have DA := Lib.hid (double_at h0l ((x : Int) : Rat))
      clear OB BB O0 T0
      cases ho2 : onC (l.map doubleK) ((x : Int) : Rat)
      · have HO2 := Lib.hid ho2
        clear ho2
        go_wp2_with fail
        refine (at_no (x := x) RD.out HO2.out).mono ?_
        rintro e wv4 ⟨rfl, b4⟩
        replace R := Lib.hid ((R.out.grow b4).alloc 0 0 32)
        replace RD := Lib.hid ((RD.out.grow b4).alloc 0 0 32)
        replace S := (S.next b4).alloc 0 0
        clear b4
        clear r
        have r := S.holds
        simp only [Holds, and_true] at r
        try simp only [World.size_alloc] at r
        have Oc0 := r.2.2.1
        have Oc1 := r.2.2.2.1
        go_upto_region 14 with fail
        generalize (wv4.alloc (.cells #[.int .i64 0, .int .i64 0] 32)) = W4 at S R RD Oc0 Oc1 r ⊢
        go_cut [13, 14] (fun s0 s1 wx => TwoMid (fv n d && fv 2 1) (fq n d * fq 2 1) W4 [] s0 s1 wx)
        case first =>
          have mkS : ∀ w' : World, Below W4.heap.size W4 w' → (Below W4.heap.size W4 w' ∧ w'.cell? ⟨wv2.heap.size, 0, none⟩ = some (.int .i64 n) ∧ w'.cell? ⟨wv2.heap.size, 1, none⟩ = some (.int .i64 d)) := fun w' b => ⟨b, (b.cell (cell_below Oc0)).trans Oc0, (b.cell (cell_below Oc1)).trans Oc1⟩
          have held : ∀ W w' : World, Below W.heap.size W w' → (Below W4.heap.size W4 W ∧ W.cell? ⟨wv2.heap.size, 0, none⟩ = some (.int .i64 n) ∧ W.cell? ⟨wv2.heap.size, 1, none⟩ = some (.int .i64 d)) → (Below W4.heap.size W4 w' ∧ w'.cell? ⟨wv2.heap.size, 0, none⟩ = some (.int .i64 n) ∧ w'.cell? ⟨wv2.heap.size, 1, none⟩ = some (.int .i64 d)) := fun W w' b h => mkS w' (h.1.trans (b.mono h.1.size))
          have heldSet : ∀ (W w' : World) (k' : Nat) (x y : Int), W4.heap.size ≤ k' → w' = (W.setCell ⟨k', 0, none⟩ (.int .i64 x)).setCell ⟨k', 1, none⟩ (.int .i64 y) → (Below W4.heap.size W4 W ∧ W.cell? ⟨wv2.heap.size, 0, none⟩ = some (.int .i64 n) ∧ W.cell? ⟨wv2.heap.size, 1, none⟩ = some (.int .i64 d)) → (Below W4.heap.size W4 w' ∧ w'.cell? ⟨wv2.heap.size, 0, none⟩ = some (.int .i64 n) ∧ w'.cell? ⟨wv2.heap.size, 1, none⟩ = some (.int .i64 d)) := fun W w' k' x y hk e h => by
            subst e
            exact mkS _ ((h.1.setCell (p := ⟨k', 0, none⟩) hk _).setCell (p := ⟨k', 1, none⟩) hk _)
          have keep0 := mkS _ (Below.refl W4.heap.size W4).drew
          have keepY := mkS _ ((Below.refl W4.heap.size W4).alloc (Nat.le_refl _) (.cells #[.int .i64 0, .int .i64 0] 32)).drew
          have atR := fun (W : World) (h : (Below W4.heap.size W4 W ∧ W.cell? ⟨wv2.heap.size, 0, none⟩ = some (.int .i64 n) ∧ W.cell? ⟨wv2.heap.size, 1, none⟩ = some (.int .i64 d))) => R.out.grow h.1
          have atRD := fun (W : World) (h : (Below W4.heap.size W4 W ∧ W.cell? ⟨wv2.heap.size, 0, none⟩ = some (.int .i64 n) ∧ W.cell? ⟨wv2.heap.size, 1, none⟩ = some (.int .i64 d))) => RD.out.grow h.1
          have tok0 : True := trivial
          have tok1 : True := trivial
          go_region_held3 (fun w' => (Below W4.heap.size W4 w' ∧ w'.cell? ⟨wv2.heap.size, 0, none⟩ = some (.int .i64 n) ∧ w'.cell? ⟨wv2.heap.size, 1, none⟩ = some (.int .i64 d))) (first | exact keep0 | exact keepY | exact hs0 | exact hs1 | (have _q := hs0; exact held _ _ ((Below.refl _ _).alloc (Nat.le_refl _) _) hs0) | (have _q := hs1; exact held _ _ ((Below.refl _ _).alloc (Nat.le_refl _) _) hs1) | (have _q := hs1; exact heldSet _ _ _ _ _ (by omega) rfl hs1)) (first | (have _t := tok0; clear tok0 _t; go_at_call 17; refine (frac_any _ _).mono ?_; rintro e x0 ⟨rfl, b0⟩; have hs0 := held _ _ b0 (by assumption); have hz0 := hs0.1.size; (first | (have zz := top_two (u := .int .i64 0) (v := .int .i64 0) (t := 32) b0) | (have zz := top_two_drew (u := .int .i64 0) (v := .int .i64 0) (t := 32) b0) | (replace zz := later_two b0 zz) | skip); (try simp only [World.size_alloc] at zz)) | (have _t := tok1; clear tok1 _t; go_at_call 31; refine (implFracMul_any _ _ _ _ _).mono ?_; rintro e x1 ⟨n5, d5, ok5, rfl, hr5, b1⟩; have hs1 := held _ _ b1 (by assumption); have hz1 := hs1.1.size; (first | (have zz := top_two (u := .int .i64 0) (v := .int .i64 0) (t := 32) b1) | (have zz := top_two_drew (u := .int .i64 0) (v := .int .i64 0) (t := 32) b1) | (replace zz := later_two b1 zz) | skip); (try simp only [World.size_alloc] at zz)))
          all_goals
            clear keep0 keepY held heldSet
            have S5 : St W4 x1 [] := ⟨hs1.1, trivial⟩
            first
              | (
                  fail_if_success (have q := zz)
                  go_wp2
                  go_meet
                  exact TwoMid.mk hr5 (S5.alloc _ _))
              | (
                  go_wp2
                  go_meet
                  exact TwoMid.mk hr5 (St.put2 (St.put zz S5) (by omega) (by simp only [Apart]) _ _))
        case rest =>
          revert hcut
          revert wc
          intro wv5 hcut
          obtain ⟨k5, n9, d9, ok, rfl, rfl, hr, S5⟩ := hcut
          replace R := Lib.hid (R.out.grow S5.below)
          replace RD := Lib.hid (RD.out.grow S5.below)
          replace S := S.more S5
          clear S5
          clear r
          have r := S.holds
          simp only [Holds, and_true] at r
          try simp only [World.size_alloc] at r
          go_wp2_with fail
          go_ret
          exact ⟨by first | rfl | (simp; done) | (simp; omega), S.below⟩
      · have HO2 := Lib.hid ho2
        clear ho2
        go_wp2_with fail
        refine (at_yes (x := x) RD.out HO2.out).mono ?_
        rintro e wv4 ⟨n2, d2, rfl, hf2, hq2, b4⟩
        replace R := Lib.hid ((R.out.grow b4).alloc n2 d2 32)
        replace RD := Lib.hid ((RD.out.grow b4).alloc n2 d2 32)
        replace S := (S.next b4).alloc n2 d2
        clear b4
        clear r
        have r := S.holds
        simp only [Holds, and_true] at r
        try simp only [World.size_alloc] at r
        have HF2 := Lib.hid hf2; have HQ2 := Lib.hid hq2
        clear hf2 hq2
        have Oc0 := r.2.2.1
        have Oc1 := r.2.2.2.1
        go_upto_region 14 with fail
        generalize (wv4.alloc (.cells #[.int .i64 n2, .int .i64 d2] 32)) = W4 at S R RD Oc0 Oc1 r ⊢
        go_cut [13, 14] (fun s0 s1 wx => TwoMid (fv n d && fv 2 1) (fq n d * fq 2 1) W4 [] s0 s1 wx)
        case first =>
          have mkS : ∀ w' : World, Below W4.heap.size W4 w' → (Below W4.heap.size W4 w' ∧ w'.cell? ⟨wv2.heap.size, 0, none⟩ = some (.int .i64 n) ∧ w'.cell? ⟨wv2.heap.size, 1, none⟩ = some (.int .i64 d)) := fun w' b => ⟨b, (b.cell (cell_below Oc0)).trans Oc0, (b.cell (cell_below Oc1)).trans Oc1⟩
          have held : ∀ W w' : World, Below W.heap.size W w' → (Below W4.heap.size W4 W ∧ W.cell? ⟨wv2.heap.size, 0, none⟩ = some (.int .i64 n) ∧ W.cell? ⟨wv2.heap.size, 1, none⟩ = some (.int .i64 d)) → (Below W4.heap.size W4 w' ∧ w'.cell? ⟨wv2.heap.size, 0, none⟩ = some (.int .i64 n) ∧ w'.cell? ⟨wv2.heap.size, 1, none⟩ = some (.int .i64 d)) := fun W w' b h => mkS w' (h.1.trans (b.mono h.1.size))
          have heldSet : ∀ (W w' : World) (k' : Nat) (x y : Int), W4.heap.size ≤ k' → w' = (W.setCell ⟨k', 0, none⟩ (.int .i64 x)).setCell ⟨k', 1, none⟩ (.int .i64 y) → (Below W4.heap.size W4 W ∧ W.cell? ⟨wv2.heap.size, 0, none⟩ = some (.int .i64 n) ∧ W.cell? ⟨wv2.heap.size, 1, none⟩ = some (.int .i64 d)) → (Below W4.heap.size W4 w' ∧ w'.cell? ⟨wv2.heap.size, 0, none⟩ = some (.int .i64 n) ∧ w'.cell? ⟨wv2.heap.size, 1, none⟩ = some (.int .i64 d)) := fun W w' k' x y hk e h => by
            subst e
            exact mkS _ ((h.1.setCell (p := ⟨k', 0, none⟩) hk _).setCell (p := ⟨k', 1, none⟩) hk _)
          have keep0 := mkS _ (Below.refl W4.heap.size W4).drew
          have keepY := mkS _ ((Below.refl W4.heap.size W4).alloc (Nat.le_refl _) (.cells #[.int .i64 0, .int .i64 0] 32)).drew
          have atR := fun (W : World) (h : (Below W4.heap.size W4 W ∧ W.cell? ⟨wv2.heap.size, 0, none⟩ = some (.int .i64 n) ∧ W.cell? ⟨wv2.heap.size, 1, none⟩ = some (.int .i64 d))) => R.out.grow h.1
          have atRD := fun (W : World) (h : (Below W4.heap.size W4 W ∧ W.cell? ⟨wv2.heap.size, 0, none⟩ = some (.int .i64 n) ∧ W.cell? ⟨wv2.heap.size, 1, none⟩ = some (.int .i64 d))) => RD.out.grow h.1
          have tok0 : True := trivial
          have tok1 : True := trivial
          go_region_held3 (fun w' => (Below W4.heap.size W4 w' ∧ w'.cell? ⟨wv2.heap.size, 0, none⟩ = some (.int .i64 n) ∧ w'.cell? ⟨wv2.heap.size, 1, none⟩ = some (.int .i64 d))) (first | exact keep0 | exact keepY | exact hs0 | exact hs1 | (have _q := hs0; exact held _ _ ((Below.refl _ _).alloc (Nat.le_refl _) _) hs0) | (have _q := hs1; exact held _ _ ((Below.refl _ _).alloc (Nat.le_refl _) _) hs1) | (have _q := hs1; exact heldSet _ _ _ _ _ (by omega) rfl hs1)) (first | (have _t := tok0; clear tok0 _t; go_at_call 17; refine (frac_any _ _).mono ?_; rintro e x0 ⟨rfl, b0⟩; have hs0 := held _ _ b0 (by assumption); have hz0 := hs0.1.size; (first | (have zz := top_two (u := .int .i64 0) (v := .int .i64 0) (t := 32) b0) | (have zz := top_two_drew (u := .int .i64 0) (v := .int .i64 0) (t := 32) b0) | (replace zz := later_two b0 zz) | skip); (try simp only [World.size_alloc] at zz)) | (have _t := tok1; clear tok1 _t; go_at_call 31; refine (implFracMul_any _ _ _ _ _).mono ?_; rintro e x1 ⟨n5, d5, ok5, rfl, hr5, b1⟩; have hs1 := held _ _ b1 (by assumption); have hz1 := hs1.1.size; (first | (have zz := top_two (u := .int .i64 0) (v := .int .i64 0) (t := 32) b1) | (have zz := top_two_drew (u := .int .i64 0) (v := .int .i64 0) (t := 32) b1) | (replace zz := later_two b1 zz) | skip); (try simp only [World.size_alloc] at zz)))
          all_goals
            clear keep0 keepY held heldSet
            have S5 : St W4 x1 [] := ⟨hs1.1, trivial⟩
            first
              | (
                  fail_if_success (have q := zz)
                  go_wp2
                  go_meet
                  exact TwoMid.mk hr5 (S5.alloc _ _))
              | (
                  go_wp2
                  go_meet
                  exact TwoMid.mk hr5 (St.put2 (St.put zz S5) (by omega) (by simp only [Apart]) _ _))
        case rest =>
          revert hcut
          revert wc
          intro wv5 hcut
          obtain ⟨k5, n9, d9, ok, rfl, rfl, hr, S5⟩ := hcut
          replace R := Lib.hid (R.out.grow S5.below)
          replace RD := Lib.hid (RD.out.grow S5.below)
          replace S := S.more S5
          clear S5
          clear r
          have r := S.holds
          simp only [Holds, and_true] at r
          try simp only [World.size_alloc] at r
          have hV : fq n d * fq 2 1 = cAt (l.map doubleK) ((x : Int) : Rat) := by rw [DA.out, HQ.out, fq_whole, Rat.mul_comm]; rfl
          obtain ⟨rfl, hf9, hq9⟩ := res_got hr (by rw [HF.out]; rfl) (by rw [hV]; exact cAt_fits HO2.out)
          obtain ⟨rfl, rfl⟩ := fq_inj hf9 HF2.out (by rw [hq9, hV, HQ2.out])
          clear hf9 hq9 hr hV
          go_wp2_with fail
          go_ret
          exact ⟨by first | rfl | (simp; done) | (simp; omega), S.below⟩

set_option maxRecDepth 100000 in
theorem lifted (os : Os) (started : os.Started) (H : Type) (enc : TypeId × Value → H) :
    ReturnsInHanded {} Try.checked os 11 .any (Rows.fnAtDoubleSpec.pre6 enc Try.prog Try.f11 Rows.fnAtDoubleRow.domain false) (Rows.fnAtDoubleSpec.post enc Try.prog Try.f11 false true false false) := by
  refine returnsInHanded_of_change (C := Try.checked) own started (by kernel_rfl) Try.func11
    (ChangeSpec.witness6 (enc := enc) (C := Try.checked) false ⟨#[], #[.slice none 0 0], []⟩ 8 (by kernel_rfl) (by kernel_rfl) (by kernel_rfl) (by kernel_rfl)) ?_
  intro W base args ds gs before hval0 hW hcnd _
  have hval : ∀ (j : Nat) t v, Try.f11.params[j]? = some t → args[j]? = some v → Value.okWide Try.prog W .any base t v := hval0
  have hW' := hW
  obtain ⟨p, q, hA0, hV, rfl, hfz, hnd⟩ := hW
  have hA : DataW.TrodAll enc Try.prog W 0 (fun _ => true) true Try.f11.params.toList args.toList ds p := hA0
  rw [Try.params11] at hA hval
  obtain ⟨v0, vs0, d0, ds0, p0, q0, hargs, rfl, rfl, h0, r0⟩ := trodAll_cons hA
  obtain ⟨rfl, rfl, rfl⟩ := trodAll_nil r0
  obtain rfl : args = #[v0] := by cases args; simp_all
  obtain ⟨rfl, rfl⟩ := trodVars_none hV
  obtain ⟨a0, len0, cap0, rfl⟩ := okWide_slice Try.underlying22 (hval 0 22 v0 rfl rfl)
  have k0 := h0
  have lt0 : ∀ x ∈ p0, x.block < W.heap.size := by obtain ⟨m, hm⟩ := k0; exact DataW.trod_lt m _ _ _ hm
  obtain ⟨z0, w0⟩ : ∃ zs, IsRow .u8 W a0 len0 cap0 zs := by
    obtain ⟨fuel, hf⟩ := h0
    rcases open_ints Try.underlying22 Try.underlying5 (by kernel_rfl) hf with ⟨hcs, _⟩ | ⟨x, l, c, zs, hcs, _, hl, hm, hz, _, hcell, hwz⟩
    · simp [Value.cells] at hcs
      obtain ⟨rfl, rfl, rfl⟩ := hcs
      exact ⟨[], .inl ⟨rfl, rfl, rfl, rfl⟩⟩
    · simp [Value.cells] at hcs
      obtain ⟨rfl, rfl, rfl⟩ := hcs
      exact ⟨zs, .inr ⟨_, rfl, hl, hm, by simpa using hz, hcell, hwz⟩⟩
  clear hA0 hval0
  refine (walk a0 len0 cap0 z0 W w0).mono fun e W' ⟨he, bel⟩ => ?_
  subst he
  exact ⟨_, rfl, _, _, _, [], _, [], hW', trodAll_mk1 (shut_bool Try.underlying4 _), (trodAll_cons_mk (Below.trod laidOut (by kernel_rfl) (of_decide_eq_true (by kernel_rfl)) k0 bel lt0) trodAll_mk0), rfl, bel.frame _, fun h => by cases h⟩

theorem over : Rows.fnAtDoubleRow.holds Try.pinned (OpenSpec.ofChange Rows.fnAtDoubleSpec) :=
  OpenClaim.holds_of_wide 11 Try.f11 rfl rfl rfl rfl rfl rfl rfl ⟨rfl, rfl, rfl, rfl, rfl⟩ rfl rfl rfl rfl rfl (by kernel_rfl) Try.func11 (by kernel_rfl)
    (of_decide_eq_true (by kernel_rfl)) (by unfold Func.isWrapper; first | (rw [if_pos (by decide +kernel)]; kernel_rfl) | (rw [if_neg (by decide +kernel)]; exact ⟨rfl, rfl⟩))
    (fun os started H enc _ => lifted os started H enc)

/-- ████ THE STATEMENT ████ -/
theorem proved : Rows.FnAtDoubleSaid := over
#print axioms proved
end Go.Proofs.Ythpfehjjaamkkab.fnAtDouble
