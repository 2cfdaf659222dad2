/- For every input, the law FnRebinFine of the given statements returns true over the program at this commit, and its arguments read afterwards as before: no condition. -/
import Derived.Test.YtkcbgeldnibjcabRows
import Derived.Test.YtkcbgeldnibjcabLawB2
import Derived.WalkKit
import Derived.ProofKit
import Derived.OpenShut
import Derived.ShutString
import Derived.ChangeOld
import Derived.Below
namespace Go.Proofs.Ytkcbgeldnibjcab.fnRebinFine
open Go.ChangeShapes Go.WideShapes Go.ChangeAt Go.RowKit
open Go.ChangeMaps (open_string shut_string)
set_option linter.unusedVariables false

theorem own : ownKnob Try.prog.godebug = none := by kernel_rfl
theorem laidOut : laidOutB Try.prog = true := by kernel_rfl

/-- WHAT THE WALK IS TOLD OF A SLICE OF INTEGERS THAT CAME IN: it is nil; or it leads to a row of 'cap' cells, the numbers 'zs' (the first 'len' are its elements, the rest its spare room), each fitting its kind. -/
def IsRow (k : IntKind) (w : World) (a : Option Addr) (len cap : Nat) (zs : List Int) : Prop :=
  (a = none ∧ len = 0 ∧ cap = 0 ∧ zs = []) ∨
  ∃ x, a = some x ∧ len ≤ cap ∧ cap ≤ maxLen ∧ zs.length = cap ∧ (∀ i, i < zs.length → w.cell? (x.add i) = some (.int k (zs.getD i 0))) ∧ ∀ n ∈ zs, (Lit.int k n).wf = true

set_option maxRecDepth 100000 in
set_option maxHeartbeats 3200000 in
theorem walk (a0 : Option Addr) (len0 cap0 : Nat) (z0 : List Int) (w : World) (w0 : IsRow .u8 w a0 len0 cap0 z0) :
    Calls Try.prog 8 #[.slice a0 len0 cap0] w fun e w' => e = .returned (.bool true) ∧ Below w.heap.size w w' := by
  have hB := bytes_of w0
  by_cases hl : 1048576 < len0
  · have hdec : decide (1048576 < len0) = true := by simpa using hl
    go_enter Try.func8, Try.ntmps8
    go_wp2_with fail
    go_ret
    exact ⟨rfl, Below.refl _ _⟩
  have hdec : decide (1048576 < len0) = false := by simpa using hl
  have hm : len0 ≤ 1048576 := by omega
  go_enter Try.func8, Try.ntmps8
  go_wp2_with fail
  refine (DrawRecordRebin_any hB).mono ?_
  rintro e wv1 ⟨v, u, z, l, a, o, rfl, rl, ra, ro, hl2, ha1, ho2, b1⟩
  clear w0 hB
  have S := St.start b1
  clear b1
  have R := Lib.hid (show Rec _ _ _ l a from ⟨rl, ra⟩)
  clear rl ra
  have RO := Lib.hid ro
  clear ro
  cases hc : rebOf l a o with
  | none =>
    have HC := Lib.hid hc
    clear hc
    go_wp2_with fail
    refine (reb_none (implRecordRebin_any R.out RO.out) HC.out).mono ?_
    rintro e wv2 ⟨v1, rfl, r1, b2⟩
    replace R := Lib.hid ((R.out.grow b2))
    replace RO := Lib.hid ((RO.out.grow b2))
    replace S := (S.next b2)
    have R1 := Lib.hid r1
    clear r1
    clear b2
    go_wp2_with fail
    refine (reb_none (specRecordRebin_any R.out.1 R.out.2 RO.out) HC.out).mono ?_
    rintro e wv3 ⟨v2, rfl, r2, b3⟩
    replace R := Lib.hid ((R.out.grow b3))
    replace RO := Lib.hid ((RO.out.grow b3))
    replace R1 := Lib.hid ((R1.out.grow b3))
    replace S := (S.next b3)
    have R2 := Lib.hid r2
    clear r2
    clear b3
    go_wp2_with fail
    refine (fsame_yes R1.out R2.out rfl).mono ?_
    rintro e wv4 ⟨rfl, b4⟩
    replace R := Lib.hid ((R.out.grow b4))
    replace RO := Lib.hid ((RO.out.grow b4))
    replace R1 := Lib.hid ((R1.out.grow b4))
    replace R2 := Lib.hid ((R2.out.grow b4))
    replace S := (S.next b4)
    clear b4
    go_wp2_with fail
    refine (fsame_yes R1.out R2.out rfl).mono ?_
    rintro e wv5 ⟨rfl, b5⟩
    replace R := Lib.hid ((R.out.grow b5))
    replace RO := Lib.hid ((RO.out.grow b5))
    replace R1 := Lib.hid ((R1.out.grow b5))
    replace R2 := Lib.hid ((R2.out.grow b5))
    replace S := (S.next b5)
    clear b5
    go_wp2_with fail
    go_ret
    exact ⟨by simp, S.below⟩
  | some rs =>
    obtain ⟨hv, he⟩ := reb_edges hc
    have HC := Lib.hid hc; have HV := Lib.hid hv; have HE := Lib.hid he
    obtain ⟨ho2, ho21⟩ := isEdges_len he
    clear hc hv he
    go_wp2_with fail
    refine (reb_some (implRecordRebin_any R.out RO.out) HC.out).mono ?_
    rintro e wv2 ⟨v1, rfl, r1, b2⟩
    replace R := Lib.hid ((R.out.grow b2))
    replace RO := Lib.hid ((RO.out.grow b2))
    replace S := (S.next b2)
    have R1 := Lib.hid r1
    clear r1
    clear b2
    go_wp2_with fail
    refine (reb_some (specRecordRebin_any R.out.1 R.out.2 RO.out) HC.out).mono ?_
    rintro e wv3 ⟨v2, rfl, r2, b3⟩
    replace R := Lib.hid ((R.out.grow b3))
    replace RO := Lib.hid ((RO.out.grow b3))
    replace R1 := Lib.hid ((R1.out.grow b3))
    replace S := (S.next b3)
    have R2 := Lib.hid r2
    clear r2
    clear b3
    go_wp2_with fail
    refine (fsame_yes R1.out R2.out rfl).mono ?_
    rintro e wv4 ⟨rfl, b4⟩
    replace R := Lib.hid ((R.out.grow b4))
    replace RO := Lib.hid ((RO.out.grow b4))
    replace R1 := Lib.hid ((R1.out.grow b4))
    replace R2 := Lib.hid ((R2.out.grow b4))
    replace S := (S.next b4)
    clear b4
    clear R2
    obtain ⟨gx, ox, cx, rfl, hcx, hcxm⟩ := RO.out.known (by omega)
    unfold maxLen at hcxm
    obtain ⟨no, hno⟩ : ∃ n, o.length = n + 1 := ⟨o.length - 1, by omega⟩
    have HNO := Lib.hid hno
    have HRN := Lib.hid (reb_len HC.out hno)
    have HMN : Hid ((rs.map pr).length = no) := Lib.hid (by rw [List.length_map]; exact HRN.out)
    have hno1 : 1 ≤ no := by omega
    have hno20 : no ≤ 20 := by omega
    have ho0 : 0 < o.length := by omega
    have hon : no < o.length := by omega
    obtain ⟨gy, oy, cy, rfl, hcy, hcym⟩ := R1.out.known (by rw [HMN.out]; omega)
    unfold maxLen at hcym
    rw [HMN.out] at hcy
    rw [HMN.out] at R1
    rw [HMN.out]
    rw [hno] at hcx
    rw [hno] at RO
    rw [hno]
    clear hno
    have w0 : IntKind.i64.wrap ((no : Int) + 1 - 1) = (no : Int) := by rw [show (no : Int) + 1 - 1 = no by omega]; exact IntWalk.i64_in _ (by omega)
    have w0' : IntKind.i64.wrap (no : Int) = (no : Int) := IntWalk.i64_in _ (by omega)
    have w1 : (no : Int) < (no : Int) + 1 := by omega
    have w2 : (0 : Int) ≤ (no : Int) := by omega
    have w3 : (0 : Int) < (no : Int) + 1 := by omega
    have w4 : 0 < no + 1 := by omega
    have w5 : no < no + 1 := by omega
    by_cases n2 : no = 2
    rotate_left
    · have n3 : (((no : Int) + 1) != 3) = true := by rw [bne_iff_ne]; omega
      clear n2
      go_wp2_with fail
      go_ret
      exact ⟨by first | rfl | (simp; done) | (simp; omega), S.below⟩
    have n3 : (((no : Int) + 1) != 3) = false := by rw [bne_eq_false_iff_eq]; omega
    obtain ⟨x, y, z, rfl⟩ := three_of HNO.out n2
    obtain ⟨r0, r1, rfl, hb0, hb1⟩ := reb_two HC.out
    obtain ⟨xg0, xg1, xg2, xg3⟩ := three_up HE.out
    have HB0 := Lib.hid hb0; have HB1 := Lib.hid hb1
    have FT0 := Lib.hid (bet_is hb0).2.1; have FT1 := Lib.hid (bet_is hb1).2.1
    have i2 : (2 : Int) < (no : Int) + 1 := by omega
    have i3 : 2 < no + 1 := by omega
    have i4 : (1 : Int) < (no : Int) := by omega
    have i5 : (0 : Int) < (no : Int) := by omega
    have i6 : 1 < no := by omega
    have i7 : 0 < no := by omega
    clear hb0 hb1 n2
    have f0 : _ = some (Value.int IntKind.i64 x) := RO.out.cells 0 (by simp); have f2 : _ = some (Value.int IntKind.i64 z) := RO.out.cells 2 (by simp)
    simp only [Nat.add_zero] at f0
    cases hbq : bet l a x z with
    | none =>
      have HP := Lib.hid (reb_pair_no hbq)
      clear hbq
      go_upto_region 10 with fail
      have mkS : ∀ w' : World, Below wv4.heap.size wv4 w' → (Below wv4.heap.size wv4 w' ∧ w'.cell? ⟨gx, ox, none⟩ = some (.int .i64 x) ∧ w'.cell? ⟨gx, ox + 2, none⟩ = some (.int .i64 z)) := fun w' b => ⟨b, (b.cell (cell_below f0)).trans f0, (b.cell (cell_below f2)).trans f2⟩
      have held : ∀ W w' : World, Below W.heap.size W w' → (Below wv4.heap.size wv4 W ∧ W.cell? ⟨gx, ox, none⟩ = some (.int .i64 x) ∧ W.cell? ⟨gx, ox + 2, none⟩ = some (.int .i64 z)) → (Below wv4.heap.size wv4 w' ∧ w'.cell? ⟨gx, ox, none⟩ = some (.int .i64 x) ∧ w'.cell? ⟨gx, ox + 2, none⟩ = some (.int .i64 z)) := fun W w' b h => mkS w' (h.1.trans (b.mono h.1.size))
      have keep0 := mkS _ (Below.refl wv4.heap.size wv4).drew
      have atR := fun (W : World) (h : (Below wv4.heap.size wv4 W ∧ W.cell? ⟨gx, ox, none⟩ = some (.int .i64 x) ∧ W.cell? ⟨gx, ox + 2, none⟩ = some (.int .i64 z))) => R.out.grow h.1
      have atRO := fun (W : World) (h : (Below wv4.heap.size wv4 W ∧ W.cell? ⟨gx, ox, none⟩ = some (.int .i64 x) ∧ W.cell? ⟨gx, ox + 2, none⟩ = some (.int .i64 z))) => RO.out.grow h.1
      have atR1 := fun (W : World) (h : (Below wv4.heap.size wv4 W ∧ W.cell? ⟨gx, ox, none⟩ = some (.int .i64 x) ∧ W.cell? ⟨gx, ox + 2, none⟩ = some (.int .i64 z))) => R1.out.grow h.1
      have tok0 : True := trivial
      have keepA := fun (ob : Obj) => mkS _ ((Below.refl wv4.heap.size wv4).alloc (Nat.le_refl _) ob).drew
      go_region_held3 (fun w' => (Below wv4.heap.size wv4 w' ∧ w'.cell? ⟨gx, ox, none⟩ = some (.int .i64 x) ∧ w'.cell? ⟨gx, ox + 2, none⟩ = some (.int .i64 z))) (first | exact keep0 | exact hs0 | (with_reducible exact keepA _) | (with_reducible exact held _ _ ((Below.refl _ _).alloc (Nat.le_refl _) _) keep0) | (with_reducible exact held _ _ ((Below.refl _ _).alloc (Nat.le_refl _) _) hs0)) (first | (have _t := tok0; clear tok0 _t; go_at_call 30; refine (reb_none (implRecordRebin_any (atR _ (by assumption)) (irow_pair (by go_cell) (by go_cell))) HP.out).mono ?_; rintro e wv5 ⟨vx, rfl, rx, b0⟩; have hs0 := held _ _ b0 (by assumption)))
      clear keepA
      have B9 := hs0.1
      replace R := Lib.hid (R.out.grow B9)
      replace RO := Lib.hid (RO.out.grow B9)
      replace R1 := Lib.hid (R1.out.grow B9)
      replace S := S.next B9
      clear mkS held keep0 B9 atR atRO atR1 hs0 b0
      clear f0 f2 rx
      obtain ⟨e0, e1⟩ := R1.out.cells 0 (by simp)
      obtain ⟨e2, e3⟩ := R1.out.cells 1 (by simp)
      simp only [Nat.zero_mul, Nat.one_mul, Nat.add_zero] at e0 e1 e2 e3
      obtain ⟨p0, q0, h0⟩ : ∃ a b, pr r0 = (a, b) := ⟨_, _, rfl⟩
      obtain ⟨p1, q1, h1⟩ : ∃ a b, pr r1 = (a, b) := ⟨_, _, rfl⟩
      have F0 : Hid (fv p0 q0 = true) := Lib.hid (by have := fits_fv FT0.out; unfold pr at h0; rw [Prod.mk.injEq] at h0; rw [← h0.1, ← h0.2]; exact this)
      have F1 : Hid (fv p1 q1 = true) := Lib.hid (by have := fits_fv FT1.out; unfold pr at h1; rw [Prod.mk.injEq] at h1; rw [← h1.1, ← h1.2]; exact this)
      have Q0 : Hid (fq p0 q0 = r0) := Lib.hid (by unfold pr at h0; rw [Prod.mk.injEq] at h0; rw [← h0.1, ← h0.2]; exact fq_self _)
      have Q1 : Hid (fq p1 q1 = r1) := Lib.hid (by unfold pr at h1; rw [Prod.mk.injEq] at h1; rw [← h1.1, ← h1.2]; exact fq_self _)
      replace e0 : _ = some (Value.int IntKind.i64 p0) := e0.trans (by show some (Value.int IntKind.i64 (pr r0).1) = _; rw [h0])
      replace e1 : _ = some (Value.int IntKind.i64 q0) := e1.trans (by show some (Value.int IntKind.i64 (pr r0).2) = _; rw [h0])
      replace e2 : _ = some (Value.int IntKind.i64 p1) := e2.trans (by show some (Value.int IntKind.i64 (pr r1).1) = _; rw [h1])
      replace e3 : _ = some (Value.int IntKind.i64 q1) := e3.trans (by show some (Value.int IntKind.i64 (pr r1).2) = _; rw [h1])
      clear h0 h1
      go_upto_region 11 with fail
      go_cut [12, 13] (fun s0 s1 wx => TwoMid (fv p0 q0 && fv p1 q1) (fq p0 q0 + fq p1 q1) wv5 [] s0 s1 wx)
      case first =>
        have mkS : ∀ w' : World, Below wv5.heap.size wv5 w' → (Below wv5.heap.size wv5 w' ∧ w'.cell? ⟨gy, oy, none⟩ = some (.int .i64 p0) ∧ w'.cell? ⟨gy, oy + 1, none⟩ = some (.int .i64 q0) ∧ w'.cell? ⟨gy, oy + 2, none⟩ = some (.int .i64 p1) ∧ w'.cell? ⟨gy, oy + 2 + 1, none⟩ = some (.int .i64 q1)) := fun w' b => ⟨b, (b.cell (cell_below e0)).trans e0, (b.cell (cell_below e1)).trans e1, (b.cell (cell_below e2)).trans e2, (b.cell (cell_below e3)).trans e3⟩
        have held : ∀ W w' : World, Below W.heap.size W w' → (Below wv5.heap.size wv5 W ∧ W.cell? ⟨gy, oy, none⟩ = some (.int .i64 p0) ∧ W.cell? ⟨gy, oy + 1, none⟩ = some (.int .i64 q0) ∧ W.cell? ⟨gy, oy + 2, none⟩ = some (.int .i64 p1) ∧ W.cell? ⟨gy, oy + 2 + 1, none⟩ = some (.int .i64 q1)) → (Below wv5.heap.size wv5 w' ∧ w'.cell? ⟨gy, oy, none⟩ = some (.int .i64 p0) ∧ w'.cell? ⟨gy, oy + 1, none⟩ = some (.int .i64 q0) ∧ w'.cell? ⟨gy, oy + 2, none⟩ = some (.int .i64 p1) ∧ w'.cell? ⟨gy, oy + 2 + 1, none⟩ = some (.int .i64 q1)) := fun W w' b h => mkS w' (h.1.trans (b.mono h.1.size))
        have heldSet : ∀ (W w' : World) (k' : Nat) (x y : Int), wv5.heap.size ≤ k' → w' = (W.setCell ⟨k', 0, none⟩ (.int .i64 x)).setCell ⟨k', 1, none⟩ (.int .i64 y) → (Below wv5.heap.size wv5 W ∧ W.cell? ⟨gy, oy, none⟩ = some (.int .i64 p0) ∧ W.cell? ⟨gy, oy + 1, none⟩ = some (.int .i64 q0) ∧ W.cell? ⟨gy, oy + 2, none⟩ = some (.int .i64 p1) ∧ W.cell? ⟨gy, oy + 2 + 1, none⟩ = some (.int .i64 q1)) → (Below wv5.heap.size wv5 w' ∧ w'.cell? ⟨gy, oy, none⟩ = some (.int .i64 p0) ∧ w'.cell? ⟨gy, oy + 1, none⟩ = some (.int .i64 q0) ∧ w'.cell? ⟨gy, oy + 2, none⟩ = some (.int .i64 p1) ∧ w'.cell? ⟨gy, oy + 2 + 1, none⟩ = some (.int .i64 q1)) := fun W w' k' x y hk e h => by
          subst e
          exact mkS _ ((h.1.setCell (p := ⟨k', 0, none⟩) hk _).setCell (p := ⟨k', 1, none⟩) hk _)
        have keep0 := mkS _ (Below.refl wv5.heap.size wv5).drew
        have keepY := mkS _ ((Below.refl wv5.heap.size wv5).alloc (Nat.le_refl _) (.cells #[.int .i64 0, .int .i64 0] 27)).drew
        have atR := fun (W : World) (h : (Below wv5.heap.size wv5 W ∧ W.cell? ⟨gy, oy, none⟩ = some (.int .i64 p0) ∧ W.cell? ⟨gy, oy + 1, none⟩ = some (.int .i64 q0) ∧ W.cell? ⟨gy, oy + 2, none⟩ = some (.int .i64 p1) ∧ W.cell? ⟨gy, oy + 2 + 1, none⟩ = some (.int .i64 q1))) => R.out.grow h.1
        have atRO := fun (W : World) (h : (Below wv5.heap.size wv5 W ∧ W.cell? ⟨gy, oy, none⟩ = some (.int .i64 p0) ∧ W.cell? ⟨gy, oy + 1, none⟩ = some (.int .i64 q0) ∧ W.cell? ⟨gy, oy + 2, none⟩ = some (.int .i64 p1) ∧ W.cell? ⟨gy, oy + 2 + 1, none⟩ = some (.int .i64 q1))) => RO.out.grow h.1
        have atR1 := fun (W : World) (h : (Below wv5.heap.size wv5 W ∧ W.cell? ⟨gy, oy, none⟩ = some (.int .i64 p0) ∧ W.cell? ⟨gy, oy + 1, none⟩ = some (.int .i64 q0) ∧ W.cell? ⟨gy, oy + 2, none⟩ = some (.int .i64 p1) ∧ W.cell? ⟨gy, oy + 2 + 1, none⟩ = some (.int .i64 q1))) => R1.out.grow h.1
        have tok0 : True := trivial
        go_region_held3 (fun w' => (Below wv5.heap.size wv5 w' ∧ w'.cell? ⟨gy, oy, none⟩ = some (.int .i64 p0) ∧ w'.cell? ⟨gy, oy + 1, none⟩ = some (.int .i64 q0) ∧ w'.cell? ⟨gy, oy + 2, none⟩ = some (.int .i64 p1) ∧ w'.cell? ⟨gy, oy + 2 + 1, none⟩ = some (.int .i64 q1))) (first | exact keep0 | exact keepY | exact hs0 | (have _q := hs0; exact held _ _ ((Below.refl _ _).alloc (Nat.le_refl _) _) hs0) | (have _q := hs0; exact heldSet _ _ _ _ _ (by omega) rfl hs0)) (first | (go_at_call 33; refine (implFracAdd_any _ _ _ _ _).mono ?_; rintro e x0 ⟨n5, d5, ok5, rfl, hr5, b0⟩; have hs0 := held _ _ b0 (by assumption); have hz0 := hs0.1.size; (first | (have zz := top_two (u := .int .i64 0) (v := .int .i64 0) (t := 27) b0) | (have zz := top_two_drew (u := .int .i64 0) (v := .int .i64 0) (t := 27) b0) | (replace zz := later_two b0 zz) | (have zz := later_two (k := wv5.heap.size) (u := .int .i64 0) (v := .int .i64 0) b0 ⟨by go_cell, by go_cell, by go_simp, by go_simp, by simp; omega⟩) | skip); (try simp only [World.size_alloc] at zz)))
        all_goals
          clear keep0 keepY held heldSet
          have S5 : St wv5 x0 [] := ⟨hs0.1, trivial⟩
          first
            | (
                fail_if_success (have q := zz)
                go_wp2
                go_meet
                exact TwoMid.mk hr5 (S5.alloc _ _))
            | (
                go_wp2
                go_meet
                exact TwoMid.mk hr5 (St.put2 (St.put zz S5) (by omega) (by simp only [Apart]) _ _))
      case rest =>
        revert hcut
        revert wc
        intro wv6 hcut
        obtain ⟨k6, n9, d9, ok, rfl, rfl, hr, S5⟩ := hcut
        replace R := Lib.hid (R.out.grow S5.below)
        replace RO := Lib.hid (RO.out.grow S5.below)
        replace R1 := Lib.hid (R1.out.grow S5.below)
        replace S := S.more S5
        clear S5
        have r := S.holds
        simp only [Holds, and_true] at r
        try simp only [World.size_alloc] at r
        clear e0 e1 e2 e3
        clear hr
        go_upto_region 12 with fail
        go_quiet (fail)
        have BQ := below_drews (Below.refl wv6.heap.size wv6) nq
        replace R := Lib.hid (R.out.grow BQ)
        replace RO := Lib.hid (RO.out.grow BQ)
        replace R1 := Lib.hid (R1.out.grow BQ)
        replace S := S.next BQ
        clear BQ
        clear r
        have r := S.holds
        simp only [Holds, and_true] at r
        try simp only [World.size_alloc] at r
        go_wp2_with fail
        go_ret
        exact ⟨by first | rfl | (simp; done) | (simp; omega), S.below⟩
    | some q =>
      have HP := Lib.hid (reb_pair (by omega) hbq)
      have HBQ := Lib.hid hbq
      clear hbq
      go_upto_region 10 with fail
      have mkS : ∀ w' : World, Below wv4.heap.size wv4 w' → (Below wv4.heap.size wv4 w' ∧ w'.cell? ⟨gx, ox, none⟩ = some (.int .i64 x) ∧ w'.cell? ⟨gx, ox + 2, none⟩ = some (.int .i64 z)) := fun w' b => ⟨b, (b.cell (cell_below f0)).trans f0, (b.cell (cell_below f2)).trans f2⟩
      have held : ∀ W w' : World, Below W.heap.size W w' → (Below wv4.heap.size wv4 W ∧ W.cell? ⟨gx, ox, none⟩ = some (.int .i64 x) ∧ W.cell? ⟨gx, ox + 2, none⟩ = some (.int .i64 z)) → (Below wv4.heap.size wv4 w' ∧ w'.cell? ⟨gx, ox, none⟩ = some (.int .i64 x) ∧ w'.cell? ⟨gx, ox + 2, none⟩ = some (.int .i64 z)) := fun W w' b h => mkS w' (h.1.trans (b.mono h.1.size))
      have keep0 := mkS _ (Below.refl wv4.heap.size wv4).drew
      have atR := fun (W : World) (h : (Below wv4.heap.size wv4 W ∧ W.cell? ⟨gx, ox, none⟩ = some (.int .i64 x) ∧ W.cell? ⟨gx, ox + 2, none⟩ = some (.int .i64 z))) => R.out.grow h.1
      have atRO := fun (W : World) (h : (Below wv4.heap.size wv4 W ∧ W.cell? ⟨gx, ox, none⟩ = some (.int .i64 x) ∧ W.cell? ⟨gx, ox + 2, none⟩ = some (.int .i64 z))) => RO.out.grow h.1
      have atR1 := fun (W : World) (h : (Below wv4.heap.size wv4 W ∧ W.cell? ⟨gx, ox, none⟩ = some (.int .i64 x) ∧ W.cell? ⟨gx, ox + 2, none⟩ = some (.int .i64 z))) => R1.out.grow h.1
      have tok0 : True := trivial
      have keepA := fun (ob : Obj) => mkS _ ((Below.refl wv4.heap.size wv4).alloc (Nat.le_refl _) ob).drew
      go_region_held3 (fun w' => (Below wv4.heap.size wv4 w' ∧ w'.cell? ⟨gx, ox, none⟩ = some (.int .i64 x) ∧ w'.cell? ⟨gx, ox + 2, none⟩ = some (.int .i64 z))) (first | exact keep0 | exact hs0 | (with_reducible exact keepA _) | (with_reducible exact held _ _ ((Below.refl _ _).alloc (Nat.le_refl _) _) keep0) | (with_reducible exact held _ _ ((Below.refl _ _).alloc (Nat.le_refl _) _) hs0)) (first | (have _t := tok0; clear tok0 _t; go_at_call 30; refine (reb_some (implRecordRebin_any (atR _ (by assumption)) (irow_pair (by go_cell) (by go_cell))) HP.out).mono ?_; rintro e wv5 ⟨vx, rfl, rx, b0⟩; have hs0 := held _ _ b0 (by assumption)))
      clear keepA
      have B9 := hs0.1
      replace R := Lib.hid (R.out.grow B9)
      replace RO := Lib.hid (RO.out.grow B9)
      replace R1 := Lib.hid (R1.out.grow B9)
      replace S := S.next B9
      clear mkS held keep0 B9 atR atRO atR1 hs0 b0
      clear f0 f2
      have RX := Lib.hid rx
      clear rx
      obtain ⟨e0, e1⟩ := R1.out.cells 0 (by simp)
      obtain ⟨e2, e3⟩ := R1.out.cells 1 (by simp)
      simp only [Nat.zero_mul, Nat.one_mul, Nat.add_zero] at e0 e1 e2 e3
      obtain ⟨p0, q0, h0⟩ : ∃ a b, pr r0 = (a, b) := ⟨_, _, rfl⟩
      obtain ⟨p1, q1, h1⟩ : ∃ a b, pr r1 = (a, b) := ⟨_, _, rfl⟩
      have F0 : Hid (fv p0 q0 = true) := Lib.hid (by have := fits_fv FT0.out; unfold pr at h0; rw [Prod.mk.injEq] at h0; rw [← h0.1, ← h0.2]; exact this)
      have F1 : Hid (fv p1 q1 = true) := Lib.hid (by have := fits_fv FT1.out; unfold pr at h1; rw [Prod.mk.injEq] at h1; rw [← h1.1, ← h1.2]; exact this)
      have Q0 : Hid (fq p0 q0 = r0) := Lib.hid (by unfold pr at h0; rw [Prod.mk.injEq] at h0; rw [← h0.1, ← h0.2]; exact fq_self _)
      have Q1 : Hid (fq p1 q1 = r1) := Lib.hid (by unfold pr at h1; rw [Prod.mk.injEq] at h1; rw [← h1.1, ← h1.2]; exact fq_self _)
      replace e0 : _ = some (Value.int IntKind.i64 p0) := e0.trans (by show some (Value.int IntKind.i64 (pr r0).1) = _; rw [h0])
      replace e1 : _ = some (Value.int IntKind.i64 q0) := e1.trans (by show some (Value.int IntKind.i64 (pr r0).2) = _; rw [h0])
      replace e2 : _ = some (Value.int IntKind.i64 p1) := e2.trans (by show some (Value.int IntKind.i64 (pr r1).1) = _; rw [h1])
      replace e3 : _ = some (Value.int IntKind.i64 q1) := e3.trans (by show some (Value.int IntKind.i64 (pr r1).2) = _; rw [h1])
      clear h0 h1
      go_upto_region 11 with fail
      go_cut [12, 13] (fun s0 s1 wx => TwoMid (fv p0 q0 && fv p1 q1) (fq p0 q0 + fq p1 q1) wv5 [] s0 s1 wx)
      case first =>
        have mkS : ∀ w' : World, Below wv5.heap.size wv5 w' → (Below wv5.heap.size wv5 w' ∧ w'.cell? ⟨gy, oy, none⟩ = some (.int .i64 p0) ∧ w'.cell? ⟨gy, oy + 1, none⟩ = some (.int .i64 q0) ∧ w'.cell? ⟨gy, oy + 2, none⟩ = some (.int .i64 p1) ∧ w'.cell? ⟨gy, oy + 2 + 1, none⟩ = some (.int .i64 q1)) := fun w' b => ⟨b, (b.cell (cell_below e0)).trans e0, (b.cell (cell_below e1)).trans e1, (b.cell (cell_below e2)).trans e2, (b.cell (cell_below e3)).trans e3⟩
        have held : ∀ W w' : World, Below W.heap.size W w' → (Below wv5.heap.size wv5 W ∧ W.cell? ⟨gy, oy, none⟩ = some (.int .i64 p0) ∧ W.cell? ⟨gy, oy + 1, none⟩ = some (.int .i64 q0) ∧ W.cell? ⟨gy, oy + 2, none⟩ = some (.int .i64 p1) ∧ W.cell? ⟨gy, oy + 2 + 1, none⟩ = some (.int .i64 q1)) → (Below wv5.heap.size wv5 w' ∧ w'.cell? ⟨gy, oy, none⟩ = some (.int .i64 p0) ∧ w'.cell? ⟨gy, oy + 1, none⟩ = some (.int .i64 q0) ∧ w'.cell? ⟨gy, oy + 2, none⟩ = some (.int .i64 p1) ∧ w'.cell? ⟨gy, oy + 2 + 1, none⟩ = some (.int .i64 q1)) := fun W w' b h => mkS w' (h.1.trans (b.mono h.1.size))
        have heldSet : ∀ (W w' : World) (k' : Nat) (x y : Int), wv5.heap.size ≤ k' → w' = (W.setCell ⟨k', 0, none⟩ (.int .i64 x)).setCell ⟨k', 1, none⟩ (.int .i64 y) → (Below wv5.heap.size wv5 W ∧ W.cell? ⟨gy, oy, none⟩ = some (.int .i64 p0) ∧ W.cell? ⟨gy, oy + 1, none⟩ = some (.int .i64 q0) ∧ W.cell? ⟨gy, oy + 2, none⟩ = some (.int .i64 p1) ∧ W.cell? ⟨gy, oy + 2 + 1, none⟩ = some (.int .i64 q1)) → (Below wv5.heap.size wv5 w' ∧ w'.cell? ⟨gy, oy, none⟩ = some (.int .i64 p0) ∧ w'.cell? ⟨gy, oy + 1, none⟩ = some (.int .i64 q0) ∧ w'.cell? ⟨gy, oy + 2, none⟩ = some (.int .i64 p1) ∧ w'.cell? ⟨gy, oy + 2 + 1, none⟩ = some (.int .i64 q1)) := fun W w' k' x y hk e h => by
          subst e
          exact mkS _ ((h.1.setCell (p := ⟨k', 0, none⟩) hk _).setCell (p := ⟨k', 1, none⟩) hk _)
        have keep0 := mkS _ (Below.refl wv5.heap.size wv5).drew
        have keepY := mkS _ ((Below.refl wv5.heap.size wv5).alloc (Nat.le_refl _) (.cells #[.int .i64 0, .int .i64 0] 27)).drew
        have atR := fun (W : World) (h : (Below wv5.heap.size wv5 W ∧ W.cell? ⟨gy, oy, none⟩ = some (.int .i64 p0) ∧ W.cell? ⟨gy, oy + 1, none⟩ = some (.int .i64 q0) ∧ W.cell? ⟨gy, oy + 2, none⟩ = some (.int .i64 p1) ∧ W.cell? ⟨gy, oy + 2 + 1, none⟩ = some (.int .i64 q1))) => R.out.grow h.1
        have atRO := fun (W : World) (h : (Below wv5.heap.size wv5 W ∧ W.cell? ⟨gy, oy, none⟩ = some (.int .i64 p0) ∧ W.cell? ⟨gy, oy + 1, none⟩ = some (.int .i64 q0) ∧ W.cell? ⟨gy, oy + 2, none⟩ = some (.int .i64 p1) ∧ W.cell? ⟨gy, oy + 2 + 1, none⟩ = some (.int .i64 q1))) => RO.out.grow h.1
        have atR1 := fun (W : World) (h : (Below wv5.heap.size wv5 W ∧ W.cell? ⟨gy, oy, none⟩ = some (.int .i64 p0) ∧ W.cell? ⟨gy, oy + 1, none⟩ = some (.int .i64 q0) ∧ W.cell? ⟨gy, oy + 2, none⟩ = some (.int .i64 p1) ∧ W.cell? ⟨gy, oy + 2 + 1, none⟩ = some (.int .i64 q1))) => R1.out.grow h.1
        have atRX := fun (W : World) (h : (Below wv5.heap.size wv5 W ∧ W.cell? ⟨gy, oy, none⟩ = some (.int .i64 p0) ∧ W.cell? ⟨gy, oy + 1, none⟩ = some (.int .i64 q0) ∧ W.cell? ⟨gy, oy + 2, none⟩ = some (.int .i64 p1) ∧ W.cell? ⟨gy, oy + 2 + 1, none⟩ = some (.int .i64 q1))) => RX.out.grow h.1
        have tok0 : True := trivial
        go_region_held3 (fun w' => (Below wv5.heap.size wv5 w' ∧ w'.cell? ⟨gy, oy, none⟩ = some (.int .i64 p0) ∧ w'.cell? ⟨gy, oy + 1, none⟩ = some (.int .i64 q0) ∧ w'.cell? ⟨gy, oy + 2, none⟩ = some (.int .i64 p1) ∧ w'.cell? ⟨gy, oy + 2 + 1, none⟩ = some (.int .i64 q1))) (first | exact keep0 | exact keepY | exact hs0 | (have _q := hs0; exact held _ _ ((Below.refl _ _).alloc (Nat.le_refl _) _) hs0) | (have _q := hs0; exact heldSet _ _ _ _ _ (by omega) rfl hs0)) (first | (go_at_call 33; refine (implFracAdd_any _ _ _ _ _).mono ?_; rintro e x0 ⟨n5, d5, ok5, rfl, hr5, b0⟩; have hs0 := held _ _ b0 (by assumption); have hz0 := hs0.1.size; (first | (have zz := top_two (u := .int .i64 0) (v := .int .i64 0) (t := 27) b0) | (have zz := top_two_drew (u := .int .i64 0) (v := .int .i64 0) (t := 27) b0) | (replace zz := later_two b0 zz) | (have zz := later_two (k := wv5.heap.size) (u := .int .i64 0) (v := .int .i64 0) b0 ⟨by go_cell, by go_cell, by go_simp, by go_simp, by simp; omega⟩) | skip); (try simp only [World.size_alloc] at zz)))
        all_goals
          clear keep0 keepY held heldSet
          have S5 : St wv5 x0 [] := ⟨hs0.1, trivial⟩
          first
            | (
                fail_if_success (have q := zz)
                go_wp2
                go_meet
                exact TwoMid.mk hr5 (S5.alloc _ _))
            | (
                go_wp2
                go_meet
                exact TwoMid.mk hr5 (St.put2 (St.put zz S5) (by omega) (by simp only [Apart]) _ _))
      case rest =>
        revert hcut
        revert wc
        intro wv6 hcut
        obtain ⟨k6, n9, d9, ok, rfl, rfl, hr, S5⟩ := hcut
        replace R := Lib.hid (R.out.grow S5.below)
        replace RO := Lib.hid (RO.out.grow S5.below)
        replace R1 := Lib.hid (R1.out.grow S5.below)
        replace RX := Lib.hid (RX.out.grow S5.below)
        replace S := S.more S5
        clear S5
        have r := S.holds
        simp only [Holds, and_true] at r
        try simp only [World.size_alloc] at r
        clear e0 e1 e2 e3
        have EQ : Hid (ok = true → pr q = (n9, d9)) := Lib.hid (fun h => by
          rcases hr with ⟨_, _, hf, hq⟩ | ⟨h', _⟩
          · exact pr_is hf (by rw [hq, Q0.out, Q1.out]; exact reb_fine xg1 xg2 HB0.out HB1.out HBQ.out)
          · rw [h] at h'; cases h')
        clear hr
        obtain ⟨gz, oz, cz, rfl, hcz, hczm⟩ := RX.out.known (by simp)
        have z1 : ([q].map pr).length = 1 := rfl
        rw [z1] at hcz RX ⊢
        unfold maxLen at hczm
        clear z1
        obtain ⟨x0, x1⟩ := RX.out.cells 0 (by simp)
        simp only [Nat.zero_mul, Nat.add_zero] at x0 x1
        replace x0 : _ = some (Value.int IntKind.i64 (pr q).1) := x0
        replace x1 : _ = some (Value.int IntKind.i64 (pr q).2) := x1
        cases ok
        · clear EQ
          go_upto_region 12 with fail
          go_quiet (fail)
          have BQ := below_drews (Below.refl wv6.heap.size wv6) nq
          replace R := Lib.hid (R.out.grow BQ)
          replace RO := Lib.hid (RO.out.grow BQ)
          replace R1 := Lib.hid (R1.out.grow BQ)
          replace RX := Lib.hid (RX.out.grow BQ)
          replace S := S.next BQ
          clear BQ
          clear r
          have r := S.holds
          simp only [Holds, and_true] at r
          try simp only [World.size_alloc] at r
          go_wp2_with fail
          go_ret
          exact ⟨by first | rfl | (simp; done) | (simp; omega), S.below⟩
        · rw [EQ.out rfl] at x0 x1
          go_upto_region 12 with fail
          go_quiet (fail)
          have BQ := below_drews (Below.refl wv6.heap.size wv6) nq
          replace R := Lib.hid (R.out.grow BQ)
          replace RO := Lib.hid (RO.out.grow BQ)
          replace R1 := Lib.hid (R1.out.grow BQ)
          replace RX := Lib.hid (RX.out.grow BQ)
          replace S := S.next BQ
          clear BQ
          clear r
          have r := S.holds
          simp only [Holds, and_true] at r
          try simp only [World.size_alloc] at r
          go_wp2_with fail
          go_ret
          exact ⟨by first | rfl | (simp; done) | (simp; omega), S.below⟩

set_option maxRecDepth 100000 in
theorem lifted (os : Os) (started : os.Started) (H : Type) (enc : TypeId × Value → H) :
    ReturnsInHanded {} Try.checked os 8 .any (Rows.fnRebinFineSpec.pre6 enc Try.prog Try.f8 Rows.fnRebinFineRow.domain false) (Rows.fnRebinFineSpec.post enc Try.prog Try.f8 false true false false) := by
  refine returnsInHanded_of_change (C := Try.checked) own started (by kernel_rfl) Try.func8
    (ChangeSpec.witness6 (enc := enc) (C := Try.checked) false ⟨#[], #[.slice none 0 0], []⟩ 8 (by kernel_rfl) (by kernel_rfl) (by kernel_rfl) (by kernel_rfl)) ?_
  intro W base args ds gs before hval0 hW hcnd _
  have hval : ∀ (j : Nat) t v, Try.f8.params[j]? = some t → args[j]? = some v → Value.okWide Try.prog W .any base t v := hval0
  have hW' := hW
  obtain ⟨p, q, hA0, hV, rfl, hfz, hnd⟩ := hW
  have hA : DataW.TrodAll enc Try.prog W 0 (fun _ => true) true Try.f8.params.toList args.toList ds p := hA0
  rw [Try.params8] at hA hval
  obtain ⟨v0, vs0, d0, ds0, p0, q0, hargs, rfl, rfl, h0, r0⟩ := trodAll_cons hA
  obtain ⟨rfl, rfl, rfl⟩ := trodAll_nil r0
  obtain rfl : args = #[v0] := by cases args; simp_all
  obtain ⟨rfl, rfl⟩ := trodVars_none hV
  obtain ⟨a0, len0, cap0, rfl⟩ := okWide_slice Try.underlying22 (hval 0 22 v0 rfl rfl)
  have k0 := h0
  have lt0 : ∀ x ∈ p0, x.block < W.heap.size := by obtain ⟨m, hm⟩ := k0; exact DataW.trod_lt m _ _ _ hm
  obtain ⟨z0, w0⟩ : ∃ zs, IsRow .u8 W a0 len0 cap0 zs := by
    obtain ⟨fuel, hf⟩ := h0
    rcases open_ints Try.underlying22 Try.underlying5 (by kernel_rfl) hf with ⟨hcs, _⟩ | ⟨x, l, c, zs, hcs, _, hl, hm, hz, _, hcell, hwz⟩
    · simp [Value.cells] at hcs
      obtain ⟨rfl, rfl, rfl⟩ := hcs
      exact ⟨[], .inl ⟨rfl, rfl, rfl, rfl⟩⟩
    · simp [Value.cells] at hcs
      obtain ⟨rfl, rfl, rfl⟩ := hcs
      exact ⟨zs, .inr ⟨_, rfl, hl, hm, by simpa using hz, hcell, hwz⟩⟩
  clear hA0 hval0
  refine (walk a0 len0 cap0 z0 W w0).mono fun e W' ⟨he, bel⟩ => ?_
  subst he
  exact ⟨_, rfl, _, _, _, [], _, [], hW', trodAll_mk1 (shut_bool Try.underlying4 _), (trodAll_cons_mk (Below.trod laidOut (by kernel_rfl) (of_decide_eq_true (by kernel_rfl)) k0 bel lt0) trodAll_mk0), rfl, bel.frame _, fun h => by cases h⟩

theorem over : Rows.fnRebinFineRow.holds Try.pinned (OpenSpec.ofChange Rows.fnRebinFineSpec) :=
  OpenClaim.holds_of_wide 8 Try.f8 rfl rfl rfl rfl rfl rfl rfl ⟨rfl, rfl, rfl, rfl, rfl⟩ rfl rfl rfl rfl rfl (by kernel_rfl) Try.func8 (by kernel_rfl)
    (of_decide_eq_true (by kernel_rfl)) (by unfold Func.isWrapper; first | (rw [if_pos (by decide +kernel)]; kernel_rfl) | (rw [if_neg (by decide +kernel)]; exact ⟨rfl, rfl⟩))
    (fun os started H enc _ => lifted os started H enc)

/-- ████ THE STATEMENT ████ -/
theorem proved : Rows.FnRebinFineSaid := over
#print axioms proved
end Go.Proofs.Ytkcbgeldnibjcab.fnRebinFine
