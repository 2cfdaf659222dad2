/- For every input, the law FnRebinSelf of the given statements returns true over the program at this commit, and its arguments read afterwards as before: no condition. -/
import Derived.Test.YtkcbgeldnibjcaaRows
import Derived.Test.YtkcbgeldnibjcaaLawB3
import Derived.WalkKit
import Derived.ProofKit
import Derived.OpenShut
import Derived.ShutString
import Derived.ChangeOld
import Derived.Below
namespace Go.Proofs.Ytkcbgeldnibjcaa.fnRebinSelf
open Go.ChangeShapes Go.WideShapes Go.ChangeAt Go.RowKit
open Go.ChangeMaps (open_string shut_string)
set_option linter.unusedVariables false

theorem own : ownKnob Try.prog.godebug = none := by kernel_rfl
theorem laidOut : laidOutB Try.prog = true := by kernel_rfl

/-- WHAT THE WALK IS TOLD OF A SLICE OF INTEGERS THAT CAME IN: it is nil; or it leads to a row of 'cap' cells, the numbers 'zs' (the first 'len' are its elements, the rest its spare room), each fitting its kind. -/
def IsRow (k : IntKind) (w : World) (a : Option Addr) (len cap : Nat) (zs : List Int) : Prop :=
  (a = none ∧ len = 0 ∧ cap = 0 ∧ zs = []) ∨
  ∃ x, a = some x ∧ len ≤ cap ∧ cap ≤ maxLen ∧ zs.length = cap ∧ (∀ i, i < zs.length → w.cell? (x.add i) = some (.int k (zs.getD i 0))) ∧ ∀ n ∈ zs, (Lit.int k n).wf = true

set_option maxRecDepth 100000 in
set_option maxHeartbeats 3200000 in
theorem walk (a0 : Option Addr) (len0 cap0 : Nat) (z0 : List Int) (w : World) (w0 : IsRow .u8 w a0 len0 cap0 z0) :
    Calls Try.prog 9 #[.slice a0 len0 cap0] w fun e w' => e = .returned (.bool true) ∧ Below w.heap.size w w' := by
  have hB := bytes_of w0
  by_cases hl : 1048576 < len0
  · have hdec : decide (1048576 < len0) = true := by simpa using hl
    go_enter Try.func9, Try.ntmps9
    go_wp2_with fail
    go_ret
    exact ⟨rfl, Below.refl _ _⟩
  have hdec : decide (1048576 < len0) = false := by simpa using hl
  have hm : len0 ≤ 1048576 := by omega
  go_enter Try.func9, Try.ntmps9
  go_wp2_with fail
  refine (DrawRecordRebin_any hB).mono ?_
  rintro e wv1 ⟨v, u, z, l, a, o, rfl, rl, ra, ro, hl2, ha1, ho2, b1⟩
  clear w0 hB
  have S := St.start b1
  clear b1
  have R := Lib.hid (show Rec _ _ _ l a from ⟨rl, ra⟩)
  clear rl ra
  have RO := Lib.hid ro
  clear ro
  cases hc : rebOf l a o with
  | none =>
    have HC := Lib.hid hc
    clear hc
    go_wp2_with fail
    refine (reb_none (implRecordRebin_any R.out RO.out) HC.out).mono ?_
    rintro e wv2 ⟨v1, rfl, r1, b2⟩
    replace R := Lib.hid ((R.out.grow b2))
    replace RO := Lib.hid ((RO.out.grow b2))
    replace S := (S.next b2)
    have R1 := Lib.hid r1
    clear r1
    clear b2
    go_wp2_with fail
    refine (reb_none (specRecordRebin_any R.out.1 R.out.2 RO.out) HC.out).mono ?_
    rintro e wv3 ⟨v2, rfl, r2, b3⟩
    replace R := Lib.hid ((R.out.grow b3))
    replace RO := Lib.hid ((RO.out.grow b3))
    replace R1 := Lib.hid ((R1.out.grow b3))
    replace S := (S.next b3)
    have R2 := Lib.hid r2
    clear r2
    clear b3
    go_wp2_with fail
    refine (fsame_yes R1.out R2.out rfl).mono ?_
    rintro e wv4 ⟨rfl, b4⟩
    replace R := Lib.hid ((R.out.grow b4))
    replace RO := Lib.hid ((RO.out.grow b4))
    replace R1 := Lib.hid ((R1.out.grow b4))
    replace R2 := Lib.hid ((R2.out.grow b4))
    replace S := (S.next b4)
    clear b4
    go_wp2_with fail
    refine (fsame_yes R1.out R2.out rfl).mono ?_
    rintro e wv5 ⟨rfl, b5⟩
    replace R := Lib.hid ((R.out.grow b5))
    replace RO := Lib.hid ((RO.out.grow b5))
    replace R1 := Lib.hid ((R1.out.grow b5))
    replace R2 := Lib.hid ((R2.out.grow b5))
    replace S := (S.next b5)
    clear b5
    go_wp2_with fail
    go_ret
    exact ⟨by simp, S.below⟩
  | some rs =>
    obtain ⟨hv, he⟩ := reb_edges hc
    have HC := Lib.hid hc; have HV := Lib.hid hv; have HE := Lib.hid he
    obtain ⟨ho2, ho21⟩ := isEdges_len he
    clear hc hv he
    go_wp2_with fail
    refine (reb_some (implRecordRebin_any R.out RO.out) HC.out).mono ?_
    rintro e wv2 ⟨v1, rfl, r1, b2⟩
    replace R := Lib.hid ((R.out.grow b2))
    replace RO := Lib.hid ((RO.out.grow b2))
    replace S := (S.next b2)
    have R1 := Lib.hid r1
    clear r1
    clear b2
    go_wp2_with fail
    refine (reb_some (specRecordRebin_any R.out.1 R.out.2 RO.out) HC.out).mono ?_
    rintro e wv3 ⟨v2, rfl, r2, b3⟩
    replace R := Lib.hid ((R.out.grow b3))
    replace RO := Lib.hid ((RO.out.grow b3))
    replace R1 := Lib.hid ((R1.out.grow b3))
    replace S := (S.next b3)
    have R2 := Lib.hid r2
    clear r2
    clear b3
    go_wp2_with fail
    refine (fsame_yes R1.out R2.out rfl).mono ?_
    rintro e wv4 ⟨rfl, b4⟩
    replace R := Lib.hid ((R.out.grow b4))
    replace RO := Lib.hid ((RO.out.grow b4))
    replace R1 := Lib.hid ((R1.out.grow b4))
    replace R2 := Lib.hid ((R2.out.grow b4))
    replace S := (S.next b4)
    clear b4
    clear R2
    obtain ⟨gx, ox, cx, rfl, hcx, hcxm⟩ := RO.out.known (by omega)
    unfold maxLen at hcxm
    obtain ⟨no, hno⟩ : ∃ n, o.length = n + 1 := ⟨o.length - 1, by omega⟩
    have HNO := Lib.hid hno
    have HRN := Lib.hid (reb_len HC.out hno)
    have HMN : Hid ((rs.map pr).length = no) := Lib.hid (by rw [List.length_map]; exact HRN.out)
    have hno1 : 1 ≤ no := by omega
    have hno20 : no ≤ 20 := by omega
    have ho0 : 0 < o.length := by omega
    have hon : no < o.length := by omega
    obtain ⟨gy, oy, cy, rfl, hcy, hcym⟩ := R1.out.known (by rw [HMN.out]; omega)
    unfold maxLen at hcym
    rw [HMN.out] at hcy
    rw [HMN.out] at R1
    rw [HMN.out]
    rw [hno] at hcx
    rw [hno] at RO
    rw [hno]
    clear hno
    have w0 : IntKind.i64.wrap ((no : Int) + 1 - 1) = (no : Int) := by rw [show (no : Int) + 1 - 1 = no by omega]; exact IntWalk.i64_in _ (by omega)
    have w0' : IntKind.i64.wrap (no : Int) = (no : Int) := IntWalk.i64_in _ (by omega)
    have w1 : (no : Int) < (no : Int) + 1 := by omega
    have w2 : (0 : Int) ≤ (no : Int) := by omega
    have w3 : (0 : Int) < (no : Int) + 1 := by omega
    have w4 : 0 < no + 1 := by omega
    have w5 : no < no + 1 := by omega
    have HNO1 := Lib.hid (show 0 < no by omega)
    have j5 : (0 : Int) < (no : Int) := by omega
    clear ho0 hon hno20 w0 w0' w1 w2 w3 w4 w5
    clear RO
    obtain ⟨hL, ha0, ha20⟩ := rec_len HV.out
    obtain ⟨g, o, cp, rfl, hcap, hcapm⟩ := R.out.1.known (by omega)
    obtain ⟨g', o', cp', rfl, hcap', hcapm'⟩ := R.out.2.known (by omega)
    unfold maxLen at hcapm hcapm'
    rw [hL] at hcap
    rw [hL] at R
    rw [hL]
    have HL := Lib.hid hL
    have hl0 : 0 < l.length := by omega
    have hla : a.length < l.length := by omega
    clear hL
    have q0 : (0 : Int) < (a.length : Int) + 1 := by omega
    have q1 : 0 < a.length + 1 := by omega
    have q2 : IntKind.i64.wrap ((a.length : Int) + 1 - 1) = (a.length : Int) := by rw [show (a.length : Int) + 1 - 1 = a.length by omega]; exact IntWalk.i64_in _ (by omega)
    have q2' : IntKind.i64.wrap (a.length : Int) = (a.length : Int) := IntWalk.i64_in _ (by omega)
    have q3 : (0 : Int) ≤ (a.length : Int) := by omega
    have q4 : (a.length : Int) < (a.length : Int) + 1 := by omega
    have q5 : a.length < a.length + 1 := by omega
    have HS := Lib.hid (rebOf_self HV.out)
    have HT := Lib.hid (total_rec HV.out)
    obtain ⟨s0, s1⟩ := rec_sum HV.out
    obtain ⟨t, ht⟩ : ∃ x : Int, l[0]'hl0 = x := ⟨_, rfl⟩
    obtain ⟨b, hb⟩ : ∃ x : Int, l[a.length]'hla = x := ⟨_, rfl⟩
    obtain ⟨sm, hsm⟩ : ∃ x : Int, a.sum = x := ⟨_, rfl⟩
    have HP := Lib.hid (reb_ends' HV.out HL.out)
    rw [ht, hb, hsm] at HP
    rw [hsm] at HT s0 s1
    have HTB := Lib.hid (And.intro ht hb)
    clear hsm ht hb
    go_wp2_with fail
    refine (reb_some (implRecordRebin_any R.out R.out.1) HS.out).mono ?_
    rintro e wv5 ⟨vx, rfl, rx, b5⟩
    replace R := Lib.hid ((R.out.grow b5))
    replace R1 := Lib.hid ((R1.out.grow b5))
    replace S := (S.next b5)
    have RX := Lib.hid rx
    clear rx
    clear b5
    have LZ : Hid (((a.map fun a : Int => (a : Rat)).map pr).length = a.length) := Lib.hid (by simp)
    obtain ⟨gz, oz, cz, rfl, hcz, hczm⟩ := RX.out.known (by rw [LZ.out]; omega)
    unfold maxLen at hczm
    rw [LZ.out] at hcz RX ⊢
    have f0 : _ = some (Value.int IntKind.i64 t) := (R.out.1.cells 0 hl0).trans (by rw [HTB.out.1]); have f1 : _ = some (Value.int IntKind.i64 b) := (R.out.1.cells a.length hla).trans (by rw [HTB.out.2])
    simp only [Nat.add_zero] at f0
    go_upto_region 9 with fail
    have mkS : ∀ w' : World, Below wv5.heap.size wv5 w' → (Below wv5.heap.size wv5 w' ∧ w'.cell? ⟨g, o, none⟩ = some (.int .i64 t) ∧ w'.cell? ⟨g, o + a.length, none⟩ = some (.int .i64 b)) := fun w' b => ⟨b, (b.cell (cell_below f0)).trans f0, (b.cell (cell_below f1)).trans f1⟩
    have held : ∀ W w' : World, Below W.heap.size W w' → (Below wv5.heap.size wv5 W ∧ W.cell? ⟨g, o, none⟩ = some (.int .i64 t) ∧ W.cell? ⟨g, o + a.length, none⟩ = some (.int .i64 b)) → (Below wv5.heap.size wv5 w' ∧ w'.cell? ⟨g, o, none⟩ = some (.int .i64 t) ∧ w'.cell? ⟨g, o + a.length, none⟩ = some (.int .i64 b)) := fun W w' b h => mkS w' (h.1.trans (b.mono h.1.size))
    have keep0 := mkS _ (Below.refl wv5.heap.size wv5).drew
    have atR := fun (W : World) (h : (Below wv5.heap.size wv5 W ∧ W.cell? ⟨g, o, none⟩ = some (.int .i64 t) ∧ W.cell? ⟨g, o + a.length, none⟩ = some (.int .i64 b))) => R.out.grow h.1
    have atR1 := fun (W : World) (h : (Below wv5.heap.size wv5 W ∧ W.cell? ⟨g, o, none⟩ = some (.int .i64 t) ∧ W.cell? ⟨g, o + a.length, none⟩ = some (.int .i64 b))) => R1.out.grow h.1
    have atRX := fun (W : World) (h : (Below wv5.heap.size wv5 W ∧ W.cell? ⟨g, o, none⟩ = some (.int .i64 t) ∧ W.cell? ⟨g, o + a.length, none⟩ = some (.int .i64 b))) => RX.out.grow h.1
    have tok0 : True := trivial
    have keepA := fun (ob : Obj) => mkS _ ((Below.refl wv5.heap.size wv5).alloc (Nat.le_refl _) ob).drew
    go_region_held3 (fun w' => (Below wv5.heap.size wv5 w' ∧ w'.cell? ⟨g, o, none⟩ = some (.int .i64 t) ∧ w'.cell? ⟨g, o + a.length, none⟩ = some (.int .i64 b))) (first | exact keep0 | exact hs0 | (with_reducible exact keepA _) | (with_reducible exact held _ _ ((Below.refl _ _).alloc (Nat.le_refl _) _) keep0) | (with_reducible exact held _ _ ((Below.refl _ _).alloc (Nat.le_refl _) _) hs0)) (first | (have _t := tok0; clear tok0 _t; go_at_call 27; refine (reb_some (implRecordRebin_any (atR _ (by assumption)) (irow_pair (by go_cell) (by go_cell))) HP.out).mono ?_; rintro e wv6 ⟨vy, rfl, ry, b0⟩; have hs0 := held _ _ b0 (by assumption)))
    clear keepA
    have B9 := hs0.1
    replace R := Lib.hid (R.out.grow B9)
    replace R1 := Lib.hid (R1.out.grow B9)
    replace RX := Lib.hid (RX.out.grow B9)
    replace S := S.next B9
    clear mkS held keep0 B9 atR atR1 atRX hs0 b0
    clear f0 f1
    have RY := Lib.hid ry
    clear ry
    obtain ⟨gv, ov, cv, rfl, hcv, hcvm⟩ := RY.out.known (by simp)
    have z1 : ([((sm : Int) : Rat)].map pr).length = 1 := rfl
    rw [z1] at hcv RY ⊢
    unfold maxLen at hcvm
    clear z1
    go_wp2_with fail
    go_loopg [14] a.length (fun rr z wr => ∃ j : Nat, z = .int .i64 j ∧ j + rr = a.length ∧ Below wv6.heap.size wv6 wr)
    case atStart => exact ⟨0, rfl, by omega, Below.refl _ _⟩
    case round =>
      obtain ⟨j, rfl, hk, hb⟩ := hrel
      have K := Lib.hid hk
      have hjl : j ≤ a.length := by omega
      clear hk
      have Q := St.start hb
      replace R := Lib.hid (R.out.grow hb)
      replace R1 := Lib.hid (R1.out.grow hb)
      replace RX := Lib.hid (RX.out.grow hb)
      replace RY := Lib.hid (RY.out.grow hb)
      replace S := S.next hb
      clear hb
      by_cases hlt : j < a.length
      · have i1 : (j : Int) < (a.length : Int) := by omega
        have i2 : (0 : Int) ≤ (j : Int) := by omega
        obtain ⟨y, hy⟩ : ∃ x : Int, a[j] = x := ⟨_, rfl⟩
        have hjz : j < ((a.map fun a : Int => (a : Rat)).map pr).length := by rw [LZ.out]; exact hlt
        obtain ⟨e0, e1⟩ := RX.out.cells j hjz
        have sg := self_get hlt
        rw [sg] at e0 e1
        simp only at e0 e1
        have e2 := R.out.2.cells j hlt
        rw [hy] at e0 e2
        clear sg hy hjz
        go_upto_region 13 with fail
        generalize wr = W6 at S Q R R1 RX RY e0 e1 e2  ⊢
        have mkS : ∀ w' : World, Below W6.heap.size W6 w' → (Below W6.heap.size W6 w' ∧ w'.cell? ⟨gz, oz + j * 2, none⟩ = some (.int .i64 y) ∧ w'.cell? ⟨gz, oz + j * 2 + 1, none⟩ = some (.int .i64 1) ∧ w'.cell? ⟨g', o' + j, none⟩ = some (.int .i64 y)) := fun w' b => ⟨b, (b.cell (cell_below e0)).trans e0, (b.cell (cell_below e1)).trans e1, (b.cell (cell_below e2)).trans e2⟩
        have held : ∀ W w' : World, Below W.heap.size W w' → (Below W6.heap.size W6 W ∧ W.cell? ⟨gz, oz + j * 2, none⟩ = some (.int .i64 y) ∧ W.cell? ⟨gz, oz + j * 2 + 1, none⟩ = some (.int .i64 1) ∧ W.cell? ⟨g', o' + j, none⟩ = some (.int .i64 y)) → (Below W6.heap.size W6 w' ∧ w'.cell? ⟨gz, oz + j * 2, none⟩ = some (.int .i64 y) ∧ w'.cell? ⟨gz, oz + j * 2 + 1, none⟩ = some (.int .i64 1) ∧ w'.cell? ⟨g', o' + j, none⟩ = some (.int .i64 y)) := fun W w' b h => mkS w' (h.1.trans (b.mono h.1.size))
        have keep0 := mkS _ (Below.refl W6.heap.size W6).drew
        have atR := fun (W : World) (h : (Below W6.heap.size W6 W ∧ W.cell? ⟨gz, oz + j * 2, none⟩ = some (.int .i64 y) ∧ W.cell? ⟨gz, oz + j * 2 + 1, none⟩ = some (.int .i64 1) ∧ W.cell? ⟨g', o' + j, none⟩ = some (.int .i64 y))) => R.out.grow h.1
        have atR1 := fun (W : World) (h : (Below W6.heap.size W6 W ∧ W.cell? ⟨gz, oz + j * 2, none⟩ = some (.int .i64 y) ∧ W.cell? ⟨gz, oz + j * 2 + 1, none⟩ = some (.int .i64 1) ∧ W.cell? ⟨g', o' + j, none⟩ = some (.int .i64 y))) => R1.out.grow h.1
        have atRX := fun (W : World) (h : (Below W6.heap.size W6 W ∧ W.cell? ⟨gz, oz + j * 2, none⟩ = some (.int .i64 y) ∧ W.cell? ⟨gz, oz + j * 2 + 1, none⟩ = some (.int .i64 1) ∧ W.cell? ⟨g', o' + j, none⟩ = some (.int .i64 y))) => RX.out.grow h.1
        have atRY := fun (W : World) (h : (Below W6.heap.size W6 W ∧ W.cell? ⟨gz, oz + j * 2, none⟩ = some (.int .i64 y) ∧ W.cell? ⟨gz, oz + j * 2 + 1, none⟩ = some (.int .i64 1) ∧ W.cell? ⟨g', o' + j, none⟩ = some (.int .i64 y))) => RY.out.grow h.1
        have tok0 : True := trivial
        go_region_held3 (fun w' => (Below W6.heap.size W6 w' ∧ w'.cell? ⟨gz, oz + j * 2, none⟩ = some (.int .i64 y) ∧ w'.cell? ⟨gz, oz + j * 2 + 1, none⟩ = some (.int .i64 1) ∧ w'.cell? ⟨g', o' + j, none⟩ = some (.int .i64 y))) (first | exact keep0 | exact hs0) (first | (have _t := tok0; clear tok0 _t; go_at_call 20; refine (frac_any _ _).mono ?_; rintro e wv7 ⟨rfl, b0⟩; have hs0 := held _ _ b0 (by assumption)))
        have B9 := hs0.1
        replace R := Lib.hid (R.out.grow B9)
        replace R1 := Lib.hid (R1.out.grow B9)
        replace RX := Lib.hid (RX.out.grow B9)
        replace RY := Lib.hid (RY.out.grow B9)
        replace S := S.next B9
        replace Q := Q.next B9
        clear mkS held keep0 B9 atR atR1 atRX atRY hs0 b0
        go_wp2_with fail
        go_roundg (gk - 1)
        case measure => have := K.out; omega
        case rel => exact ⟨j + 1, by go_num, by have := K.out; omega, Q.below⟩
      · have i1 : ¬ (j : Int) < (a.length : Int) := by omega
        clear Q
        obtain ⟨y0, y1⟩ := RY.out.cells 0 (by simp)
        simp only [Nat.zero_mul, Nat.add_zero] at y0 y1
        replace y0 : _ = some (Value.int IntKind.i64 (pr ((sm : Int) : Rat)).1) := y0
        replace y1 : _ = some (Value.int IntKind.i64 (pr ((sm : Int) : Rat)).2) := y1
        rw [pr_int] at y0 y1
        simp only at y0 y1
        go_upto_region 15 with fail
        generalize wr = W6 at S R R1 RX RY y0 y1  ⊢
        have mkS : ∀ w' : World, Below W6.heap.size W6 w' → (Below W6.heap.size W6 w' ∧ w'.cell? ⟨gv, ov, none⟩ = some (.int .i64 sm) ∧ w'.cell? ⟨gv, ov + 1, none⟩ = some (.int .i64 1)) := fun w' b => ⟨b, (b.cell (cell_below y0)).trans y0, (b.cell (cell_below y1)).trans y1⟩
        have held : ∀ W w' : World, Below W.heap.size W w' → (Below W6.heap.size W6 W ∧ W.cell? ⟨gv, ov, none⟩ = some (.int .i64 sm) ∧ W.cell? ⟨gv, ov + 1, none⟩ = some (.int .i64 1)) → (Below W6.heap.size W6 w' ∧ w'.cell? ⟨gv, ov, none⟩ = some (.int .i64 sm) ∧ w'.cell? ⟨gv, ov + 1, none⟩ = some (.int .i64 1)) := fun W w' b h => mkS w' (h.1.trans (b.mono h.1.size))
        have keep0 := mkS _ (Below.refl W6.heap.size W6).drew
        have atR := fun (W : World) (h : (Below W6.heap.size W6 W ∧ W.cell? ⟨gv, ov, none⟩ = some (.int .i64 sm) ∧ W.cell? ⟨gv, ov + 1, none⟩ = some (.int .i64 1))) => R.out.grow h.1
        have atR1 := fun (W : World) (h : (Below W6.heap.size W6 W ∧ W.cell? ⟨gv, ov, none⟩ = some (.int .i64 sm) ∧ W.cell? ⟨gv, ov + 1, none⟩ = some (.int .i64 1))) => R1.out.grow h.1
        have atRX := fun (W : World) (h : (Below W6.heap.size W6 W ∧ W.cell? ⟨gv, ov, none⟩ = some (.int .i64 sm) ∧ W.cell? ⟨gv, ov + 1, none⟩ = some (.int .i64 1))) => RX.out.grow h.1
        have atRY := fun (W : World) (h : (Below W6.heap.size W6 W ∧ W.cell? ⟨gv, ov, none⟩ = some (.int .i64 sm) ∧ W.cell? ⟨gv, ov + 1, none⟩ = some (.int .i64 1))) => RY.out.grow h.1
        have tok0 : True := trivial
        have tok1 : True := trivial
        go_region_held3 (fun w' => (Below W6.heap.size W6 w' ∧ w'.cell? ⟨gv, ov, none⟩ = some (.int .i64 sm) ∧ w'.cell? ⟨gv, ov + 1, none⟩ = some (.int .i64 1))) (first | exact keep0 | exact hs0 | exact hs1) (first | (have _t := tok0; clear tok0 _t; go_at_call 16; refine (total_is (atR _ (by assumption)) HT.out).mono ?_; rintro e x0 ⟨rfl, b0⟩; have hs0 := held _ _ b0 (by assumption)) | (have _t := tok1; clear tok1 _t; go_at_call 20; refine (frac_any _ _).mono ?_; rintro e wv7 ⟨rfl, b1⟩; have hs1 := held _ _ b1 (by assumption)))
        have B9 := hs1.1
        replace R := Lib.hid (R.out.grow B9)
        replace R1 := Lib.hid (R1.out.grow B9)
        replace RX := Lib.hid (RX.out.grow B9)
        replace RY := Lib.hid (RY.out.grow B9)
        replace S := S.next B9
        clear mkS held keep0 B9 atR atR1 atRX atRY hs0 b0 hs1 b1
        go_wp2_with fail
        go_ret
        exact ⟨by first | rfl | (simp; done) | (simp; omega), S.below⟩

set_option maxRecDepth 100000 in
theorem lifted (os : Os) (started : os.Started) (H : Type) (enc : TypeId × Value → H) :
    ReturnsInHanded {} Try.checked os 9 .any (Rows.fnRebinSelfSpec.pre6 enc Try.prog Try.f9 Rows.fnRebinSelfRow.domain false) (Rows.fnRebinSelfSpec.post enc Try.prog Try.f9 false true false false) := by
  refine returnsInHanded_of_change (C := Try.checked) own started (by kernel_rfl) Try.func9
    (ChangeSpec.witness6 (enc := enc) (C := Try.checked) false ⟨#[], #[.slice none 0 0], []⟩ 8 (by kernel_rfl) (by kernel_rfl) (by kernel_rfl) (by kernel_rfl)) ?_
  intro W base args ds gs before hval0 hW hcnd _
  have hval : ∀ (j : Nat) t v, Try.f9.params[j]? = some t → args[j]? = some v → Value.okWide Try.prog W .any base t v := hval0
  have hW' := hW
  obtain ⟨p, q, hA0, hV, rfl, hfz, hnd⟩ := hW
  have hA : DataW.TrodAll enc Try.prog W 0 (fun _ => true) true Try.f9.params.toList args.toList ds p := hA0
  rw [Try.params9] at hA hval
  obtain ⟨v0, vs0, d0, ds0, p0, q0, hargs, rfl, rfl, h0, r0⟩ := trodAll_cons hA
  obtain ⟨rfl, rfl, rfl⟩ := trodAll_nil r0
  obtain rfl : args = #[v0] := by cases args; simp_all
  obtain ⟨rfl, rfl⟩ := trodVars_none hV
  obtain ⟨a0, len0, cap0, rfl⟩ := okWide_slice Try.underlying22 (hval 0 22 v0 rfl rfl)
  have k0 := h0
  have lt0 : ∀ x ∈ p0, x.block < W.heap.size := by obtain ⟨m, hm⟩ := k0; exact DataW.trod_lt m _ _ _ hm
  obtain ⟨z0, w0⟩ : ∃ zs, IsRow .u8 W a0 len0 cap0 zs := by
    obtain ⟨fuel, hf⟩ := h0
    rcases open_ints Try.underlying22 Try.underlying5 (by kernel_rfl) hf with ⟨hcs, _⟩ | ⟨x, l, c, zs, hcs, _, hl, hm, hz, _, hcell, hwz⟩
    · simp [Value.cells] at hcs
      obtain ⟨rfl, rfl, rfl⟩ := hcs
      exact ⟨[], .inl ⟨rfl, rfl, rfl, rfl⟩⟩
    · simp [Value.cells] at hcs
      obtain ⟨rfl, rfl, rfl⟩ := hcs
      exact ⟨zs, .inr ⟨_, rfl, hl, hm, by simpa using hz, hcell, hwz⟩⟩
  clear hA0 hval0
  refine (walk a0 len0 cap0 z0 W w0).mono fun e W' ⟨he, bel⟩ => ?_
  subst he
  exact ⟨_, rfl, _, _, _, [], _, [], hW', trodAll_mk1 (shut_bool Try.underlying4 _), (trodAll_cons_mk (Below.trod laidOut (by kernel_rfl) (of_decide_eq_true (by kernel_rfl)) k0 bel lt0) trodAll_mk0), rfl, bel.frame _, fun h => by cases h⟩

theorem over : Rows.fnRebinSelfRow.holds Try.pinned (OpenSpec.ofChange Rows.fnRebinSelfSpec) :=
  OpenClaim.holds_of_wide 9 Try.f9 rfl rfl rfl rfl rfl rfl rfl ⟨rfl, rfl, rfl, rfl, rfl⟩ rfl rfl rfl rfl rfl (by kernel_rfl) Try.func9 (by kernel_rfl)
    (of_decide_eq_true (by kernel_rfl)) (by unfold Func.isWrapper; first | (rw [if_pos (by decide +kernel)]; kernel_rfl) | (rw [if_neg (by decide +kernel)]; exact ⟨rfl, rfl⟩))
    (fun os started H enc _ => lifted os started H enc)

/-- ████ THE STATEMENT ████ -/
theorem proved : Rows.FnRebinSelfSaid := over
#print axioms proved
end Go.Proofs.Ytkcbgeldnibjcaa.fnRebinSelf
