/- For every input, the law FnExactRecordRebin of the given statements returns true over the program at this commit, and its arguments read afterwards as before: no condition. -/
import Derived.Test.YtkcbgeldnibjcacRows
import Derived.Test.YtkcbgeldnibjcacExactF
import Derived.WalkKit
import Derived.ProofKit
import Derived.OpenShut
import Derived.ShutString
import Derived.ChangeOld
import Derived.Below
namespace Go.Proofs.Ytkcbgeldnibjcac.fnExactRecordRebin
open Go.ChangeShapes Go.WideShapes Go.ChangeAt Go.RowKit
open Go.ChangeMaps (open_string shut_string)
set_option linter.unusedVariables false

theorem own : ownKnob Try.prog.godebug = none := by kernel_rfl
theorem laidOut : laidOutB Try.prog = true := by kernel_rfl

/-- WHAT THE WALK IS TOLD OF A SLICE OF INTEGERS THAT CAME IN: it is nil; or it leads to a row of 'cap' cells, the numbers 'zs' (the first 'len' are its elements, the rest its spare room), each fitting its kind. -/
def IsRow (k : IntKind) (w : World) (a : Option Addr) (len cap : Nat) (zs : List Int) : Prop :=
  (a = none ∧ len = 0 ∧ cap = 0 ∧ zs = []) ∨
  ∃ x, a = some x ∧ len ≤ cap ∧ cap ≤ maxLen ∧ zs.length = cap ∧ (∀ i, i < zs.length → w.cell? (x.add i) = some (.int k (zs.getD i 0))) ∧ ∀ n ∈ zs, (Lit.int k n).wf = true

set_option maxRecDepth 100000 in
set_option maxHeartbeats 3200000 in
theorem walk (a0 : Option Addr) (len0 cap0 : Nat) (z0 : List Int) (a1 : Option Addr) (len1 cap1 : Nat) (z1 : List Int) (a2 : Option Addr) (len2 cap2 : Nat) (z2 : List Int) (w : World) (w0 : IsRow .i64 w a0 len0 cap0 z0) (w1 : IsRow .i64 w a1 len1 cap1 z1) (w2 : IsRow .i64 w a2 len2 cap2 z2) :
    Calls Try.prog 4 #[.slice a0 len0 cap0, .slice a1 len1 cap1, .slice a2 len2 cap2] w fun e w' => e = .returned (.bool true) ∧ Below w.heap.size w w' := by
  obtain ⟨l0, r0, hn0⟩ := irow_of w0
  have R0 := Lib.hid r0; have HN0 := Lib.hid hn0
  clear w0 r0 hn0
  obtain ⟨l1, r1, hn1⟩ := irow_of w1
  have R1 := Lib.hid r1; have HN1 := Lib.hid hn1
  clear w1 r1 hn1
  obtain ⟨l2, r2, hn2⟩ := irow_of w2
  have R2 := Lib.hid r2; have HN2 := Lib.hid hn2
  clear w2 r2 hn2
  by_cases hl0 : 1048576 < len0
  · have hd0 : decide ((1048576 : Int) < (len0 : Int)) = true := by simp; omega
    go_enter Try.func4, Try.ntmps4
    go_wp2_with fail
    go_ret
    exact ⟨rfl, Below.refl _ _⟩
  have hd0 : decide ((1048576 : Int) < (len0 : Int)) = false := by simp; omega
  have h20_0 : l0.length ≤ 1048576 := by have := HN0.out; omega
  by_cases hl1 : 1048576 < len1
  · have hd1 : decide ((1048576 : Int) < (len1 : Int)) = true := by simp; omega
    go_enter Try.func4, Try.ntmps4
    go_wp2_with fail
    go_ret
    exact ⟨rfl, Below.refl _ _⟩
  have hd1 : decide ((1048576 : Int) < (len1 : Int)) = false := by simp; omega
  have h20_1 : l1.length ≤ 1048576 := by have := HN1.out; omega
  by_cases hl2 : 1048576 < len2
  · have hd2 : decide ((1048576 : Int) < (len2 : Int)) = true := by simp; omega
    go_enter Try.func4, Try.ntmps4
    go_wp2_with fail
    go_ret
    exact ⟨rfl, Below.refl _ _⟩
  have hd2 : decide ((1048576 : Int) < (len2 : Int)) = false := by simp; omega
  have h20_2 : l2.length ≤ 1048576 := by have := HN2.out; omega
  go_enter Try.func4, Try.ntmps4
  have S := St.start (Below.refl w.heap.size w)
  clear S
  have BB := Lib.hid (Below.refl w.heap.size w)
  have m20 := reb20 l0 l1 l2
  obtain ⟨me, hme⟩ : ∃ x, ((rebOf l0 l1 l2).getD []).map pr = x := ⟨_, rfl⟩
  obtain ⟨ob, hob⟩ : ∃ x, (rebOf l0 l1 l2).isSome = x := ⟨_, rfl⟩
  rw [hme] at m20
  have ME := Lib.hid hme; have OB := Lib.hid hob
  clear hme hob
  have bo : (ob != ob) = false := by simp
  go_wp2_with fail
  refine (toIntS_any (R0.out.grow BB.out) h20_0).mono ?_
  rintro e wv2 ⟨vA, rfl, o9, b9⟩
  replace BB := Lib.hid (BB.out.trans (b9.mono BB.out.size))
  have z2 : w.heap.size ≤ wv2.heap.size := b9.size
  have OA := Lib.hid o9
  have DA := Lib.hid (o9).lies
  clear b9
  clear o9
  go_wp2_with fail
  refine (toIntS_any (R1.out.grow BB.out) h20_1).mono ?_
  rintro e wv3 ⟨vC, rfl, o9, b9⟩
  replace OA := Lib.hid (OA.out.grow b9)
  replace BB := Lib.hid (BB.out.trans (b9.mono BB.out.size))
  have z3 : wv2.heap.size ≤ wv3.heap.size := b9.size
  have OC := Lib.hid o9
  have DC := Lib.hid (o9).lies
  clear b9
  clear o9
  go_wp2_with fail
  refine (toIntS_any (R2.out.grow BB.out) h20_2).mono ?_
  rintro e wv4 ⟨vE, rfl, o9, b9⟩
  replace OA := Lib.hid (OA.out.grow b9)
  replace OC := Lib.hid (OC.out.grow b9)
  replace BB := Lib.hid (BB.out.trans (b9.mono BB.out.size))
  have z4 : wv3.heap.size ≤ wv4.heap.size := b9.size
  have OE := Lib.hid o9
  have DE := Lib.hid (o9).lies
  clear b9
  clear o9
  go_wp2_with fail
  refine (rebB_gen (specRecordRebin_any OA.out.row OC.out.row OE.out.row) ME.out OB.out).mono ?_
  rintro e wv5 ⟨vW, rfl, ow, b9⟩
  replace OA := Lib.hid (OA.out.grow b9)
  replace OC := Lib.hid (OC.out.grow b9)
  replace OE := Lib.hid (OE.out.grow b9)
  replace BB := Lib.hid (BB.out.trans (b9.mono BB.out.size))
  have z5 : wv4.heap.size ≤ wv5.heap.size := b9.size
  have OW := Lib.hid ow
  have DW := Lib.hid (ow).lies
  clear b9
  clear ow
  clear OA DA
  clear OC DC
  clear OE DE
  go_wp2_with fail
  refine (toIntS_any (R0.out.grow BB.out) h20_0).mono ?_
  rintro e wv6 ⟨vX, rfl, o9, b9⟩
  replace OW := Lib.hid (OW.out.grow b9)
  replace BB := Lib.hid (BB.out.trans (b9.mono BB.out.size))
  have z6 : wv5.heap.size ≤ wv6.heap.size := b9.size
  have OX := Lib.hid o9
  have DX := Lib.hid (o9).lies
  clear b9
  clear o9
  go_wp2_with fail
  refine (toIntS_any (R1.out.grow BB.out) h20_1).mono ?_
  rintro e wv7 ⟨vY, rfl, o9, b9⟩
  replace OW := Lib.hid (OW.out.grow b9)
  replace OX := Lib.hid (OX.out.grow b9)
  replace BB := Lib.hid (BB.out.trans (b9.mono BB.out.size))
  have z7 : wv6.heap.size ≤ wv7.heap.size := b9.size
  have OY := Lib.hid o9
  have DY := Lib.hid (o9).lies
  clear b9
  clear o9
  go_wp2_with fail
  refine (toIntS_any (R2.out.grow BB.out) h20_2).mono ?_
  rintro e wv8 ⟨vZ, rfl, o9, b9⟩
  replace OW := Lib.hid (OW.out.grow b9)
  replace OX := Lib.hid (OX.out.grow b9)
  replace OY := Lib.hid (OY.out.grow b9)
  replace BB := Lib.hid (BB.out.trans (b9.mono BB.out.size))
  have z8 : wv7.heap.size ≤ wv8.heap.size := b9.size
  have OZ := Lib.hid o9
  have DZ := Lib.hid (o9).lies
  clear b9
  clear o9
  go_wp2_with fail
  refine (rebB_gen (implRecordRebin_any ⟨OX.out.row, OY.out.row⟩ OZ.out.row) ME.out OB.out).mono ?_
  rintro e wv9 ⟨vG, rfl, ow, b9⟩
  replace OW := Lib.hid (OW.out.grow b9)
  replace OX := Lib.hid (OX.out.grow b9)
  replace OY := Lib.hid (OY.out.grow b9)
  replace OZ := Lib.hid (OZ.out.grow b9)
  replace BB := Lib.hid (BB.out.trans (b9.mono BB.out.size))
  have z9 : wv8.heap.size ≤ wv9.heap.size := b9.size
  have OG := Lib.hid ow
  have DG := Lib.hid (ow).lies
  clear b9
  clear ow
  go_wp2_with fail
  refine (feqs_yes OG.out.row OW.out.row).mono ?_
  rintro e wv10 ⟨rfl, b9⟩
  replace OW := Lib.hid (OW.out.grow b9)
  replace OX := Lib.hid (OX.out.grow b9)
  replace OY := Lib.hid (OY.out.grow b9)
  replace OZ := Lib.hid (OZ.out.grow b9)
  replace OG := Lib.hid (OG.out.grow b9)
  replace BB := Lib.hid (BB.out.trans (b9.mono BB.out.size))
  have z10 : wv9.heap.size ≤ wv10.heap.size := b9.size
  clear b9
  go_wp2_with fail
  refine (toIntS_any (R0.out.grow BB.out) h20_0).mono ?_
  rintro e wv11 ⟨vA, rfl, o9, b9⟩
  replace OW := Lib.hid (OW.out.grow b9)
  replace OX := Lib.hid (OX.out.grow b9)
  replace OY := Lib.hid (OY.out.grow b9)
  replace OZ := Lib.hid (OZ.out.grow b9)
  replace OG := Lib.hid (OG.out.grow b9)
  replace BB := Lib.hid (BB.out.trans (b9.mono BB.out.size))
  have z11 : wv10.heap.size ≤ wv11.heap.size := b9.size
  have OA := Lib.hid o9
  have DA := Lib.hid (o9).lies
  clear b9
  clear o9
  go_wp2_with fail
  refine (ieqs_yes OX.out.row OA.out.row rfl).mono ?_
  rintro e wv12 ⟨rfl, b9⟩
  replace OW := Lib.hid (OW.out.grow b9)
  replace OX := Lib.hid (OX.out.grow b9)
  replace OY := Lib.hid (OY.out.grow b9)
  replace OZ := Lib.hid (OZ.out.grow b9)
  replace OG := Lib.hid (OG.out.grow b9)
  replace OA := Lib.hid (OA.out.grow b9)
  replace BB := Lib.hid (BB.out.trans (b9.mono BB.out.size))
  have z12 : wv11.heap.size ≤ wv12.heap.size := b9.size
  clear b9
  clear OA DA
  go_wp2_with fail
  refine (toIntS_any (R1.out.grow BB.out) h20_1).mono ?_
  rintro e wv13 ⟨vA, rfl, o9, b9⟩
  replace OW := Lib.hid (OW.out.grow b9)
  replace OX := Lib.hid (OX.out.grow b9)
  replace OY := Lib.hid (OY.out.grow b9)
  replace OZ := Lib.hid (OZ.out.grow b9)
  replace OG := Lib.hid (OG.out.grow b9)
  replace BB := Lib.hid (BB.out.trans (b9.mono BB.out.size))
  have z13 : wv12.heap.size ≤ wv13.heap.size := b9.size
  have OA := Lib.hid o9
  have DA := Lib.hid (o9).lies
  clear b9
  clear o9
  go_wp2_with fail
  refine (ieqs_yes OY.out.row OA.out.row rfl).mono ?_
  rintro e wv14 ⟨rfl, b9⟩
  replace OW := Lib.hid (OW.out.grow b9)
  replace OX := Lib.hid (OX.out.grow b9)
  replace OY := Lib.hid (OY.out.grow b9)
  replace OZ := Lib.hid (OZ.out.grow b9)
  replace OG := Lib.hid (OG.out.grow b9)
  replace OA := Lib.hid (OA.out.grow b9)
  replace BB := Lib.hid (BB.out.trans (b9.mono BB.out.size))
  have z14 : wv13.heap.size ≤ wv14.heap.size := b9.size
  clear b9
  clear OA DA
  go_wp2_with fail
  refine (toIntS_any (R2.out.grow BB.out) h20_2).mono ?_
  rintro e wv15 ⟨vA, rfl, o9, b9⟩
  replace OW := Lib.hid (OW.out.grow b9)
  replace OX := Lib.hid (OX.out.grow b9)
  replace OY := Lib.hid (OY.out.grow b9)
  replace OZ := Lib.hid (OZ.out.grow b9)
  replace OG := Lib.hid (OG.out.grow b9)
  replace BB := Lib.hid (BB.out.trans (b9.mono BB.out.size))
  have z15 : wv14.heap.size ≤ wv15.heap.size := b9.size
  have OA := Lib.hid o9
  have DA := Lib.hid (o9).lies
  clear b9
  clear o9
  go_wp2_with fail
  refine (ieqs_yes OZ.out.row OA.out.row rfl).mono ?_
  rintro e wv16 ⟨rfl, b9⟩
  replace OW := Lib.hid (OW.out.grow b9)
  replace OX := Lib.hid (OX.out.grow b9)
  replace OY := Lib.hid (OY.out.grow b9)
  replace OZ := Lib.hid (OZ.out.grow b9)
  replace OG := Lib.hid (OG.out.grow b9)
  replace OA := Lib.hid (OA.out.grow b9)
  replace BB := Lib.hid (BB.out.trans (b9.mono BB.out.size))
  have z16 : wv15.heap.size ≤ wv16.heap.size := b9.size
  clear b9
  clear OA DA
  have d1 : decide (1 + (l0.length : Int) + (l1.length : Int) + (l2.length : Int) < 0) = false := by simp; omega
  have d2 : decide (1 + 2 * (me.length : Int) < 0) = false := by simp; omega
  have d4 : ((1 + 2 * (me.length : Int)) != (1 + 2 * (me.length : Int))) = false := by simp
  go_wp2_with fail
  refine (markIntS_any (k0 := 1) OX.out h20_0 (by omega) (by omega)).mono ?_
  rintro e wv17 ⟨rfl, om, c9⟩
  replace OW := Lib.hid (OW.out.chg c9 (in_apart DW.out DX.out (by omega)))
  replace OY := Lib.hid (OY.out.chg c9 (in_apart DY.out DX.out (by omega)))
  replace OZ := Lib.hid (OZ.out.chg c9 (in_apart DZ.out DX.out (by omega)))
  replace OG := Lib.hid (OG.out.chg c9 (in_apart DG.out DX.out (by omega)))
  replace OX := Lib.hid om
  replace BB := Lib.hid (BB.out.trans (c9.below (fun k hk => by have := DX.out k hk; omega)))
  have z17 : wv16.heap.size ≤ wv17.heap.size := Nat.le_of_eq c9.size.symm
  clear om c9
  go_wp2_with fail
  refine (markIntS_any (k0 := 1 + (l0.length : Int)) OY.out h20_1 (by omega) (by omega)).mono ?_
  rintro e wv18 ⟨rfl, om, c9⟩
  replace OW := Lib.hid (OW.out.chg c9 (in_apart DW.out DY.out (by omega)))
  replace OX := Lib.hid (OX.out.chg c9 (in_apart DX.out DY.out (by omega)))
  replace OZ := Lib.hid (OZ.out.chg c9 (in_apart DZ.out DY.out (by omega)))
  replace OG := Lib.hid (OG.out.chg c9 (in_apart DG.out DY.out (by omega)))
  replace OY := Lib.hid om
  replace BB := Lib.hid (BB.out.trans (c9.below (fun k hk => by have := DY.out k hk; omega)))
  have z18 : wv17.heap.size ≤ wv18.heap.size := Nat.le_of_eq c9.size.symm
  clear om c9
  go_wp2_with fail
  refine (markIntS_any (k0 := 1 + (l0.length : Int) + (l1.length : Int)) OZ.out h20_2 (by omega) (by omega)).mono ?_
  rintro e wv19 ⟨rfl, om, c9⟩
  replace OW := Lib.hid (OW.out.chg c9 (in_apart DW.out DZ.out (by omega)))
  replace OX := Lib.hid (OX.out.chg c9 (in_apart DX.out DZ.out (by omega)))
  replace OY := Lib.hid (OY.out.chg c9 (in_apart DY.out DZ.out (by omega)))
  replace OG := Lib.hid (OG.out.chg c9 (in_apart DG.out DZ.out (by omega)))
  replace OZ := Lib.hid om
  replace BB := Lib.hid (BB.out.trans (c9.below (fun k hk => by have := DZ.out k hk; omega)))
  have z19 : wv18.heap.size ≤ wv19.heap.size := Nat.le_of_eq c9.size.symm
  clear om c9
  go_wp2_with fail
  refine (feqs_yes OG.out.row OW.out.row).mono ?_
  rintro e wv20 ⟨rfl, b9⟩
  replace OW := Lib.hid (OW.out.grow b9)
  replace OX := Lib.hid (OX.out.grow b9)
  replace OY := Lib.hid (OY.out.grow b9)
  replace OZ := Lib.hid (OZ.out.grow b9)
  replace OG := Lib.hid (OG.out.grow b9)
  replace BB := Lib.hid (BB.out.trans (b9.mono BB.out.size))
  have z20 : wv19.heap.size ≤ wv20.heap.size := b9.size
  clear b9
  go_wp2_with fail
  refine (mark_any OG.out (by omega)).mono ?_
  rintro e wv21 ⟨rfl, om, c9⟩
  replace OW := Lib.hid (OW.out.chg c9 (in_apart DW.out DG.out (by omega)))
  replace OX := Lib.hid (OX.out.chg c9 (in_apart DX.out DG.out (by omega)))
  replace OY := Lib.hid (OY.out.chg c9 (in_apart DY.out DG.out (by omega)))
  replace OZ := Lib.hid (OZ.out.chg c9 (in_apart DZ.out DG.out (by omega)))
  replace OG := Lib.hid om
  replace BB := Lib.hid (BB.out.trans (c9.below (fun k hk => by have := DG.out k hk; omega)))
  have z21 : wv20.heap.size ≤ wv21.heap.size := Nat.le_of_eq c9.size.symm
  clear om c9
  go_wp2_with fail
  refine (held_any OG.out (by omega)).mono ?_
  rintro e wv22 ⟨rfl, rfl⟩
  go_wp2_with fail
  refine (toIntS_any (R0.out.grow BB.out) h20_0).mono ?_
  rintro e wv23 ⟨vA, rfl, o9, b9⟩
  replace OW := Lib.hid (OW.out.grow b9)
  replace OX := Lib.hid (OX.out.grow b9)
  replace OY := Lib.hid (OY.out.grow b9)
  replace OZ := Lib.hid (OZ.out.grow b9)
  replace OG := Lib.hid (OG.out.grow b9)
  replace BB := Lib.hid (BB.out.trans (b9.mono BB.out.size))
  have z23 : wv21.heap.size ≤ wv23.heap.size := b9.size
  have OA := Lib.hid o9
  have DA := Lib.hid (o9).lies
  clear b9
  clear o9
  go_wp2_with fail
  refine (toIntS_any (R1.out.grow BB.out) h20_1).mono ?_
  rintro e wv24 ⟨vC, rfl, o9, b9⟩
  replace OW := Lib.hid (OW.out.grow b9)
  replace OX := Lib.hid (OX.out.grow b9)
  replace OY := Lib.hid (OY.out.grow b9)
  replace OZ := Lib.hid (OZ.out.grow b9)
  replace OG := Lib.hid (OG.out.grow b9)
  replace OA := Lib.hid (OA.out.grow b9)
  replace BB := Lib.hid (BB.out.trans (b9.mono BB.out.size))
  have z24 : wv23.heap.size ≤ wv24.heap.size := b9.size
  have OC := Lib.hid o9
  have DC := Lib.hid (o9).lies
  clear b9
  clear o9
  go_wp2_with fail
  refine (toIntS_any (R2.out.grow BB.out) h20_2).mono ?_
  rintro e wv25 ⟨vE, rfl, o9, b9⟩
  replace OW := Lib.hid (OW.out.grow b9)
  replace OX := Lib.hid (OX.out.grow b9)
  replace OY := Lib.hid (OY.out.grow b9)
  replace OZ := Lib.hid (OZ.out.grow b9)
  replace OG := Lib.hid (OG.out.grow b9)
  replace OA := Lib.hid (OA.out.grow b9)
  replace OC := Lib.hid (OC.out.grow b9)
  replace BB := Lib.hid (BB.out.trans (b9.mono BB.out.size))
  have z25 : wv24.heap.size ≤ wv25.heap.size := b9.size
  have OE := Lib.hid o9
  have DE := Lib.hid (o9).lies
  clear b9
  clear o9
  go_wp2_with fail
  refine (rebB_gen (implRecordRebin_any ⟨OA.out.row, OC.out.row⟩ OE.out.row) ME.out OB.out).mono ?_
  rintro e wv26 ⟨vP, rfl, ow, b9⟩
  replace OW := Lib.hid (OW.out.grow b9)
  replace OX := Lib.hid (OX.out.grow b9)
  replace OY := Lib.hid (OY.out.grow b9)
  replace OZ := Lib.hid (OZ.out.grow b9)
  replace OG := Lib.hid (OG.out.grow b9)
  replace OA := Lib.hid (OA.out.grow b9)
  replace OC := Lib.hid (OC.out.grow b9)
  replace OE := Lib.hid (OE.out.grow b9)
  replace BB := Lib.hid (BB.out.trans (b9.mono BB.out.size))
  have z26 : wv25.heap.size ≤ wv26.heap.size := b9.size
  have OP := Lib.hid ow
  have DP := Lib.hid (ow).lies
  clear b9
  clear ow
  clear OA DA
  clear OC DC
  clear OE DE
  go_wp2_with fail
  refine (feqs_yes OP.out.row OW.out.row).mono ?_
  rintro e wv27 ⟨rfl, b9⟩
  replace OW := Lib.hid (OW.out.grow b9)
  replace OX := Lib.hid (OX.out.grow b9)
  replace OY := Lib.hid (OY.out.grow b9)
  replace OZ := Lib.hid (OZ.out.grow b9)
  replace OG := Lib.hid (OG.out.grow b9)
  replace OP := Lib.hid (OP.out.grow b9)
  replace BB := Lib.hid (BB.out.trans (b9.mono BB.out.size))
  have z27 : wv26.heap.size ≤ wv27.heap.size := b9.size
  clear b9
  go_wp2_with fail
  refine (held_any OG.out (by omega)).mono ?_
  rintro e wv28 ⟨rfl, rfl⟩
  go_wp2_with fail
  go_ret
  exact ⟨by first | rfl | (simp; done) | (simp; omega), BB.out⟩

set_option maxRecDepth 100000 in
theorem lifted (os : Os) (started : os.Started) (H : Type) (enc : TypeId × Value → H) :
    ReturnsInHanded {} Try.checked os 4 .any (Rows.fnExactRecordRebinSpec.pre6 enc Try.prog Try.f4 Rows.fnExactRecordRebinRow.domain false) (Rows.fnExactRecordRebinSpec.post enc Try.prog Try.f4 false true false false) := by
  refine returnsInHanded_of_change (C := Try.checked) own started (by kernel_rfl) Try.func4
    (ChangeSpec.witness6 (enc := enc) (C := Try.checked) false ⟨#[], #[.slice none 0 0, .slice none 0 0, .slice none 0 0], []⟩ 8 (by kernel_rfl) (by kernel_rfl) (by kernel_rfl) (by kernel_rfl)) ?_
  intro W base args ds gs before hval0 hW hcnd _
  have hval : ∀ (j : Nat) t v, Try.f4.params[j]? = some t → args[j]? = some v → Value.okWide Try.prog W .any base t v := hval0
  have hW' := hW
  obtain ⟨p, q, hA0, hV, rfl, hfz, hnd⟩ := hW
  have hA : DataW.TrodAll enc Try.prog W 0 (fun _ => true) true Try.f4.params.toList args.toList ds p := hA0
  rw [Try.params4] at hA hval
  obtain ⟨v0, vs0, d0, ds0, p0, q0, hargs, rfl, rfl, h0, r0⟩ := trodAll_cons hA
  obtain ⟨v1, vs1, d1, ds1, p1, q1, rfl, rfl, rfl, h1, r1⟩ := trodAll_cons r0
  obtain ⟨v2, vs2, d2, ds2, p2, q2, rfl, rfl, rfl, h2, r2⟩ := trodAll_cons r1
  obtain ⟨rfl, rfl, rfl⟩ := trodAll_nil r2
  obtain rfl : args = #[v0, v1, v2] := by cases args; simp_all
  obtain ⟨rfl, rfl⟩ := trodVars_none hV
  obtain ⟨a0, len0, cap0, rfl⟩ := okWide_slice Try.underlying22 (hval 0 22 v0 rfl rfl)
  have k0 := h0
  have lt0 : ∀ x ∈ p0, x.block < W.heap.size := by obtain ⟨m, hm⟩ := k0; exact DataW.trod_lt m _ _ _ hm
  obtain ⟨z0, w0⟩ : ∃ zs, IsRow .i64 W a0 len0 cap0 zs := by
    obtain ⟨fuel, hf⟩ := h0
    rcases open_ints Try.underlying22 Try.underlying3 (by kernel_rfl) hf with ⟨hcs, _⟩ | ⟨x, l, c, zs, hcs, _, hl, hm, hz, _, hcell, hwz⟩
    · simp [Value.cells] at hcs
      obtain ⟨rfl, rfl, rfl⟩ := hcs
      exact ⟨[], .inl ⟨rfl, rfl, rfl, rfl⟩⟩
    · simp [Value.cells] at hcs
      obtain ⟨rfl, rfl, rfl⟩ := hcs
      exact ⟨zs, .inr ⟨_, rfl, hl, hm, by simpa using hz, hcell, hwz⟩⟩
  obtain ⟨a1, len1, cap1, rfl⟩ := okWide_slice Try.underlying22 (hval 1 22 v1 rfl rfl)
  have k1 := h1
  have lt1 : ∀ x ∈ p1, x.block < W.heap.size := by obtain ⟨m, hm⟩ := k1; exact DataW.trod_lt m _ _ _ hm
  obtain ⟨z1, w1⟩ : ∃ zs, IsRow .i64 W a1 len1 cap1 zs := by
    obtain ⟨fuel, hf⟩ := h1
    rcases open_ints Try.underlying22 Try.underlying3 (by kernel_rfl) hf with ⟨hcs, _⟩ | ⟨x, l, c, zs, hcs, _, hl, hm, hz, _, hcell, hwz⟩
    · simp [Value.cells] at hcs
      obtain ⟨rfl, rfl, rfl⟩ := hcs
      exact ⟨[], .inl ⟨rfl, rfl, rfl, rfl⟩⟩
    · simp [Value.cells] at hcs
      obtain ⟨rfl, rfl, rfl⟩ := hcs
      exact ⟨zs, .inr ⟨_, rfl, hl, hm, by simpa using hz, hcell, hwz⟩⟩
  obtain ⟨a2, len2, cap2, rfl⟩ := okWide_slice Try.underlying22 (hval 2 22 v2 rfl rfl)
  have k2 := h2
  have lt2 : ∀ x ∈ p2, x.block < W.heap.size := by obtain ⟨m, hm⟩ := k2; exact DataW.trod_lt m _ _ _ hm
  obtain ⟨z2, w2⟩ : ∃ zs, IsRow .i64 W a2 len2 cap2 zs := by
    obtain ⟨fuel, hf⟩ := h2
    rcases open_ints Try.underlying22 Try.underlying3 (by kernel_rfl) hf with ⟨hcs, _⟩ | ⟨x, l, c, zs, hcs, _, hl, hm, hz, _, hcell, hwz⟩
    · simp [Value.cells] at hcs
      obtain ⟨rfl, rfl, rfl⟩ := hcs
      exact ⟨[], .inl ⟨rfl, rfl, rfl, rfl⟩⟩
    · simp [Value.cells] at hcs
      obtain ⟨rfl, rfl, rfl⟩ := hcs
      exact ⟨zs, .inr ⟨_, rfl, hl, hm, by simpa using hz, hcell, hwz⟩⟩
  clear hA0 hval0
  refine (walk a0 len0 cap0 z0 a1 len1 cap1 z1 a2 len2 cap2 z2 W w0 w1 w2).mono fun e W' ⟨he, bel⟩ => ?_
  subst he
  exact ⟨_, rfl, _, _, _, [], _, [], hW', trodAll_mk1 (shut_bool Try.underlying4 _), (trodAll_cons_mk (Below.trod laidOut (by kernel_rfl) (of_decide_eq_true (by kernel_rfl)) k0 bel lt0) (trodAll_cons_mk (Below.trod laidOut (by kernel_rfl) (of_decide_eq_true (by kernel_rfl)) k1 bel lt1) (trodAll_cons_mk (Below.trod laidOut (by kernel_rfl) (of_decide_eq_true (by kernel_rfl)) k2 bel lt2) trodAll_mk0))), rfl, bel.frame _, fun h => by cases h⟩

theorem over : Rows.fnExactRecordRebinRow.holds Try.pinned (OpenSpec.ofChange Rows.fnExactRecordRebinSpec) :=
  OpenClaim.holds_of_wide 4 Try.f4 rfl rfl rfl rfl rfl rfl rfl ⟨rfl, rfl, rfl, rfl, rfl⟩ rfl rfl rfl rfl rfl (by kernel_rfl) Try.func4 (by kernel_rfl)
    (of_decide_eq_true (by kernel_rfl)) (by unfold Func.isWrapper; first | (rw [if_pos (by decide +kernel)]; kernel_rfl) | (rw [if_neg (by decide +kernel)]; exact ⟨rfl, rfl⟩))
    (fun os started H enc _ => lifted os started H enc)

/-- ████ THE STATEMENT ████ -/
theorem proved : Rows.FnExactRecordRebinSaid := over
#print axioms proved
end Go.Proofs.Ytkcbgeldnibjcac.fnExactRecordRebin
