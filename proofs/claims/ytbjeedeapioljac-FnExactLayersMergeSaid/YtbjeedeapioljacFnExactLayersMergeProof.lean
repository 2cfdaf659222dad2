/- For every input, the law FnExactLayersMerge of the given statements returns true over the program at this commit, and its arguments read afterwards as before: no condition. -/
import Derived.Test.YtbjeedeapioljacRows
import Derived.Test.YtbjeedeapioljacExactL2
import Derived.WalkKit
import Derived.ProofKit
import Derived.OpenShut
import Derived.ShutString
import Derived.Lib.SmallJoins
import Derived.ChangeOld
import Derived.Below
import Derived.Carry
namespace Go.Proofs.Ytbjeedeapioljac.fnExactLayersMerge
open Go.ChangeShapes Go.WideShapes Go.ChangeAt Go.RowKit
open Go.ChangeMaps (open_string shut_string)
set_option linter.unusedVariables false

theorem own : ownKnob Try.prog.godebug = none := by kernel_rfl

theorem laidOut : laidOutB Try.prog = true := by kernel_rfl

set_option maxRecDepth 100000 in
set_option maxHeartbeats 3200000 in
theorem walk (a0 : Option Addr) (len0 cap0 : Nat) (l0 : List Ly) (a1 : Option Addr) (len1 cap1 : Nat) (l1 : List Ly) (w : World) (w0 : LRow w (.slice a0 len0 cap0) l0) (w1 : LRow w (.slice a1 len1 cap1) l1) :
    Calls Try.prog 8 #[.slice a0 len0 cap0, .slice a1 len1 cap1] w fun e w' => e = .returned (.bool true) ∧ Below w.heap.size w w' := by
  have R0 := Lib.hid w0
  obtain ⟨_, n0, _, e0, hn0, hc1, hc2, -⟩ := id w0
  simp only [Value.slice.injEq] at e0
  obtain ⟨-, rfl, -⟩ := e0
  have hc3_0 : len0 ≤ 9223372036854775807 := by unfold maxLen at hc2; omega
  clear w0 hc1 hc2
  have R1 := Lib.hid w1
  obtain ⟨_, n1, _, e1, hn1, hc1, hc2, -⟩ := id w1
  simp only [Value.slice.injEq] at e1
  obtain ⟨-, rfl, -⟩ := e1
  have hc3_1 : len1 ≤ 9223372036854775807 := by unfold maxLen at hc2; omega
  clear w1 hc1 hc2
  by_cases hl0 : (1048576 : Int) < len0
  · go_enter Try.func8, Try.ntmps8
    go_wp2_with fail
    refine (szLayerS_no _ _ _ 1048576 (by omega) hc3_0 hl0 _).mono ?_
    rintro e v0 ⟨rfl, rfl⟩
    go_wp2_with fail
    go_ret
    exact ⟨rfl, Below.refl _ _⟩
  obtain ⟨L0, hL0⟩ : ∃ x : Int, (1048576 : Int) - (len0 : Int) = x := ⟨_, rfl⟩
  have hL0_0 : 0 ≤ L0 := by omega
  have hL0_1 : L0 ≤ 1048576 := by omega
  have dL0 : decide (L0 < 0) = false := by simp; omega
  have h20_0 : l0.length ≤ 1048576 := by omega
  by_cases hl1 : (L0 : Int) < len1
  · go_enter Try.func8, Try.ntmps8
    go_wp2_with fail
    refine (szLayerS_yes _ _ _ 1048576 (by omega) (by omega) _).mono ?_
    rintro e v0 ⟨rfl, rfl⟩
    rw [hL0]
    go_wp2_with fail
    refine (szLayerS_no _ _ _ L0 (by omega) hc3_1 hl1 _).mono ?_
    rintro e v1 ⟨rfl, rfl⟩
    go_wp2_with fail
    go_ret
    exact ⟨rfl, Below.refl _ _⟩
  obtain ⟨L1, hL1⟩ : ∃ x : Int, (L0 : Int) - (len1 : Int) = x := ⟨_, rfl⟩
  have hL1_0 : 0 ≤ L1 := by omega
  have hL1_1 : L1 ≤ 1048576 := by omega
  have dL1 : decide (L1 < 0) = false := by simp; omega
  have h20_1 : l1.length ≤ 1048576 := by omega
  have m20 := mg20 l0 l1
  obtain ⟨m, hm⟩ : ∃ x, (mgOf l0 l1).getD [] = x := ⟨_, rfl⟩
  obtain ⟨c, hc⟩ : ∃ x, (mgOf l0 l1).isSome = x := ⟨_, rfl⟩
  rw [hm] at m20
  have HM := Lib.hid hm; have HB := Lib.hid hc
  clear hm hc
  have bo : (c != c) = false := by simp
  have bo2 : (!(c == c)) = false := by simp
  go_enter Try.func8, Try.ntmps8
  go_wp2_with fail
  refine (szLayerS_yes _ _ _ 1048576 (by omega) (by omega) _).mono ?_
  rintro e v0 ⟨rfl, rfl⟩
  rw [hL0]
  go_wp2_with fail
  refine (szLayerS_yes _ _ _ L0 (by omega) (by omega) _).mono ?_
  rintro e v1 ⟨rfl, rfl⟩
  rw [hL1]
  have BB := Lib.hid (Below.refl w.heap.size w)
  go_wp2_with fail
  refine (toLayerS_any (R0.out.grow BB.out) h20_0).mono ?_
  rintro e wv2 ⟨vA, rfl, o9, b9⟩
  replace BB := Lib.hid (BB.out.trans (b9.mono BB.out.size))
  have z2 : w.heap.size ≤ wv2.heap.size := b9.size
  have OA := Lib.hid o9
  have DA := Lib.hid (o9).lies
  clear b9
  clear o9
  go_wp2_with fail
  refine (toLayerS_any (R1.out.grow BB.out) h20_1).mono ?_
  rintro e wv3 ⟨vB, rfl, o9, b9⟩
  replace OA := Lib.hid (OA.out.grow b9)
  replace BB := Lib.hid (BB.out.trans (b9.mono BB.out.size))
  have z3 : wv2.heap.size ≤ wv3.heap.size := b9.size
  have OB := Lib.hid o9
  have DB := Lib.hid (o9).lies
  clear b9
  clear o9
  go_wp2_with fail
  refine (llstb_gen (specMerge_any OA.out.row OB.out.row) HM.out HB.out).mono ?_
  rintro e wv4 ⟨vW, rfl, o9, b9⟩
  replace OA := Lib.hid (OA.out.grow b9)
  replace OB := Lib.hid (OB.out.grow b9)
  replace BB := Lib.hid (BB.out.trans (b9.mono BB.out.size))
  have z4 : wv3.heap.size ≤ wv4.heap.size := b9.size
  have OW := Lib.hid o9
  have DW := Lib.hid (o9).lies
  clear b9
  clear o9
  clear OA DA
  clear OB DB
  go_wp2_with fail
  refine (toLayerS_any (R0.out.grow BB.out) h20_0).mono ?_
  rintro e wv5 ⟨vX, rfl, o9, b9⟩
  replace OW := Lib.hid (OW.out.grow b9)
  replace BB := Lib.hid (BB.out.trans (b9.mono BB.out.size))
  have z5 : wv4.heap.size ≤ wv5.heap.size := b9.size
  have OX := Lib.hid o9
  have DX := Lib.hid (o9).lies
  clear b9
  clear o9
  go_wp2_with fail
  refine (toLayerS_any (R1.out.grow BB.out) h20_1).mono ?_
  rintro e wv6 ⟨vY, rfl, o9, b9⟩
  replace OW := Lib.hid (OW.out.grow b9)
  replace OX := Lib.hid (OX.out.grow b9)
  replace BB := Lib.hid (BB.out.trans (b9.mono BB.out.size))
  have z6 : wv5.heap.size ≤ wv6.heap.size := b9.size
  have OY := Lib.hid o9
  have DY := Lib.hid (o9).lies
  clear b9
  clear o9
  go_wp2_with fail
  refine (llstb_gen (implMerge_any OX.out.row OY.out.row) HM.out HB.out).mono ?_
  rintro e wv7 ⟨vG, rfl, o9, b9⟩
  replace OW := Lib.hid (OW.out.grow b9)
  replace OX := Lib.hid (OX.out.grow b9)
  replace OY := Lib.hid (OY.out.grow b9)
  replace BB := Lib.hid (BB.out.trans (b9.mono BB.out.size))
  have z7 : wv6.heap.size ≤ wv7.heap.size := b9.size
  have OG := Lib.hid o9
  have DG := Lib.hid (o9).lies
  clear b9
  clear o9
  go_wp2_with fail
  refine (leqs_yes OG.out.row OW.out.row rfl).mono ?_
  rintro e wv8 ⟨rfl, b9⟩
  replace OW := Lib.hid (OW.out.grow b9)
  replace OX := Lib.hid (OX.out.grow b9)
  replace OY := Lib.hid (OY.out.grow b9)
  replace OG := Lib.hid (OG.out.grow b9)
  replace BB := Lib.hid (BB.out.trans (b9.mono BB.out.size))
  have z8 : wv7.heap.size ≤ wv8.heap.size := b9.size
  clear b9
  go_wp2_with fail
  refine (toLayerS_any (R0.out.grow BB.out) h20_0).mono ?_
  rintro e wv9 ⟨vA, rfl, o9, b9⟩
  replace OW := Lib.hid (OW.out.grow b9)
  replace OX := Lib.hid (OX.out.grow b9)
  replace OY := Lib.hid (OY.out.grow b9)
  replace OG := Lib.hid (OG.out.grow b9)
  replace BB := Lib.hid (BB.out.trans (b9.mono BB.out.size))
  have z9 : wv8.heap.size ≤ wv9.heap.size := b9.size
  have OA := Lib.hid o9
  have DA := Lib.hid (o9).lies
  clear b9
  clear o9
  go_wp2_with fail
  refine (leqs_yes OX.out.row OA.out.row rfl).mono ?_
  rintro e wv10 ⟨rfl, b9⟩
  replace OW := Lib.hid (OW.out.grow b9)
  replace OX := Lib.hid (OX.out.grow b9)
  replace OY := Lib.hid (OY.out.grow b9)
  replace OG := Lib.hid (OG.out.grow b9)
  replace OA := Lib.hid (OA.out.grow b9)
  replace BB := Lib.hid (BB.out.trans (b9.mono BB.out.size))
  have z10 : wv9.heap.size ≤ wv10.heap.size := b9.size
  clear b9
  clear OA DA
  go_wp2_with fail
  refine (toLayerS_any (R1.out.grow BB.out) h20_1).mono ?_
  rintro e wv11 ⟨vA, rfl, o9, b9⟩
  replace OW := Lib.hid (OW.out.grow b9)
  replace OX := Lib.hid (OX.out.grow b9)
  replace OY := Lib.hid (OY.out.grow b9)
  replace OG := Lib.hid (OG.out.grow b9)
  replace BB := Lib.hid (BB.out.trans (b9.mono BB.out.size))
  have z11 : wv10.heap.size ≤ wv11.heap.size := b9.size
  have OA := Lib.hid o9
  have DA := Lib.hid (o9).lies
  clear b9
  clear o9
  go_wp2_with fail
  refine (leqs_yes OY.out.row OA.out.row rfl).mono ?_
  rintro e wv12 ⟨rfl, b9⟩
  replace OW := Lib.hid (OW.out.grow b9)
  replace OX := Lib.hid (OX.out.grow b9)
  replace OY := Lib.hid (OY.out.grow b9)
  replace OG := Lib.hid (OG.out.grow b9)
  replace OA := Lib.hid (OA.out.grow b9)
  replace BB := Lib.hid (BB.out.trans (b9.mono BB.out.size))
  have z12 : wv11.heap.size ≤ wv12.heap.size := b9.size
  clear b9
  clear OA DA
  obtain ⟨k1, hk1⟩ : ∃ x : Int, 1 + 2 * (l0.length : Int) = x := ⟨_, rfl⟩
  have k1a : 0 ≤ k1 := by omega
  have k1b : k1 ≤ 3000000 := by omega
  have d1 : decide (k1 + 2 * (l1.length : Int) < 0) = false := by simp; omega
  have d2 : decide (1 + 2 * (m.length : Int) < 0) = false := by simp; omega
  have d4 : ((1 + 2 * (m.length : Int)) != (1 + 2 * (m.length : Int))) = false := by simp
  go_wp2_with fail
  refine (markLayerS_any (k0 := 1) OX.out h20_0 (by omega) (by omega)).mono ?_
  rintro e wv13 ⟨rfl, om, c9⟩
  replace OW := Lib.hid (OW.out.chg c9 (in_apart DW.out DX.out (by omega)))
  replace OY := Lib.hid (OY.out.chg c9 (in_apart DY.out DX.out (by omega)))
  replace OG := Lib.hid (OG.out.chg c9 (in_apart DG.out DX.out (by omega)))
  replace OX := Lib.hid om
  replace BB := Lib.hid (BB.out.trans (c9.below (fun k hk => by have := DX.out k hk; omega)))
  have z13 : wv12.heap.size ≤ wv13.heap.size := Nat.le_of_eq c9.size.symm
  clear om c9
  rw [hk1]
  go_wp2_with fail
  refine (markLayerS_any (k0 := k1) OY.out h20_1 (by omega) (by omega)).mono ?_
  rintro e wv14 ⟨rfl, om, c9⟩
  replace OW := Lib.hid (OW.out.chg c9 (in_apart DW.out DY.out (by omega)))
  replace OX := Lib.hid (OX.out.chg c9 (in_apart DX.out DY.out (by omega)))
  replace OG := Lib.hid (OG.out.chg c9 (in_apart DG.out DY.out (by omega)))
  replace OY := Lib.hid om
  replace BB := Lib.hid (BB.out.trans (c9.below (fun k hk => by have := DY.out k hk; omega)))
  have z14 : wv13.heap.size ≤ wv14.heap.size := Nat.le_of_eq c9.size.symm
  clear om c9
  go_wp2_with fail
  refine (leqs_yes OG.out.row OW.out.row rfl).mono ?_
  rintro e wv15 ⟨rfl, b9⟩
  replace OW := Lib.hid (OW.out.grow b9)
  replace OX := Lib.hid (OX.out.grow b9)
  replace OY := Lib.hid (OY.out.grow b9)
  replace OG := Lib.hid (OG.out.grow b9)
  replace BB := Lib.hid (BB.out.trans (b9.mono BB.out.size))
  have z15 : wv14.heap.size ≤ wv15.heap.size := b9.size
  clear b9
  go_wp2_with fail
  refine (markLayerS_any (k0 := 1) OG.out (by omega) (by omega) (by omega)).mono ?_
  rintro e wv16 ⟨rfl, om, c9⟩
  replace OW := Lib.hid (OW.out.chg c9 (in_apart DW.out DG.out (by omega)))
  replace OX := Lib.hid (OX.out.chg c9 (in_apart DX.out DG.out (by omega)))
  replace OY := Lib.hid (OY.out.chg c9 (in_apart DY.out DG.out (by omega)))
  replace OG := Lib.hid om
  replace BB := Lib.hid (BB.out.trans (c9.below (fun k hk => by have := DG.out k hk; omega)))
  have z16 : wv15.heap.size ≤ wv16.heap.size := Nat.le_of_eq c9.size.symm
  clear om c9
  go_wp2_with fail
  refine (heldLayerS_any (k0 := 1) OG.out (by omega) (by omega) (by omega)).mono ?_
  rintro e wv17 ⟨rfl, rfl⟩
  go_wp2_with fail
  refine (toLayerS_any (R0.out.grow BB.out) h20_0).mono ?_
  rintro e wv18 ⟨vA, rfl, o9, b9⟩
  replace OW := Lib.hid (OW.out.grow b9)
  replace OX := Lib.hid (OX.out.grow b9)
  replace OY := Lib.hid (OY.out.grow b9)
  replace OG := Lib.hid (OG.out.grow b9)
  replace BB := Lib.hid (BB.out.trans (b9.mono BB.out.size))
  have z18 : wv16.heap.size ≤ wv18.heap.size := b9.size
  have OA := Lib.hid o9
  have DA := Lib.hid (o9).lies
  clear b9
  clear o9
  go_wp2_with fail
  refine (toLayerS_any (R1.out.grow BB.out) h20_1).mono ?_
  rintro e wv19 ⟨vB, rfl, o9, b9⟩
  replace OW := Lib.hid (OW.out.grow b9)
  replace OX := Lib.hid (OX.out.grow b9)
  replace OY := Lib.hid (OY.out.grow b9)
  replace OG := Lib.hid (OG.out.grow b9)
  replace OA := Lib.hid (OA.out.grow b9)
  replace BB := Lib.hid (BB.out.trans (b9.mono BB.out.size))
  have z19 : wv18.heap.size ≤ wv19.heap.size := b9.size
  have OB := Lib.hid o9
  have DB := Lib.hid (o9).lies
  clear b9
  clear o9
  go_wp2_with fail
  refine (llstb_gen (implMerge_any OA.out.row OB.out.row) HM.out HB.out).mono ?_
  rintro e wv20 ⟨vH, rfl, o9, b9⟩
  replace OW := Lib.hid (OW.out.grow b9)
  replace OX := Lib.hid (OX.out.grow b9)
  replace OY := Lib.hid (OY.out.grow b9)
  replace OG := Lib.hid (OG.out.grow b9)
  replace OA := Lib.hid (OA.out.grow b9)
  replace OB := Lib.hid (OB.out.grow b9)
  replace BB := Lib.hid (BB.out.trans (b9.mono BB.out.size))
  have z20 : wv19.heap.size ≤ wv20.heap.size := b9.size
  have OH := Lib.hid o9
  have DH := Lib.hid (o9).lies
  clear b9
  clear o9
  clear OA DA
  clear OB DB
  go_wp2_with fail
  refine (leqs_yes OH.out.row OW.out.row rfl).mono ?_
  rintro e wv21 ⟨rfl, b9⟩
  replace OW := Lib.hid (OW.out.grow b9)
  replace OX := Lib.hid (OX.out.grow b9)
  replace OY := Lib.hid (OY.out.grow b9)
  replace OG := Lib.hid (OG.out.grow b9)
  replace OH := Lib.hid (OH.out.grow b9)
  replace BB := Lib.hid (BB.out.trans (b9.mono BB.out.size))
  have z21 : wv20.heap.size ≤ wv21.heap.size := b9.size
  clear b9
  go_wp2_with fail
  refine (heldLayerS_any (k0 := 1) OG.out (by omega) (by omega) (by omega)).mono ?_
  rintro e wv22 ⟨rfl, rfl⟩
  go_wp2_with fail
  go_ret
  exact ⟨by first | rfl | (simp; done) | (simp; omega), BB.out⟩

set_option maxRecDepth 100000 in
theorem lifted (os : Os) (started : os.Started) (H : Type) (enc : TypeId × Value → H) :
    ReturnsInHanded {} Try.checked os 8 .any (Rows.fnExactLayersMergeSpec.pre6 enc Try.prog Try.f8 Rows.fnExactLayersMergeRow.domain false) (Rows.fnExactLayersMergeSpec.post enc Try.prog Try.f8 false true false false) := by
  refine returnsInHanded_of_change (C := Try.checked) own started (by kernel_rfl) Try.func8
    (ChangeSpec.witness6 (enc := enc) (C := Try.checked) false ⟨#[], #[.slice none 0 0, .slice none 0 0], []⟩ 8 (by kernel_rfl) (by kernel_rfl) (by kernel_rfl) (by kernel_rfl)) ?_
  intro W base args ds gs before hval0 hW hcnd _
  have hval : ∀ (j : Nat) t v, Try.f8.params[j]? = some t → args[j]? = some v → Value.okWide Try.prog W .any base t v := hval0
  have hW' := hW
  obtain ⟨p, q, hA0, hV, rfl, hfz, hnd⟩ := hW
  have hA : DataW.TrodAll enc Try.prog W 0 (fun _ => true) true Try.f8.params.toList args.toList ds p := hA0
  rw [Try.params8] at hA hval
  obtain ⟨v0, vs0, d0, ds0, p0, q0, hargs, rfl, rfl, h0, r0⟩ := trodAll_cons hA
  obtain ⟨v1, vs1, d1, ds1, p1, q1, rfl, rfl, rfl, h1, r1⟩ := trodAll_cons r0
  obtain ⟨rfl, rfl, rfl⟩ := trodAll_nil r1
  obtain rfl : args = #[v0, v1] := by cases args; simp_all
  obtain ⟨rfl, rfl⟩ := trodVars_none hV
  obtain ⟨a0, len0, cap0, rfl⟩ := okWide_slice Try.underlying29 (hval 0 29 v0 rfl rfl)
  have k0 := h0
  have lt0 : ∀ x ∈ p0, x.block < W.heap.size := by obtain ⟨m, hm⟩ := k0; exact DataW.trod_lt m _ _ _ hm
  obtain ⟨l0, w0⟩ := open_layers Try.underlying29 Try.underlying64 (by kernel_rfl) rfl rfl (by kernel_rfl) (by kernel_rfl) Try.underlying3 Try.underlying4 h0
  obtain ⟨a1, len1, cap1, rfl⟩ := okWide_slice Try.underlying29 (hval 1 29 v1 rfl rfl)
  have k1 := h1
  have lt1 : ∀ x ∈ p1, x.block < W.heap.size := by obtain ⟨m, hm⟩ := k1; exact DataW.trod_lt m _ _ _ hm
  obtain ⟨l1, w1⟩ := open_layers Try.underlying29 Try.underlying64 (by kernel_rfl) rfl rfl (by kernel_rfl) (by kernel_rfl) Try.underlying3 Try.underlying4 h1
  clear hA0 hval0
  refine (walk a0 len0 cap0 l0 a1 len1 cap1 l1 W w0 w1).mono fun e W' ⟨he, hg⟩ => ?_
  subst he
  exact ⟨_, rfl, _, _, _, [], _, [], hW', (trodAll_cons_mk (shut_bool Try.underlying4 _) trodAll_mk0), (trodAll_cons_mk (Below.trod laidOut (by kernel_rfl) (of_decide_eq_true (by kernel_rfl)) k0 hg lt0) (trodAll_cons_mk (Below.trod laidOut (by kernel_rfl) (of_decide_eq_true (by kernel_rfl)) k1 hg lt1) trodAll_mk0)), rfl, hg.frame _, fun h => by cases h⟩

theorem over : Rows.fnExactLayersMergeRow.holds Try.pinned (OpenSpec.ofChange Rows.fnExactLayersMergeSpec) :=
  OpenClaim.holds_of_wide 8 Try.f8 rfl rfl rfl rfl rfl rfl rfl ⟨rfl, rfl, rfl, rfl, rfl⟩ rfl rfl rfl rfl rfl (by kernel_rfl) Try.func8 (by kernel_rfl)
    (of_decide_eq_true (by kernel_rfl)) (by unfold Func.isWrapper; first | (rw [if_pos (by decide +kernel)]; kernel_rfl) | (rw [if_neg (by decide +kernel)]; exact ⟨rfl, rfl⟩))
    (fun os started H enc _ => lifted os started H enc)

/-- The statement. -/
theorem proved : Rows.FnExactLayersMergeSaid :=
  over
#print axioms proved
end Go.Proofs.Ytbjeedeapioljac.fnExactLayersMerge
