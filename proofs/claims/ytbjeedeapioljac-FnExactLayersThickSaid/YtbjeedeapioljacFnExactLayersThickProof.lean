/- For every input, the law FnExactLayersThick of the given statements returns true over the program at this commit, and its arguments read afterwards as before: no condition. -/
import Derived.Test.YtbjeedeapioljacRows
import Derived.Test.YtbjeedeapioljacExactL2
import Derived.WalkKit
import Derived.ProofKit
import Derived.OpenShut
import Derived.ShutString
import Derived.Lib.SmallJoins
import Derived.ChangeOld
import Derived.Below
import Derived.Carry
namespace Go.Proofs.Ytbjeedeapioljac.fnExactLayersThick
open Go.ChangeShapes Go.WideShapes Go.ChangeAt Go.RowKit
open Go.ChangeMaps (open_string shut_string)
set_option linter.unusedVariables false

theorem own : ownKnob Try.prog.godebug = none := by kernel_rfl

theorem laidOut : laidOutB Try.prog = true := by kernel_rfl

set_option maxRecDepth 100000 in
set_option maxHeartbeats 3200000 in
theorem walk (a0 : Option Addr) (len0 cap0 : Nat) (l0 : List Ly) (w : World) (w0 : LRow w (.slice a0 len0 cap0) l0) :
    Calls Try.prog 10 #[.slice a0 len0 cap0] w fun e w' => e = .returned (.bool true) ∧ Below w.heap.size w w' := by
  have R0 := Lib.hid w0
  obtain ⟨_, n0, _, e0, hn0, hc1, hc2, -⟩ := id w0
  simp only [Value.slice.injEq] at e0
  obtain ⟨-, rfl, -⟩ := e0
  have hc3_0 : len0 ≤ 9223372036854775807 := by unfold maxLen at hc2; omega
  clear w0 hc1 hc2
  by_cases hl0 : (1048576 : Int) < len0
  · go_enter Try.func10, Try.ntmps10
    go_wp2_with fail
    refine (szLayerS_no _ _ _ 1048576 (by omega) hc3_0 hl0 _).mono ?_
    rintro e v0 ⟨rfl, rfl⟩
    go_wp2_with fail
    go_ret
    exact ⟨rfl, Below.refl _ _⟩
  obtain ⟨L0, hL0⟩ : ∃ x : Int, (1048576 : Int) - (len0 : Int) = x := ⟨_, rfl⟩
  have hL0_0 : 0 ≤ L0 := by omega
  have hL0_1 : L0 ≤ 1048576 := by omega
  have dL0 : decide (L0 < 0) = false := by simp; omega
  have h20_0 : l0.length ≤ 1048576 := by omega
  have m20 := thk20 l0
  obtain ⟨m, hm⟩ : ∃ x, thk l0 = x := ⟨_, rfl⟩
  rw [hm] at m20
  have HM := Lib.hid hm
  clear hm
  go_enter Try.func10, Try.ntmps10
  go_wp2_with fail
  refine (szLayerS_yes _ _ _ 1048576 (by omega) (by omega) _).mono ?_
  rintro e v0 ⟨rfl, rfl⟩
  rw [hL0]
  have BB := Lib.hid (Below.refl w.heap.size w)
  go_wp2_with fail
  refine (toLayerS_any (R0.out.grow BB.out) h20_0).mono ?_
  rintro e wv2 ⟨vA, rfl, o9, b9⟩
  replace BB := Lib.hid (BB.out.trans (b9.mono BB.out.size))
  have z2 : w.heap.size ≤ wv2.heap.size := b9.size
  have OA := Lib.hid o9
  have DA := Lib.hid (o9).lies
  clear b9
  clear o9
  go_wp2_with fail
  refine (lstn_gen (specThick_any OA.out.row) HM.out).mono ?_
  rintro e wv3 ⟨vW, rfl, o9, b9⟩
  replace OA := Lib.hid (OA.out.grow b9)
  replace BB := Lib.hid (BB.out.trans (b9.mono BB.out.size))
  have z3 : wv2.heap.size ≤ wv3.heap.size := b9.size
  have OW := Lib.hid o9
  have DW := Lib.hid (o9).lies
  clear b9
  clear o9
  clear OA DA
  go_wp2_with fail
  refine (toLayerS_any (R0.out.grow BB.out) h20_0).mono ?_
  rintro e wv4 ⟨vX, rfl, o9, b9⟩
  replace OW := Lib.hid (OW.out.grow b9)
  replace BB := Lib.hid (BB.out.trans (b9.mono BB.out.size))
  have z4 : wv3.heap.size ≤ wv4.heap.size := b9.size
  have OX := Lib.hid o9
  have DX := Lib.hid (o9).lies
  clear b9
  clear o9
  go_wp2_with fail
  refine (lstn_gen (implThick_any OX.out.row) HM.out).mono ?_
  rintro e wv5 ⟨vG, rfl, o9, b9⟩
  replace OW := Lib.hid (OW.out.grow b9)
  replace OX := Lib.hid (OX.out.grow b9)
  replace BB := Lib.hid (BB.out.trans (b9.mono BB.out.size))
  have z5 : wv4.heap.size ≤ wv5.heap.size := b9.size
  have OG := Lib.hid o9
  have DG := Lib.hid (o9).lies
  clear b9
  clear o9
  go_wp2_with fail
  refine (ieqs_yes OG.out.row OW.out.row rfl).mono ?_
  rintro e wv6 ⟨rfl, b9⟩
  replace OW := Lib.hid (OW.out.grow b9)
  replace OX := Lib.hid (OX.out.grow b9)
  replace OG := Lib.hid (OG.out.grow b9)
  replace BB := Lib.hid (BB.out.trans (b9.mono BB.out.size))
  have z6 : wv5.heap.size ≤ wv6.heap.size := b9.size
  clear b9
  go_wp2_with fail
  refine (toLayerS_any (R0.out.grow BB.out) h20_0).mono ?_
  rintro e wv7 ⟨vA, rfl, o9, b9⟩
  replace OW := Lib.hid (OW.out.grow b9)
  replace OX := Lib.hid (OX.out.grow b9)
  replace OG := Lib.hid (OG.out.grow b9)
  replace BB := Lib.hid (BB.out.trans (b9.mono BB.out.size))
  have z7 : wv6.heap.size ≤ wv7.heap.size := b9.size
  have OA := Lib.hid o9
  have DA := Lib.hid (o9).lies
  clear b9
  clear o9
  go_wp2_with fail
  refine (leqs_yes OX.out.row OA.out.row rfl).mono ?_
  rintro e wv8 ⟨rfl, b9⟩
  replace OW := Lib.hid (OW.out.grow b9)
  replace OX := Lib.hid (OX.out.grow b9)
  replace OG := Lib.hid (OG.out.grow b9)
  replace OA := Lib.hid (OA.out.grow b9)
  replace BB := Lib.hid (BB.out.trans (b9.mono BB.out.size))
  have z8 : wv7.heap.size ≤ wv8.heap.size := b9.size
  clear b9
  clear OA DA
  have d1 : decide (1 + 2 * (l0.length : Int) < 0) = false := by simp; omega
  have d2 : decide (1 + (m.length : Int) < 0) = false := by simp; omega
  have d4 : ((1 + (m.length : Int)) != (1 + (m.length : Int))) = false := by simp
  go_wp2_with fail
  refine (markLayerS_any (k0 := 1) OX.out h20_0 (by omega) (by omega)).mono ?_
  rintro e wv9 ⟨rfl, om, c9⟩
  replace OW := Lib.hid (OW.out.chg c9 (in_apart DW.out DX.out (by omega)))
  replace OG := Lib.hid (OG.out.chg c9 (in_apart DG.out DX.out (by omega)))
  replace OX := Lib.hid om
  replace BB := Lib.hid (BB.out.trans (c9.below (fun k hk => by have := DX.out k hk; omega)))
  have z9 : wv8.heap.size ≤ wv9.heap.size := Nat.le_of_eq c9.size.symm
  clear om c9
  go_wp2_with fail
  refine (ieqs_yes OG.out.row OW.out.row rfl).mono ?_
  rintro e wv10 ⟨rfl, b9⟩
  replace OW := Lib.hid (OW.out.grow b9)
  replace OX := Lib.hid (OX.out.grow b9)
  replace OG := Lib.hid (OG.out.grow b9)
  replace BB := Lib.hid (BB.out.trans (b9.mono BB.out.size))
  have z10 : wv9.heap.size ≤ wv10.heap.size := b9.size
  clear b9
  go_wp2_with fail
  refine (markIntS_any (k0 := 1) OG.out (by omega) (by omega) (by omega)).mono ?_
  rintro e wv11 ⟨rfl, om, c9⟩
  replace OW := Lib.hid (OW.out.chg c9 (in_apart DW.out DG.out (by omega)))
  replace OX := Lib.hid (OX.out.chg c9 (in_apart DX.out DG.out (by omega)))
  replace OG := Lib.hid om
  replace BB := Lib.hid (BB.out.trans (c9.below (fun k hk => by have := DG.out k hk; omega)))
  have z11 : wv10.heap.size ≤ wv11.heap.size := Nat.le_of_eq c9.size.symm
  clear om c9
  go_wp2_with fail
  refine (heldIntS_any (k0 := 1) OG.out (by omega) (by omega) (by omega)).mono ?_
  rintro e wv12 ⟨rfl, rfl⟩
  go_wp2_with fail
  refine (toLayerS_any (R0.out.grow BB.out) h20_0).mono ?_
  rintro e wv13 ⟨vA, rfl, o9, b9⟩
  replace OW := Lib.hid (OW.out.grow b9)
  replace OX := Lib.hid (OX.out.grow b9)
  replace OG := Lib.hid (OG.out.grow b9)
  replace BB := Lib.hid (BB.out.trans (b9.mono BB.out.size))
  have z13 : wv11.heap.size ≤ wv13.heap.size := b9.size
  have OA := Lib.hid o9
  have DA := Lib.hid (o9).lies
  clear b9
  clear o9
  go_wp2_with fail
  refine (lstn_gen (implThick_any OA.out.row) HM.out).mono ?_
  rintro e wv14 ⟨vH, rfl, o9, b9⟩
  replace OW := Lib.hid (OW.out.grow b9)
  replace OX := Lib.hid (OX.out.grow b9)
  replace OG := Lib.hid (OG.out.grow b9)
  replace OA := Lib.hid (OA.out.grow b9)
  replace BB := Lib.hid (BB.out.trans (b9.mono BB.out.size))
  have z14 : wv13.heap.size ≤ wv14.heap.size := b9.size
  have OH := Lib.hid o9
  have DH := Lib.hid (o9).lies
  clear b9
  clear o9
  clear OA DA
  go_wp2_with fail
  refine (ieqs_yes OH.out.row OW.out.row rfl).mono ?_
  rintro e wv15 ⟨rfl, b9⟩
  replace OW := Lib.hid (OW.out.grow b9)
  replace OX := Lib.hid (OX.out.grow b9)
  replace OG := Lib.hid (OG.out.grow b9)
  replace OH := Lib.hid (OH.out.grow b9)
  replace BB := Lib.hid (BB.out.trans (b9.mono BB.out.size))
  have z15 : wv14.heap.size ≤ wv15.heap.size := b9.size
  clear b9
  go_wp2_with fail
  refine (heldIntS_any (k0 := 1) OG.out (by omega) (by omega) (by omega)).mono ?_
  rintro e wv16 ⟨rfl, rfl⟩
  go_wp2_with fail
  go_ret
  exact ⟨by first | rfl | (simp; done) | (simp; omega), BB.out⟩

set_option maxRecDepth 100000 in
theorem lifted (os : Os) (started : os.Started) (H : Type) (enc : TypeId × Value → H) :
    ReturnsInHanded {} Try.checked os 10 .any (Rows.fnExactLayersThickSpec.pre6 enc Try.prog Try.f10 Rows.fnExactLayersThickRow.domain false) (Rows.fnExactLayersThickSpec.post enc Try.prog Try.f10 false true false false) := by
  refine returnsInHanded_of_change (C := Try.checked) own started (by kernel_rfl) Try.func10
    (ChangeSpec.witness6 (enc := enc) (C := Try.checked) false ⟨#[], #[.slice none 0 0], []⟩ 8 (by kernel_rfl) (by kernel_rfl) (by kernel_rfl) (by kernel_rfl)) ?_
  intro W base args ds gs before hval0 hW hcnd _
  have hval : ∀ (j : Nat) t v, Try.f10.params[j]? = some t → args[j]? = some v → Value.okWide Try.prog W .any base t v := hval0
  have hW' := hW
  obtain ⟨p, q, hA0, hV, rfl, hfz, hnd⟩ := hW
  have hA : DataW.TrodAll enc Try.prog W 0 (fun _ => true) true Try.f10.params.toList args.toList ds p := hA0
  rw [Try.params10] at hA hval
  obtain ⟨v0, vs0, d0, ds0, p0, q0, hargs, rfl, rfl, h0, r0⟩ := trodAll_cons hA
  obtain ⟨rfl, rfl, rfl⟩ := trodAll_nil r0
  obtain rfl : args = #[v0] := by cases args; simp_all
  obtain ⟨rfl, rfl⟩ := trodVars_none hV
  obtain ⟨a0, len0, cap0, rfl⟩ := okWide_slice Try.underlying29 (hval 0 29 v0 rfl rfl)
  have k0 := h0
  have lt0 : ∀ x ∈ p0, x.block < W.heap.size := by obtain ⟨m, hm⟩ := k0; exact DataW.trod_lt m _ _ _ hm
  obtain ⟨l0, w0⟩ := open_layers Try.underlying29 Try.underlying64 (by kernel_rfl) rfl rfl (by kernel_rfl) (by kernel_rfl) Try.underlying3 Try.underlying4 h0
  clear hA0 hval0
  refine (walk a0 len0 cap0 l0 W w0).mono fun e W' ⟨he, hg⟩ => ?_
  subst he
  exact ⟨_, rfl, _, _, _, [], _, [], hW', (trodAll_cons_mk (shut_bool Try.underlying4 _) trodAll_mk0), (trodAll_cons_mk (Below.trod laidOut (by kernel_rfl) (of_decide_eq_true (by kernel_rfl)) k0 hg lt0) trodAll_mk0), rfl, hg.frame _, fun h => by cases h⟩

theorem over : Rows.fnExactLayersThickRow.holds Try.pinned (OpenSpec.ofChange Rows.fnExactLayersThickSpec) :=
  OpenClaim.holds_of_wide 10 Try.f10 rfl rfl rfl rfl rfl rfl rfl ⟨rfl, rfl, rfl, rfl, rfl⟩ rfl rfl rfl rfl rfl (by kernel_rfl) Try.func10 (by kernel_rfl)
    (of_decide_eq_true (by kernel_rfl)) (by unfold Func.isWrapper; first | (rw [if_pos (by decide +kernel)]; kernel_rfl) | (rw [if_neg (by decide +kernel)]; exact ⟨rfl, rfl⟩))
    (fun os started H enc _ => lifted os started H enc)

/-- The statement. -/
theorem proved : Rows.FnExactLayersThickSaid :=
  over
#print axioms proved
end Go.Proofs.Ytbjeedeapioljac.fnExactLayersThick
