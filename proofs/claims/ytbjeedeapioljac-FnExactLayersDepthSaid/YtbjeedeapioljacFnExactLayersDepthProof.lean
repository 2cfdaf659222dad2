/- For every input, the law FnExactLayersDepth of the given statements returns true over the program at this commit, and its arguments read afterwards as before: no condition. -/
import Derived.Test.YtbjeedeapioljacRows
import Derived.Test.YtbjeedeapioljacExactL2
import Derived.WalkKit
import Derived.ProofKit
import Derived.OpenShut
import Derived.ShutString
import Derived.Lib.SmallJoins
import Derived.ChangeOld
import Derived.Below
import Derived.Carry
namespace Go.Proofs.Ytbjeedeapioljac.fnExactLayersDepth
open Go.ChangeShapes Go.WideShapes Go.ChangeAt Go.RowKit
open Go.ChangeMaps (open_string shut_string)
set_option linter.unusedVariables false

theorem own : ownKnob Try.prog.godebug = none := by kernel_rfl

theorem laidOut : laidOutB Try.prog = true := by kernel_rfl

set_option maxRecDepth 100000 in
set_option maxHeartbeats 3200000 in
theorem walk (a0 : Option Addr) (len0 cap0 : Nat) (l0 : List Ly) (a1 : Int) (w1 : (Lit.int .i64 a1).wf = true) (w : World) (w0 : LRow w (.slice a0 len0 cap0) l0) :
    Calls Try.prog 9 #[.slice a0 len0 cap0, .int .i64 a1] w fun e w' => e = .returned (.bool true) ∧ Below w.heap.size w w' := by
  have R0 := Lib.hid w0
  obtain ⟨_, n0, _, e0, hn0, hc1, hc2, -⟩ := id w0
  simp only [Value.slice.injEq] at e0
  obtain ⟨-, rfl, -⟩ := e0
  have hc3_0 : len0 ≤ 9223372036854775807 := by unfold maxLen at hc2; omega
  clear w0 hc1 hc2
  by_cases hl0 : (1048576 : Int) < len0
  · go_enter Try.func9, Try.ntmps9
    go_wp2_with fail
    refine (szLayerS_no _ _ _ 1048576 (by omega) hc3_0 hl0 _).mono ?_
    rintro e v0 ⟨rfl, rfl⟩
    go_wp2_with fail
    go_ret
    exact ⟨rfl, Below.refl _ _⟩
  obtain ⟨L0, hL0⟩ : ∃ x : Int, (1048576 : Int) - (len0 : Int) = x := ⟨_, rfl⟩
  have hL0_0 : 0 ≤ L0 := by omega
  have hL0_1 : L0 ≤ 1048576 := by omega
  have dL0 : decide (L0 < 0) = false := by simp; omega
  have h20_0 : l0.length ≤ 1048576 := by omega
  obtain ⟨x, c, hv⟩ := dthV_form l0 a1
  have HV := Lib.hid hv
  clear hv
  have bo : (c != c) = false := by simp
  have bo2 : (!(c == c)) = false := by simp
  go_enter Try.func9, Try.ntmps9
  go_wp2_with fail
  refine (szLayerS_yes _ _ _ 1048576 (by omega) (by omega) _).mono ?_
  rintro e v0 ⟨rfl, rfl⟩
  rw [hL0]
  have BB := Lib.hid (Below.refl w.heap.size w)
  go_wp2_with fail
  refine (toLayerS_any (R0.out.grow BB.out) h20_0).mono ?_
  rintro e wv2 ⟨vA, rfl, o9, b9⟩
  replace BB := Lib.hid (BB.out.trans (b9.mono BB.out.size))
  have z2 : w.heap.size ≤ wv2.heap.size := b9.size
  have OA := Lib.hid o9
  have DA := Lib.hid (o9).lies
  clear b9
  clear o9
  go_wp2_with fail
  refine (ret_gen (specDepth_any a1 OA.out.row) HV.out).mono ?_
  rintro e wv3 ⟨rfl, b9⟩
  replace OA := Lib.hid (OA.out.grow b9)
  replace BB := Lib.hid (BB.out.trans (b9.mono BB.out.size))
  have z3 : wv2.heap.size ≤ wv3.heap.size := b9.size
  clear b9
  clear OA DA
  go_wp2_with fail
  refine (toLayerS_any (R0.out.grow BB.out) h20_0).mono ?_
  rintro e wv4 ⟨vX, rfl, o9, b9⟩
  replace BB := Lib.hid (BB.out.trans (b9.mono BB.out.size))
  have z4 : wv3.heap.size ≤ wv4.heap.size := b9.size
  have OX := Lib.hid o9
  have DX := Lib.hid (o9).lies
  clear b9
  clear o9
  go_wp2_with fail
  refine (ret_gen (implDepth_any a1 OX.out.row) HV.out).mono ?_
  rintro e wv5 ⟨rfl, b9⟩
  replace OX := Lib.hid (OX.out.grow b9)
  replace BB := Lib.hid (BB.out.trans (b9.mono BB.out.size))
  have z5 : wv4.heap.size ≤ wv5.heap.size := b9.size
  clear b9
  go_wp2_with fail
  refine (toLayerS_any (R0.out.grow BB.out) h20_0).mono ?_
  rintro e wv6 ⟨vA, rfl, o9, b9⟩
  replace OX := Lib.hid (OX.out.grow b9)
  replace BB := Lib.hid (BB.out.trans (b9.mono BB.out.size))
  have z6 : wv5.heap.size ≤ wv6.heap.size := b9.size
  have OA := Lib.hid o9
  have DA := Lib.hid (o9).lies
  clear b9
  clear o9
  go_wp2_with fail
  refine (leqs_yes OX.out.row OA.out.row rfl).mono ?_
  rintro e wv7 ⟨rfl, b9⟩
  replace OX := Lib.hid (OX.out.grow b9)
  replace OA := Lib.hid (OA.out.grow b9)
  replace BB := Lib.hid (BB.out.trans (b9.mono BB.out.size))
  have z7 : wv6.heap.size ≤ wv7.heap.size := b9.size
  clear b9
  go_wp2_with fail
  go_ret
  exact ⟨by first | rfl | (simp; done) | (simp; omega), BB.out⟩

set_option maxRecDepth 100000 in
theorem lifted (os : Os) (started : os.Started) (H : Type) (enc : TypeId × Value → H) :
    ReturnsInHanded {} Try.checked os 9 .any (Rows.fnExactLayersDepthSpec.pre6 enc Try.prog Try.f9 Rows.fnExactLayersDepthRow.domain false) (Rows.fnExactLayersDepthSpec.post enc Try.prog Try.f9 false true false false) := by
  refine returnsInHanded_of_change (C := Try.checked) own started (by kernel_rfl) Try.func9
    (ChangeSpec.witness6 (enc := enc) (C := Try.checked) false ⟨#[], #[.slice none 0 0, .int .i64 0], []⟩ 8 (by kernel_rfl) (by kernel_rfl) (by kernel_rfl) (by kernel_rfl)) ?_
  intro W base args ds gs before hval0 hW hcnd _
  have hval : ∀ (j : Nat) t v, Try.f9.params[j]? = some t → args[j]? = some v → Value.okWide Try.prog W .any base t v := hval0
  have hW' := hW
  obtain ⟨p, q, hA0, hV, rfl, hfz, hnd⟩ := hW
  have hA : DataW.TrodAll enc Try.prog W 0 (fun _ => true) true Try.f9.params.toList args.toList ds p := hA0
  rw [Try.params9] at hA hval
  obtain ⟨v0, vs0, d0, ds0, p0, q0, hargs, rfl, rfl, h0, r0⟩ := trodAll_cons hA
  obtain ⟨v1, vs1, d1, ds1, p1, q1, rfl, rfl, rfl, h1, r1⟩ := trodAll_cons r0
  obtain ⟨rfl, rfl, rfl⟩ := trodAll_nil r1
  obtain rfl : args = #[v0, v1] := by cases args; simp_all
  obtain ⟨rfl, rfl⟩ := trodVars_none hV
  obtain ⟨a0, len0, cap0, rfl⟩ := okWide_slice Try.underlying29 (hval 0 29 v0 rfl rfl)
  have k0 := h0
  have lt0 : ∀ x ∈ p0, x.block < W.heap.size := by obtain ⟨m, hm⟩ := k0; exact DataW.trod_lt m _ _ _ hm
  obtain ⟨l0, w0⟩ := open_layers Try.underlying29 Try.underlying64 (by kernel_rfl) rfl rfl (by kernel_rfl) (by kernel_rfl) Try.underlying3 Try.underlying4 h0
  obtain ⟨a1, rfl, rfl, rfl, w1⟩ := open_int Try.underlying3 (hval 1 3 v1 rfl rfl) h1
  clear hA0 hval0
  refine (walk a0 len0 cap0 l0 a1 w1 W w0).mono fun e W' ⟨he, hg⟩ => ?_
  subst he
  exact ⟨_, rfl, _, _, _, [], _, [], hW', (trodAll_cons_mk (shut_bool Try.underlying4 _) trodAll_mk0), (trodAll_cons_mk (Below.trod laidOut (by kernel_rfl) (of_decide_eq_true (by kernel_rfl)) k0 hg lt0) (trodAll_cons_mk (shut_int Try.underlying3 w1) trodAll_mk0)), rfl, hg.frame _, fun h => by cases h⟩

theorem over : Rows.fnExactLayersDepthRow.holds Try.pinned (OpenSpec.ofChange Rows.fnExactLayersDepthSpec) :=
  OpenClaim.holds_of_wide 9 Try.f9 rfl rfl rfl rfl rfl rfl rfl ⟨rfl, rfl, rfl, rfl, rfl⟩ rfl rfl rfl rfl rfl (by kernel_rfl) Try.func9 (by kernel_rfl)
    (of_decide_eq_true (by kernel_rfl)) (by unfold Func.isWrapper; first | (rw [if_pos (by decide +kernel)]; kernel_rfl) | (rw [if_neg (by decide +kernel)]; exact ⟨rfl, rfl⟩))
    (fun os started H enc _ => lifted os started H enc)

/-- The statement. -/
theorem proved : Rows.FnExactLayersDepthSaid :=
  over
#print axioms proved
end Go.Proofs.Ytbjeedeapioljac.fnExactLayersDepth
