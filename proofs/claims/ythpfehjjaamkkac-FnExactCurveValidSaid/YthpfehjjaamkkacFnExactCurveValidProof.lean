/- For every input, the law FnExactCurveValid of the given statements returns true over the program at this commit, and its arguments read afterwards as before: no condition. -/
import Derived.Test.YthpfehjjaamkkacRows
import Derived.Test.YthpfehjjaamkkacKnotX
import Derived.Test.YthpfehjjaamkkacSpecCurve
import Derived.WalkKit
import Derived.ProofKit
import Derived.OpenShut
import Derived.ShutString
import Derived.Lib.SmallJoins
import Derived.ChangeOld
import Derived.Below
import Derived.Carry
namespace Go.Proofs.Ythpfehjjaamkkac.fnExactCurveValid
open Go.ChangeShapes Go.WideShapes Go.ChangeAt Go.RowKit
open Go.ChangeMaps (open_string shut_string)
set_option linter.unusedVariables false

theorem own : ownKnob Try.prog.godebug = none := by kernel_rfl

theorem laidOut : laidOutB Try.prog = true := by kernel_rfl

set_option maxRecDepth 100000 in
set_option maxHeartbeats 3200000 in
theorem walk (a0 : Option Addr) (len0 cap0 : Nat) (l0 : List Pc) (w : World) (w0 : Row w (.slice a0 len0 cap0) l0) :
    Calls Try.prog 6 #[.slice a0 len0 cap0] w fun e w' => e = .returned (.bool true) ∧ Below w.heap.size w w' := by
  have R0 := Lib.hid w0
  obtain ⟨_, n0, _, e0, hln, hc1, hc2, -⟩ := id w0
  simp only [Value.slice.injEq] at e0
  obtain ⟨-, rfl, -⟩ := e0
  have hc3 : len0 ≤ 9223372036854775807 := by unfold maxLen at hc2; omega
  clear w0 hc1 hc2
  by_cases hl : (1048576 : Int) - len0 < 0
  · go_enter Try.func6, Try.ntmps6
    go_wp2_with fail
    refine (szKnotS_any _ _ _ hc3 _).mono ?_
    rintro e u1 ⟨rfl, rfl⟩
    rw [if_pos hl]
    go_wp2_with fail
    go_ret
    exact ⟨rfl, Below.refl _ _⟩
  have hl20 : l0.length ≤ 1048576 := by omega
  obtain ⟨lft, hlf⟩ : ∃ x : Int, (if (1048576 : Int) - len0 < 0 then (-1 : Int) else 1048576 - len0) = x := ⟨_, rfl⟩
  have hlf0 : 0 ≤ lft := by rw [← hlf, if_neg hl]; omega
  have hlf1 : lft ≤ 1048576 := by rw [← hlf, if_neg hl]; omega
  obtain ⟨x, hx⟩ : ∃ x, isCurve l0 = x := ⟨_, rfl⟩
  have HX := Lib.hid hx
  clear hx
  go_enter Try.func6, Try.ntmps6
  go_wp2_with fail
  refine (szKnotS_any _ _ _ hc3 _).mono ?_
  rintro e u1 ⟨rfl, rfl⟩
  rw [hlf]
  clear hlf hl
  go_wp2_with fail
  refine (toKnotS_any R0.out hl20).mono ?_
  rintro e u2 ⟨v2, rfl, o2, b2⟩
  have R2 := Lib.hid o2.row
  replace R0 := Lib.hid (R0.out.grow b2)
  have B := Lib.hid b2
  clear o2 b2
  go_wp2_with fail
  refine (val_is (specCurveValid_any R2.out) (show _ = Value.bool x by rw [HX.out])).mono ?_
  rintro e u3 ⟨rfl, b3⟩
  replace R0 := Lib.hid (R0.out.grow b3)
  replace B := Lib.hid (B.out.trans (b3.mono B.out.size))
  clear R2 b3
  go_wp2_with fail
  refine (toKnotS_any R0.out hl20).mono ?_
  rintro e u4 ⟨v4, rfl, o4, b4⟩
  have R4 := Lib.hid o4.row
  replace R0 := Lib.hid (R0.out.grow b4)
  replace B := Lib.hid (B.out.trans (b4.mono B.out.size))
  clear o4 b4
  go_wp2_with fail
  refine (val_is (implCurveValid_any R4.out) (show _ = Value.bool x by rw [HX.out])).mono ?_
  rintro e u5 ⟨rfl, b5⟩
  replace R0 := Lib.hid (R0.out.grow b5)
  replace R4 := Lib.hid (R4.out.grow b5)
  replace B := Lib.hid (B.out.trans (b5.mono B.out.size))
  clear b5
  go_wp2_with fail
  refine (toKnotS_any R0.out hl20).mono ?_
  rintro e u6 ⟨v6, rfl, o6, b6⟩
  have R6 := Lib.hid o6.row
  replace R4 := Lib.hid (R4.out.grow b6)
  replace B := Lib.hid (B.out.trans (b6.mono B.out.size))
  clear o6 b6
  go_wp2_with fail
  refine (eqs_yes R4.out R6.out rfl).mono ?_
  rintro e u7 ⟨rfl, b7⟩
  replace B := Lib.hid (B.out.trans (b7.mono B.out.size))
  clear b7
  go_wp2_with fail
  go_ret
  exact ⟨rfl, B.out⟩

set_option maxRecDepth 100000 in
theorem lifted (os : Os) (started : os.Started) (H : Type) (enc : TypeId × Value → H) :
    ReturnsInHanded {} Try.checked os 6 .any (Rows.fnExactCurveValidSpec.pre6 enc Try.prog Try.f6 Rows.fnExactCurveValidRow.domain false) (Rows.fnExactCurveValidSpec.post enc Try.prog Try.f6 false true false false) := by
  refine returnsInHanded_of_change (C := Try.checked) own started (by kernel_rfl) Try.func6
    (ChangeSpec.witness6 (enc := enc) (C := Try.checked) false ⟨#[], #[.slice none 0 0], []⟩ 8 (by kernel_rfl) (by kernel_rfl) (by kernel_rfl) (by kernel_rfl)) ?_
  intro W base args ds gs before hval0 hW hcnd _
  have hval : ∀ (j : Nat) t v, Try.f6.params[j]? = some t → args[j]? = some v → Value.okWide Try.prog W .any base t v := hval0
  have hW' := hW
  obtain ⟨p, q, hA0, hV, rfl, hfz, hnd⟩ := hW
  have hA : DataW.TrodAll enc Try.prog W 0 (fun _ => true) true Try.f6.params.toList args.toList ds p := hA0
  rw [Try.params6] at hA hval
  obtain ⟨v0, vs0, d0, ds0, p0, q0, hargs, rfl, rfl, h0, r0⟩ := trodAll_cons hA
  obtain ⟨rfl, rfl, rfl⟩ := trodAll_nil r0
  obtain rfl : args = #[v0] := by cases args; simp_all
  obtain ⟨rfl, rfl⟩ := trodVars_none hV
  obtain ⟨a0, len0, cap0, rfl⟩ := okWide_slice Try.underlying41 (hval 0 41 v0 rfl rfl)
  have k0 := h0
  have lt0 : ∀ x ∈ p0, x.block < W.heap.size := by obtain ⟨m, hm⟩ := k0; exact DataW.trod_lt m _ _ _ hm
  obtain ⟨l0, w0⟩ := open_pieces Try.underlying41 Try.underlying49 (by kernel_rfl) rfl rfl (by kernel_rfl) (by kernel_rfl) Try.underlying3 Try.underlying3 h0
  clear hA0 hval0
  refine (walk a0 len0 cap0 l0 W w0).mono fun e W' ⟨he, hg⟩ => ?_
  subst he
  exact ⟨_, rfl, _, _, _, [], _, [], hW', (trodAll_cons_mk (shut_bool Try.underlying4 _) trodAll_mk0), (trodAll_cons_mk (Below.trod laidOut (by kernel_rfl) (of_decide_eq_true (by kernel_rfl)) k0 hg lt0) trodAll_mk0), rfl, hg.frame _, fun h => by cases h⟩

theorem over : Rows.fnExactCurveValidRow.holds Try.pinned (OpenSpec.ofChange Rows.fnExactCurveValidSpec) :=
  OpenClaim.holds_of_wide 6 Try.f6 rfl rfl rfl rfl rfl rfl rfl ⟨rfl, rfl, rfl, rfl, rfl⟩ rfl rfl rfl rfl rfl (by kernel_rfl) Try.func6 (by kernel_rfl)
    (of_decide_eq_true (by kernel_rfl)) (by unfold Func.isWrapper; first | (rw [if_pos (by decide +kernel)]; kernel_rfl) | (rw [if_neg (by decide +kernel)]; exact ⟨rfl, rfl⟩))
    (fun os started H enc _ => lifted os started H enc)

/-- The statement. -/
theorem proved : Rows.FnExactCurveValidSaid :=
  over
#print axioms proved
end Go.Proofs.Ythpfehjjaamkkac.fnExactCurveValid
