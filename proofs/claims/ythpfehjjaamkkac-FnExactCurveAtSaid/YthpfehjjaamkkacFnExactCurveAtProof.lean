/- For every input, the law FnExactCurveAt of the given statements returns true over the program at this commit, and its arguments read afterwards as before: no condition. -/
import Derived.Test.YthpfehjjaamkkacRows
import Derived.Test.YthpfehjjaamkkacKnotX
import Derived.Test.YthpfehjjaamkkacSpecThen
import Derived.WalkKit
import Derived.ProofKit
import Derived.OpenShut
import Derived.ShutString
import Derived.Lib.SmallJoins
import Derived.ChangeOld
import Derived.Below
import Derived.Carry
namespace Go.Proofs.Ythpfehjjaamkkac.fnExactCurveAt
open Go.ChangeShapes Go.WideShapes Go.ChangeAt Go.RowKit
open Go.ChangeMaps (open_string shut_string)
set_option linter.unusedVariables false

theorem own : ownKnob Try.prog.godebug = none := by kernel_rfl

theorem laidOut : laidOutB Try.prog = true := by kernel_rfl

set_option maxRecDepth 100000 in
set_option maxHeartbeats 3200000 in
theorem walk (a0 : Option Addr) (len0 cap0 : Nat) (l0 : List Pc) (a1 : Int) (w1 : (Lit.int .i64 a1).wf = true) (w : World) (w0 : Row w (.slice a0 len0 cap0) l0) :
    Calls Try.prog 7 #[.slice a0 len0 cap0, .int .i64 a1] w fun e w' => e = .returned (.bool true) ∧ Below w.heap.size w w' := by
  have R0 := Lib.hid w0
  obtain ⟨_, n0, _, e0, hln, hc1, hc2, -⟩ := id w0
  simp only [Value.slice.injEq] at e0
  obtain ⟨-, rfl, -⟩ := e0
  have hc3 : len0 ≤ 9223372036854775807 := by unfold maxLen at hc2; omega
  clear w0 hc1 hc2
  by_cases hl : (1048576 : Int) - len0 < 0
  · go_enter Try.func7, Try.ntmps7
    go_wp2_with fail
    refine (szKnotS_any _ _ _ hc3 _).mono ?_
    rintro e u1 ⟨rfl, rfl⟩
    rw [if_pos hl]
    go_wp2_with fail
    go_ret
    exact ⟨rfl, Below.refl _ _⟩
  have hl20 : l0.length ≤ 1048576 := by omega
  obtain ⟨lft, hlf⟩ : ∃ x : Int, (if (1048576 : Int) - len0 < 0 then (-1 : Int) else 1048576 - len0) = x := ⟨_, rfl⟩
  have hlf0 : 0 ≤ lft := by rw [← hlf, if_neg hl]; omega
  have hlf1 : lft ≤ 1048576 := by rw [← hlf, if_neg hl]; omega
  go_enter Try.func7, Try.ntmps7
  go_wp2_with fail
  refine (szKnotS_any _ _ _ hc3 _).mono ?_
  rintro e u1 ⟨rfl, rfl⟩
  rw [hlf]
  clear hlf hl
  go_wp2_with fail
  refine (toKnotS_any R0.out hl20).mono ?_
  rintro e u2 ⟨v2, rfl, o2, b2⟩
  have R2 := Lib.hid o2.row
  replace R0 := Lib.hid (R0.out.grow b2)
  have S := St.start b2
  clear o2 b2
  go_wp2_with fail
  refine (specCurveAt_any a1 R2.out).mono ?_
  rintro e u3 ⟨n3, d3, ok3, rfl, hr3, b3⟩
  replace R0 := Lib.hid ((R0.out.grow b3).alloc n3 d3 35)
  replace S := (S.next b3).alloc n3 d3
  have H3 := Lib.hid hr3
  clear R2 b3 hr3
  go_wp2_with fail
  refine (toKnotS_any R0.out hl20).mono ?_
  rintro e u4 ⟨v4, rfl, o4, b4⟩
  have R4 := Lib.hid o4.row
  replace R0 := Lib.hid (R0.out.grow b4)
  replace S := S.next b4
  clear o4 b4
  go_wp2_with fail
  refine (implCurveAt_any a1 R4.out).mono ?_
  rintro e u5 ⟨n5, d5, ok5, rfl, hr5, b5⟩
  obtain ⟨rfl, rfl, rfl⟩ := H3.out.same hr5
  replace R0 := Lib.hid ((R0.out.grow b5).alloc n5 d5 35)
  replace R4 := Lib.hid ((R4.out.grow b5).alloc n5 d5 35)
  replace S := (S.next b5).alloc n5 d5
  clear b5 hr5
  have r5 := S.holds
  simp only [Holds, and_true] at r5
  try simp only [World.size_alloc] at r5
  go_wp2_with fail
  refine (eqFrac_yes _ _ _).mono ?_
  rintro e u6 ⟨rfl, b6⟩
  replace R0 := Lib.hid (R0.out.grow b6)
  replace R4 := Lib.hid (R4.out.grow b6)
  replace S := S.next b6
  clear b6 r5
  go_wp2_with fail
  refine (toKnotS_any R0.out hl20).mono ?_
  rintro e u7 ⟨v7, rfl, o7, b7⟩
  have R7 := Lib.hid o7.row
  replace R4 := Lib.hid (R4.out.grow b7)
  replace S := S.next b7
  clear o7 b7
  go_wp2_with fail
  refine (eqs_yes R4.out R7.out rfl).mono ?_
  rintro e u8 ⟨rfl, b8⟩
  replace S := S.next b8
  clear b8
  go_wp2_with fail
  go_ret
  exact ⟨rfl, S.below⟩

set_option maxRecDepth 100000 in
theorem lifted (os : Os) (started : os.Started) (H : Type) (enc : TypeId × Value → H) :
    ReturnsInHanded {} Try.checked os 7 .any (Rows.fnExactCurveAtSpec.pre6 enc Try.prog Try.f7 Rows.fnExactCurveAtRow.domain false) (Rows.fnExactCurveAtSpec.post enc Try.prog Try.f7 false true false false) := by
  refine returnsInHanded_of_change (C := Try.checked) own started (by kernel_rfl) Try.func7
    (ChangeSpec.witness6 (enc := enc) (C := Try.checked) false ⟨#[], #[.slice none 0 0, .int .i64 0], []⟩ 8 (by kernel_rfl) (by kernel_rfl) (by kernel_rfl) (by kernel_rfl)) ?_
  intro W base args ds gs before hval0 hW hcnd _
  have hval : ∀ (j : Nat) t v, Try.f7.params[j]? = some t → args[j]? = some v → Value.okWide Try.prog W .any base t v := hval0
  have hW' := hW
  obtain ⟨p, q, hA0, hV, rfl, hfz, hnd⟩ := hW
  have hA : DataW.TrodAll enc Try.prog W 0 (fun _ => true) true Try.f7.params.toList args.toList ds p := hA0
  rw [Try.params7] at hA hval
  obtain ⟨v0, vs0, d0, ds0, p0, q0, hargs, rfl, rfl, h0, r0⟩ := trodAll_cons hA
  obtain ⟨v1, vs1, d1, ds1, p1, q1, rfl, rfl, rfl, h1, r1⟩ := trodAll_cons r0
  obtain ⟨rfl, rfl, rfl⟩ := trodAll_nil r1
  obtain rfl : args = #[v0, v1] := by cases args; simp_all
  obtain ⟨rfl, rfl⟩ := trodVars_none hV
  obtain ⟨a0, len0, cap0, rfl⟩ := okWide_slice Try.underlying41 (hval 0 41 v0 rfl rfl)
  have k0 := h0
  have lt0 : ∀ x ∈ p0, x.block < W.heap.size := by obtain ⟨m, hm⟩ := k0; exact DataW.trod_lt m _ _ _ hm
  obtain ⟨l0, w0⟩ := open_pieces Try.underlying41 Try.underlying49 (by kernel_rfl) rfl rfl (by kernel_rfl) (by kernel_rfl) Try.underlying3 Try.underlying3 h0
  obtain ⟨a1, rfl, rfl, rfl, w1⟩ := open_int Try.underlying3 (hval 1 3 v1 rfl rfl) h1
  clear hA0 hval0
  refine (walk a0 len0 cap0 l0 a1 w1 W w0).mono fun e W' ⟨he, hg⟩ => ?_
  subst he
  exact ⟨_, rfl, _, _, _, [], _, [], hW', (trodAll_cons_mk (shut_bool Try.underlying4 _) trodAll_mk0), (trodAll_cons_mk (Below.trod laidOut (by kernel_rfl) (of_decide_eq_true (by kernel_rfl)) k0 hg lt0) (trodAll_cons_mk (shut_int Try.underlying3 w1) trodAll_mk0)), rfl, hg.frame _, fun h => by cases h⟩

theorem over : Rows.fnExactCurveAtRow.holds Try.pinned (OpenSpec.ofChange Rows.fnExactCurveAtSpec) :=
  OpenClaim.holds_of_wide 7 Try.f7 rfl rfl rfl rfl rfl rfl rfl ⟨rfl, rfl, rfl, rfl, rfl⟩ rfl rfl rfl rfl rfl (by kernel_rfl) Try.func7 (by kernel_rfl)
    (of_decide_eq_true (by kernel_rfl)) (by unfold Func.isWrapper; first | (rw [if_pos (by decide +kernel)]; kernel_rfl) | (rw [if_neg (by decide +kernel)]; exact ⟨rfl, rfl⟩))
    (fun os started H enc _ => lifted os started H enc)

/-- The statement. -/
theorem proved : Rows.FnExactCurveAtSaid :=
  over
#print axioms proved
end Go.Proofs.Ythpfehjjaamkkac.fnExactCurveAt
