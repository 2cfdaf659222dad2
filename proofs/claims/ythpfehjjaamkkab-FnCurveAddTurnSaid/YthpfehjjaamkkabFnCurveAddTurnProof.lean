/- For every input, the law FnCurveAddTurn of the given statements returns true over the program at this commit, and its arguments read afterwards as before: no condition. -/
import Derived.Test.YthpfehjjaamkkabRows
import Derived.Test.YthpfehjjaamkkabLawK
import Derived.Test.YthpfehjjaamkkabCurveAdd
import Derived.Test.YthpfehjjaamkkabSpecAdd
import Derived.WalkKit
import Derived.ProofKit
import Derived.OpenShut
import Derived.ShutString
import Derived.ChangeOld
import Derived.Below
namespace Go.Proofs.Ythpfehjjaamkkab.fnCurveAddTurn
open Go.ChangeShapes Go.WideShapes Go.ChangeAt Go.RowKit
open Go.ChangeMaps (open_string shut_string)
set_option linter.unusedVariables false

theorem own : ownKnob Try.prog.godebug = none := by kernel_rfl
theorem laidOut : laidOutB Try.prog = true := by kernel_rfl

/-- WHAT THE WALK IS TOLD OF A SLICE OF INTEGERS THAT CAME IN: it is nil; or it leads to a row of 'cap' cells, the numbers 'zs' (the first 'len' are its elements, the rest its spare room), each fitting its kind. -/
def IsRow (k : IntKind) (w : World) (a : Option Addr) (len cap : Nat) (zs : List Int) : Prop :=
  (a = none ∧ len = 0 ∧ cap = 0 ∧ zs = []) ∨
  ∃ x, a = some x ∧ len ≤ cap ∧ cap ≤ maxLen ∧ zs.length = cap ∧ (∀ i, i < zs.length → w.cell? (x.add i) = some (.int k (zs.getD i 0))) ∧ ∀ n ∈ zs, (Lit.int k n).wf = true

set_option maxRecDepth 100000 in
set_option maxHeartbeats 3200000 in
theorem walk (a0 : Option Addr) (len0 cap0 : Nat) (z0 : List Int) (w : World) (w0 : IsRow .u8 w a0 len0 cap0 z0) :
    Calls Try.prog 9 #[.slice a0 len0 cap0] w fun e w' => e = .returned (.bool true) ∧ Below w.heap.size w w' := by
  have hB := bytes_of w0
  by_cases hl : 1048576 < len0
  · have hdec : decide (1048576 < len0) = true := by simpa using hl
    go_enter Try.func9, Try.ntmps9
    go_wp2_with fail
    go_ret
    exact ⟨rfl, Below.refl _ _⟩
  have hdec : decide (1048576 < len0) = false := by simpa using hl
  have hm : len0 ≤ 1048576 := by omega
  go_enter Try.func9, Try.ntmps9
  go_wp2_with fail
  refine (DrawCurveAdd_any hB).mono ?_
  rintro e u1 ⟨v, l, kx, ky, rfl, hr, hbd, hl, hkx, hky, b1⟩
  clear w0 hB
  have S := St.start b1
  clear b1
  have R := Lib.hid hr
  clear hr
  have BD := Lib.hid hbd
  clear hbd
  replace R := Lib.hid (R.out.alloc kx ky 25)
  replace S := S.alloc' kx ky 25
  have r := S.holds
  simp only [Holds, and_true] at r
  try simp only [World.size_alloc] at r
  cases hc : addOf (kx, ky) l with
  | none =>
    have HC := Lib.hid hc
    clear hc
    go_wp2_with fail
    refine (lstb_no (implCurveAdd_any (kx, ky) R.out) HC.out).mono ?_
    rintro e u2 ⟨v1, rfl, r1, b2⟩
    replace R := Lib.hid ((R.out.grow b2))
    replace S := (S.next b2)
    have R1 := Lib.hid r1
    clear r1
    clear b2
    clear r
    have r := S.holds
    simp only [Holds, and_true] at r
    try simp only [World.size_alloc] at r
    go_wp2_with fail
    refine (lstb_no (specCurveAdd_any (kx, ky) R.out) HC.out).mono ?_
    rintro e u3 ⟨v2, rfl, r2, b3⟩
    replace R := Lib.hid ((R.out.grow b3))
    replace R1 := Lib.hid ((R1.out.grow b3))
    replace S := (S.next b3)
    have R2 := Lib.hid r2
    clear r2
    clear b3
    clear r
    have r := S.holds
    simp only [Holds, and_true] at r
    try simp only [World.size_alloc] at r
    go_wp2_with fail
    refine (same_yes R1.out R2.out rfl).mono ?_
    rintro e u4 ⟨rfl, b4⟩
    replace R := Lib.hid ((R.out.grow b4))
    replace R1 := Lib.hid ((R1.out.grow b4))
    replace R2 := Lib.hid ((R2.out.grow b4))
    replace S := (S.next b4)
    clear b4
    clear r
    have r := S.holds
    simp only [Holds, and_true] at r
    try simp only [World.size_alloc] at r
    go_wp2_with fail
    refine (same_yes R1.out R2.out rfl).mono ?_
    rintro e u5 ⟨rfl, b5⟩
    replace R := Lib.hid ((R.out.grow b5))
    replace R1 := Lib.hid ((R1.out.grow b5))
    replace R2 := Lib.hid ((R2.out.grow b5))
    replace S := (S.next b5)
    clear b5
    clear r
    have r := S.holds
    simp only [Holds, and_true] at r
    try simp only [World.size_alloc] at r
    go_wp2_with fail
    go_ret
    exact ⟨rfl, S.below⟩
  | some lm =>
    have HC := Lib.hid hc
    clear hc
    go_wp2_with fail
    refine (lstb_yes (implCurveAdd_any (kx, ky) R.out) HC.out).mono ?_
    rintro e u2 ⟨v1, rfl, r1, b2⟩
    replace R := Lib.hid ((R.out.grow b2))
    replace S := (S.next b2)
    have R1 := Lib.hid r1
    clear r1
    clear b2
    clear r
    have r := S.holds
    simp only [Holds, and_true] at r
    try simp only [World.size_alloc] at r
    go_wp2_with fail
    refine (lstb_yes (specCurveAdd_any (kx, ky) R.out) HC.out).mono ?_
    rintro e u3 ⟨v2, rfl, r2, b3⟩
    replace R := Lib.hid ((R.out.grow b3))
    replace R1 := Lib.hid ((R1.out.grow b3))
    replace S := (S.next b3)
    have R2 := Lib.hid r2
    clear r2
    clear b3
    clear r
    have r := S.holds
    simp only [Holds, and_true] at r
    try simp only [World.size_alloc] at r
    go_wp2_with fail
    refine (same_yes R1.out R2.out rfl).mono ?_
    rintro e u4 ⟨rfl, b4⟩
    replace R := Lib.hid ((R.out.grow b4))
    replace R1 := Lib.hid ((R1.out.grow b4))
    replace R2 := Lib.hid ((R2.out.grow b4))
    replace S := (S.next b4)
    clear b4
    clear r
    have r := S.holds
    simp only [Holds, and_true] at r
    try simp only [World.size_alloc] at r
    have CL := Lib.hid (addOf_some HC.out).1; have CM := Lib.hid (addOf_some HC.out).2.1; have AT := Lib.hid (addOf_turn HC.out)
    go_wp2_with fail
    refine (lstb_yes (implCurveTurn_any R.out) (turnOf_is CL.out)).mono ?_
    rintro e u5 ⟨v3, rfl, r3, b5⟩
    replace R := Lib.hid ((R.out.grow b5))
    replace R1 := Lib.hid ((R1.out.grow b5))
    replace R2 := Lib.hid ((R2.out.grow b5))
    replace S := (S.next b5)
    have R3 := Lib.hid r3
    clear r3
    clear b5
    clear r
    have r := S.holds
    simp only [Holds, and_true] at r
    try simp only [World.size_alloc] at r
    go_wp2_with fail
    refine (lstb_yes (implCurveAdd_any (ky, kx) R3.out) AT.out).mono ?_
    rintro e u6 ⟨v4, rfl, r4, b6⟩
    replace R := Lib.hid ((R.out.grow b6))
    replace R1 := Lib.hid ((R1.out.grow b6))
    replace R2 := Lib.hid ((R2.out.grow b6))
    replace R3 := Lib.hid ((R3.out.grow b6))
    replace S := (S.next b6)
    have R4 := Lib.hid r4
    clear r4
    clear b6
    clear r
    have r := S.holds
    simp only [Holds, and_true] at r
    try simp only [World.size_alloc] at r
    go_wp2_with fail
    refine (lstb_yes (implCurveTurn_any R1.out) (turnOf_is CM.out)).mono ?_
    rintro e u7 ⟨v5, rfl, r5, b7⟩
    replace R := Lib.hid ((R.out.grow b7))
    replace R1 := Lib.hid ((R1.out.grow b7))
    replace R2 := Lib.hid ((R2.out.grow b7))
    replace R3 := Lib.hid ((R3.out.grow b7))
    replace R4 := Lib.hid ((R4.out.grow b7))
    replace S := (S.next b7)
    have R5 := Lib.hid r5
    clear r5
    clear b7
    clear r
    have r := S.holds
    simp only [Holds, and_true] at r
    try simp only [World.size_alloc] at r
    go_wp2_with fail
    refine (same_yes R4.out R5.out rfl).mono ?_
    rintro e u8 ⟨rfl, b8⟩
    replace R := Lib.hid ((R.out.grow b8))
    replace R1 := Lib.hid ((R1.out.grow b8))
    replace R2 := Lib.hid ((R2.out.grow b8))
    replace R3 := Lib.hid ((R3.out.grow b8))
    replace R4 := Lib.hid ((R4.out.grow b8))
    replace R5 := Lib.hid ((R5.out.grow b8))
    replace S := (S.next b8)
    clear b8
    clear r
    have r := S.holds
    simp only [Holds, and_true] at r
    try simp only [World.size_alloc] at r
    go_wp2_with fail
    go_ret
    exact ⟨rfl, S.below⟩

set_option maxRecDepth 100000 in
theorem lifted (os : Os) (started : os.Started) (H : Type) (enc : TypeId × Value → H) :
    ReturnsInHanded {} Try.checked os 9 .any (Rows.fnCurveAddTurnSpec.pre6 enc Try.prog Try.f9 Rows.fnCurveAddTurnRow.domain false) (Rows.fnCurveAddTurnSpec.post enc Try.prog Try.f9 false true false false) := by
  refine returnsInHanded_of_change (C := Try.checked) own started (by kernel_rfl) Try.func9
    (ChangeSpec.witness6 (enc := enc) (C := Try.checked) false ⟨#[], #[.slice none 0 0], []⟩ 8 (by kernel_rfl) (by kernel_rfl) (by kernel_rfl) (by kernel_rfl)) ?_
  intro W base args ds gs before hval0 hW hcnd _
  have hval : ∀ (j : Nat) t v, Try.f9.params[j]? = some t → args[j]? = some v → Value.okWide Try.prog W .any base t v := hval0
  have hW' := hW
  obtain ⟨p, q, hA0, hV, rfl, hfz, hnd⟩ := hW
  have hA : DataW.TrodAll enc Try.prog W 0 (fun _ => true) true Try.f9.params.toList args.toList ds p := hA0
  rw [Try.params9] at hA hval
  obtain ⟨v0, vs0, d0, ds0, p0, q0, hargs, rfl, rfl, h0, r0⟩ := trodAll_cons hA
  obtain ⟨rfl, rfl, rfl⟩ := trodAll_nil r0
  obtain rfl : args = #[v0] := by cases args; simp_all
  obtain ⟨rfl, rfl⟩ := trodVars_none hV
  obtain ⟨a0, len0, cap0, rfl⟩ := okWide_slice Try.underlying22 (hval 0 22 v0 rfl rfl)
  have k0 := h0
  have lt0 : ∀ x ∈ p0, x.block < W.heap.size := by obtain ⟨m, hm⟩ := k0; exact DataW.trod_lt m _ _ _ hm
  obtain ⟨z0, w0⟩ : ∃ zs, IsRow .u8 W a0 len0 cap0 zs := by
    obtain ⟨fuel, hf⟩ := h0
    rcases open_ints Try.underlying22 Try.underlying5 (by kernel_rfl) hf with ⟨hcs, _⟩ | ⟨x, l, c, zs, hcs, _, hl, hm, hz, _, hcell, hwz⟩
    · simp [Value.cells] at hcs
      obtain ⟨rfl, rfl, rfl⟩ := hcs
      exact ⟨[], .inl ⟨rfl, rfl, rfl, rfl⟩⟩
    · simp [Value.cells] at hcs
      obtain ⟨rfl, rfl, rfl⟩ := hcs
      exact ⟨zs, .inr ⟨_, rfl, hl, hm, by simpa using hz, hcell, hwz⟩⟩
  clear hA0 hval0
  refine (walk a0 len0 cap0 z0 W w0).mono fun e W' ⟨he, bel⟩ => ?_
  subst he
  exact ⟨_, rfl, _, _, _, [], _, [], hW', trodAll_mk1 (shut_bool Try.underlying4 _), (trodAll_cons_mk (Below.trod laidOut (by kernel_rfl) (of_decide_eq_true (by kernel_rfl)) k0 bel lt0) trodAll_mk0), rfl, bel.frame _, fun h => by cases h⟩

theorem over : Rows.fnCurveAddTurnRow.holds Try.pinned (OpenSpec.ofChange Rows.fnCurveAddTurnSpec) :=
  OpenClaim.holds_of_wide 9 Try.f9 rfl rfl rfl rfl rfl rfl rfl ⟨rfl, rfl, rfl, rfl, rfl⟩ rfl rfl rfl rfl rfl (by kernel_rfl) Try.func9 (by kernel_rfl)
    (of_decide_eq_true (by kernel_rfl)) (by unfold Func.isWrapper; first | (rw [if_pos (by decide +kernel)]; kernel_rfl) | (rw [if_neg (by decide +kernel)]; exact ⟨rfl, rfl⟩))
    (fun os started H enc _ => lifted os started H enc)

/-- ████ THE STATEMENT ████ -/
theorem proved : Rows.FnCurveAddTurnSaid := over
#print axioms proved
end Go.Proofs.Ythpfehjjaamkkab.fnCurveAddTurn
