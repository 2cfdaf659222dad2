/- For every input, the law FnCoreJoinHas of the given statements returns true over the program at this commit, and its arguments read afterwards as before: no condition. -/
import Derived.Test.YtdljfikgmhdedabRows
import Derived.Test.YtdljfikgmhdedabLive
import Derived.WalkKit
import Derived.ProofKit
import Derived.OpenShut
import Derived.ShutString
import Derived.ChangeOld
import Derived.Below
namespace Go.Proofs.Ytdljfikgmhdedab.fnCoreJoinHas
open Go.ChangeShapes Go.WideShapes Go.ChangeAt Go.RowKit
open Go.ChangeMaps (open_string shut_string)
set_option linter.unusedVariables false

theorem own : ownKnob Try.prog.godebug = none := by kernel_rfl
theorem laidOut : laidOutB Try.prog = true := by kernel_rfl

/-- WHAT THE WALK IS TOLD OF A SLICE OF INTEGERS THAT CAME IN: it is nil; or it leads to a row of 'cap' cells, the numbers 'zs' (the first 'len' are its elements, the rest its spare room), each fitting its kind. -/
def IsRow (k : IntKind) (w : World) (a : Option Addr) (len cap : Nat) (zs : List Int) : Prop :=
  (a = none ∧ len = 0 ∧ cap = 0 ∧ zs = []) ∨
  ∃ x, a = some x ∧ len ≤ cap ∧ cap ≤ maxLen ∧ zs.length = cap ∧ (∀ i, i < zs.length → w.cell? (x.add i) = some (.int k (zs.getD i 0))) ∧ ∀ n ∈ zs, (Lit.int k n).wf = true

set_option maxRecDepth 100000 in
set_option maxHeartbeats 1600000 in
theorem walk (a0 : Option Addr) (len0 cap0 : Nat) (z0 : List Int) (a1 : Option Addr) (len1 cap1 : Nat) (z1 : List Int) (w : World) (w0 : IsRow .u8 w a0 len0 cap0 z0) (w1 : IsRow .u8 w a1 len1 cap1 z1) :
    Calls Try.prog 5 #[.slice a0 len0 cap0, .slice a1 len1 cap1] w fun e w' => e = .returned (.bool true) ∧ Below w.heap.size w w' := by
  have hB := bytes_of w0
  have hB1 := bytes_len (bytes_of w1)
  unfold maxLen at hB1
  by_cases hl : 1048576 < len0
  · have hdec : decide (1048576 < len0) = true := by simpa using hl
    go_enter Try.func5, Try.ntmps5
    go_wp2_with fail
    go_ret
    exact ⟨rfl, Below.refl _ _⟩
  have hdec : decide (1048576 < len0) = false := by simpa using hl
  by_cases hl1 : 1048576 < len1
  · go_enter Try.func5, Try.ntmps5
    go_wp2_with fail
    go_ret
    exact ⟨rfl, Below.refl _ _⟩
  have hm : len0 ≤ 1048576 := by omega
  have hm1 : len1 ≤ 1048576 := by omega
  clear hB1
  go_enter Try.func5, Try.ntmps5
  go_wp2_with fail
  refine (DrawCoreJoin_any hB).mono ?_
  rintro e u1 ⟨v, l, rfl, ho, hbd, b1⟩
  clear w0 w1 hB
  have R := Lib.hid ho.row
  have BD := Lib.hid hbd
  have B := Lib.hid b1
  clear ho hbd b1
  obtain ⟨x, hx⟩ : ∃ x : Int, (len1 : Int) % 250 = x := ⟨_, rfl⟩
  cases hc : joinOf l with
  | none =>
    have HC := Lib.hid hc
    clear hc
    go_wp2_with fail
    refine (lstb_no (implCoreJoin_any  R.out) HC.out).mono ?_
    rintro e u2 ⟨v1, rfl, r2, b2⟩
    replace R := Lib.hid (R.out.grow b2)
    replace B := Lib.hid (B.out.trans (b2.mono B.out.size))
    have R1 := Lib.hid r2
    clear r2
    clear b2
    go_wp2_with fail
    refine (lstb_no (specCoreJoin_any  R.out) HC.out).mono ?_
    rintro e u3 ⟨v2, rfl, r3, b3⟩
    replace R := Lib.hid (R.out.grow b3)
    replace R1 := Lib.hid (R1.out.grow b3)
    replace B := Lib.hid (B.out.trans (b3.mono B.out.size))
    have R2 := Lib.hid r3
    clear r3
    clear b3
    go_wp2_with fail
    refine (same_yes R1.out R2.out rfl).mono ?_
    rintro e u4 ⟨rfl, b4⟩
    replace R := Lib.hid (R.out.grow b4)
    replace R1 := Lib.hid (R1.out.grow b4)
    replace R2 := Lib.hid (R2.out.grow b4)
    replace B := Lib.hid (B.out.trans (b4.mono B.out.size))
    clear b4
    go_wp2_with fail
    refine (same_yes R1.out R2.out rfl).mono ?_
    rintro e u5 ⟨rfl, b5⟩
    replace R := Lib.hid (R.out.grow b5)
    replace R1 := Lib.hid (R1.out.grow b5)
    replace R2 := Lib.hid (R2.out.grow b5)
    replace B := Lib.hid (B.out.trans (b5.mono B.out.size))
    clear b5
    go_wp2_with fail
    go_ret
    exact ⟨rfl, B.out⟩
  | some m =>
    have HC := Lib.hid hc
    clear hc
    go_wp2_with fail
    refine (lstb_yes (implCoreJoin_any  R.out) HC.out).mono ?_
    rintro e u6 ⟨v1, rfl, r6, b6⟩
    replace R := Lib.hid (R.out.grow b6)
    replace B := Lib.hid (B.out.trans (b6.mono B.out.size))
    have R1 := Lib.hid r6
    clear r6
    clear b6
    go_wp2_with fail
    refine (lstb_yes (specCoreJoin_any  R.out) HC.out).mono ?_
    rintro e u7 ⟨v2, rfl, r7, b7⟩
    replace R := Lib.hid (R.out.grow b7)
    replace R1 := Lib.hid (R1.out.grow b7)
    replace B := Lib.hid (B.out.trans (b7.mono B.out.size))
    have R2 := Lib.hid r7
    clear r7
    clear b7
    go_wp2_with fail
    refine (same_yes R1.out R2.out rfl).mono ?_
    rintro e u8 ⟨rfl, b8⟩
    replace R := Lib.hid (R.out.grow b8)
    replace R1 := Lib.hid (R1.out.grow b8)
    replace R2 := Lib.hid (R2.out.grow b8)
    replace B := Lib.hid (B.out.trans (b8.mono B.out.size))
    clear b8
    have CL := Lib.hid (joinOf_some HC.out).1
    have MJ := Lib.hid (joinOf_some HC.out).2
    have CM : Hid (isCore m = true) := Lib.hid (by rw [MJ.out]; exact join_core CL.out)
    have hl30 : l.length ≤ 30 := BD.out.1
    obtain ⟨A, hA⟩ : ∃ A, ix x l = A := ⟨_, rfl⟩
    obtain ⟨A', hA'⟩ : ∃ A', ix x m = A' := ⟨_, rfl⟩
    have IX := join_ix x (isCore_iff.1 CL.out).2
    rw [← MJ.out, hA, hA'] at IX
    have HA := Lib.hid hA; have HA' := Lib.hid hA'
    clear hA hA'
    obtain ⟨i1, i2⟩ := IX
    go_wp2_with fail
    refine (val_is (implCoreHas_any _ R.out) (show _ = Value.int .i64 A by rw [hasOf_is CL.out, HA.out])).mono ?_
    rintro e u9 ⟨rfl, b9⟩
    replace R := Lib.hid (R.out.grow b9)
    replace R1 := Lib.hid (R1.out.grow b9)
    replace R2 := Lib.hid (R2.out.grow b9)
    replace B := Lib.hid (B.out.trans (b9.mono B.out.size))
    clear b9
    go_wp2_with fail
    refine (val_is (implCoreHas_any _ R1.out) (show _ = Value.int .i64 A' by rw [hasOf_is CM.out, HA'.out])).mono ?_
    rintro e u10 ⟨rfl, b10⟩
    replace R := Lib.hid (R.out.grow b10)
    replace R1 := Lib.hid (R1.out.grow b10)
    replace R2 := Lib.hid (R2.out.grow b10)
    replace B := Lib.hid (B.out.trans (b10.mono B.out.size))
    clear b10
    by_cases c : 0 ≤ A
    · have c' : 0 ≤ A' := i2.2 c
      clear i2
      go_wp2_with fail
      go_ret
      exact ⟨by simp, B.out⟩
    · have c' : ¬ 0 ≤ A' := fun h => c (i2.1 h)
      clear i2
      go_wp2_with fail
      go_ret
      exact ⟨by simp, B.out⟩

set_option maxRecDepth 100000 in
theorem lifted (os : Os) (started : os.Started) (H : Type) (enc : TypeId × Value → H) :
    ReturnsInHanded {} Try.checked os 5 .any (Rows.fnCoreJoinHasSpec.pre6 enc Try.prog Try.f5 Rows.fnCoreJoinHasRow.domain false) (Rows.fnCoreJoinHasSpec.post enc Try.prog Try.f5 false true false false) := by
  refine returnsInHanded_of_change (C := Try.checked) own started (by kernel_rfl) Try.func5
    (ChangeSpec.witness6 (enc := enc) (C := Try.checked) false ⟨#[], #[.slice none 0 0, .slice none 0 0], []⟩ 8 (by kernel_rfl) (by kernel_rfl) (by kernel_rfl) (by kernel_rfl)) ?_
  intro W base args ds gs before hval0 hW hcnd _
  have hval : ∀ (j : Nat) t v, Try.f5.params[j]? = some t → args[j]? = some v → Value.okWide Try.prog W .any base t v := hval0
  have hW' := hW
  obtain ⟨p, q, hA0, hV, rfl, hfz, hnd⟩ := hW
  have hA : DataW.TrodAll enc Try.prog W 0 (fun _ => true) true Try.f5.params.toList args.toList ds p := hA0
  rw [Try.params5] at hA hval
  obtain ⟨v0, vs0, d0, ds0, p0, q0, hargs, rfl, rfl, h0, r0⟩ := trodAll_cons hA
  obtain ⟨v1, vs1, d1, ds1, p1, q1, rfl, rfl, rfl, h1, r1⟩ := trodAll_cons r0
  obtain ⟨rfl, rfl, rfl⟩ := trodAll_nil r1
  obtain rfl : args = #[v0, v1] := by cases args; simp_all
  obtain ⟨rfl, rfl⟩ := trodVars_none hV
  obtain ⟨a0, len0, cap0, rfl⟩ := okWide_slice Try.underlying22 (hval 0 22 v0 rfl rfl)
  have k0 := h0
  have lt0 : ∀ x ∈ p0, x.block < W.heap.size := by obtain ⟨m, hm⟩ := k0; exact DataW.trod_lt m _ _ _ hm
  obtain ⟨z0, w0⟩ : ∃ zs, IsRow .u8 W a0 len0 cap0 zs := by
    obtain ⟨fuel, hf⟩ := h0
    rcases open_ints Try.underlying22 Try.underlying5 (by kernel_rfl) hf with ⟨hcs, _⟩ | ⟨x, l, c, zs, hcs, _, hl, hm, hz, _, hcell, hwz⟩
    · simp [Value.cells] at hcs
      obtain ⟨rfl, rfl, rfl⟩ := hcs
      exact ⟨[], .inl ⟨rfl, rfl, rfl, rfl⟩⟩
    · simp [Value.cells] at hcs
      obtain ⟨rfl, rfl, rfl⟩ := hcs
      exact ⟨zs, .inr ⟨_, rfl, hl, hm, by simpa using hz, hcell, hwz⟩⟩
  obtain ⟨a1, len1, cap1, rfl⟩ := okWide_slice Try.underlying22 (hval 1 22 v1 rfl rfl)
  have k1 := h1
  have lt1 : ∀ x ∈ p1, x.block < W.heap.size := by obtain ⟨m, hm⟩ := k1; exact DataW.trod_lt m _ _ _ hm
  obtain ⟨z1, w1⟩ : ∃ zs, IsRow .u8 W a1 len1 cap1 zs := by
    obtain ⟨fuel, hf⟩ := h1
    rcases open_ints Try.underlying22 Try.underlying5 (by kernel_rfl) hf with ⟨hcs, _⟩ | ⟨x, l, c, zs, hcs, _, hl, hm, hz, _, hcell, hwz⟩
    · simp [Value.cells] at hcs
      obtain ⟨rfl, rfl, rfl⟩ := hcs
      exact ⟨[], .inl ⟨rfl, rfl, rfl, rfl⟩⟩
    · simp [Value.cells] at hcs
      obtain ⟨rfl, rfl, rfl⟩ := hcs
      exact ⟨zs, .inr ⟨_, rfl, hl, hm, by simpa using hz, hcell, hwz⟩⟩
  clear hA0 hval0
  refine (walk a0 len0 cap0 z0 a1 len1 cap1 z1 W w0 w1).mono fun e W' ⟨he, bel⟩ => ?_
  subst he
  exact ⟨_, rfl, _, _, _, [], _, [], hW', trodAll_mk1 (shut_bool Try.underlying4 _), (trodAll_cons_mk (Below.trod laidOut (by kernel_rfl) (of_decide_eq_true (by kernel_rfl)) k0 bel lt0) (trodAll_cons_mk (Below.trod laidOut (by kernel_rfl) (of_decide_eq_true (by kernel_rfl)) k1 bel lt1) trodAll_mk0)), rfl, bel.frame _, fun h => by cases h⟩

theorem over : Rows.fnCoreJoinHasRow.holds Try.pinned (OpenSpec.ofChange Rows.fnCoreJoinHasSpec) :=
  OpenClaim.holds_of_wide 5 Try.f5 rfl rfl rfl rfl rfl rfl rfl ⟨rfl, rfl, rfl, rfl, rfl⟩ rfl rfl rfl rfl rfl (by kernel_rfl) Try.func5 (by kernel_rfl)
    (of_decide_eq_true (by kernel_rfl)) (by unfold Func.isWrapper; first | (rw [if_pos (by decide +kernel)]; kernel_rfl) | (rw [if_neg (by decide +kernel)]; exact ⟨rfl, rfl⟩))
    (fun os started H enc _ => lifted os started H enc)

/-- ████ THE STATEMENT ████ -/
theorem proved : Rows.FnCoreJoinHasSaid := over
#print axioms proved
end Go.Proofs.Ytdljfikgmhdedab.fnCoreJoinHas
