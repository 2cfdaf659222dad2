/- For every input, the law FnCoreCut of the given statements returns true over the program at this commit, and its arguments read afterwards as before: no condition. -/
import Derived.Test.YtdljfikgmhdedaaRows
import Derived.Test.YtdljfikgmhdedaaLive
import Derived.WalkKit
import Derived.ProofKit
import Derived.OpenShut
import Derived.ShutString
import Derived.ChangeOld
import Derived.Below
namespace Go.Proofs.Ytdljfikgmhdedaa.fnCoreCut
open Go.ChangeShapes Go.WideShapes Go.ChangeAt Go.RowKit
open Go.ChangeMaps (open_string shut_string)
set_option linter.unusedVariables false

theorem own : ownKnob Try.prog.godebug = none := by kernel_rfl
theorem laidOut : laidOutB Try.prog = true := by kernel_rfl

/-- WHAT THE WALK IS TOLD OF A SLICE OF INTEGERS THAT CAME IN: it is nil; or it leads to a row of 'cap' cells, the numbers 'zs' (the first 'len' are its elements, the rest its spare room), each fitting its kind. -/
def IsRow (k : IntKind) (w : World) (a : Option Addr) (len cap : Nat) (zs : List Int) : Prop :=
  (a = none ∧ len = 0 ∧ cap = 0 ∧ zs = []) ∨
  ∃ x, a = some x ∧ len ≤ cap ∧ cap ≤ maxLen ∧ zs.length = cap ∧ (∀ i, i < zs.length → w.cell? (x.add i) = some (.int k (zs.getD i 0))) ∧ ∀ n ∈ zs, (Lit.int k n).wf = true

set_option maxHeartbeats 1600000 in
theorem walk (a0 : Option Addr) (len0 cap0 : Nat) (z0 : List Int) (w : World) (w0 : IsRow .u8 w a0 len0 cap0 z0) :
    Calls Try.prog 9 #[.slice a0 len0 cap0] w fun e w' => e = .returned (.bool true) ∧ Below w.heap.size w w' := by
  have hB := bytes_of w0
  by_cases hl : 1048576 < len0
  · have hd : decide (1048576 < len0) = true := by simpa using hl
    go_enter Try.func9, Try.ntmps9
    go_wp2_with fail
    go_ret
    exact ⟨rfl, Below.refl _ _⟩
  have hd : decide (1048576 < len0) = false := by simpa using hl
  have hm : len0 ≤ 1048576 := by omega
  go_enter Try.func9, Try.ntmps9
  go_wp2_with fail
  refine (DrawCoreCut_any hB).mono ?_
  rintro e u1 ⟨v, l, d, rfl, ho, hbd, hd1, b1⟩
  clear w0 hB
  have R := Lib.hid ho.row
  have BD := Lib.hid hbd
  have B := Lib.hid b1
  clear ho hbd b1
  cases hc : cutOf d l with
  | none =>
    have HC := Lib.hid hc
    clear hc
    go_wp2_with fail
    refine (lstb_no (implCoreCut_any d R.out) HC.out).mono ?_
    rintro e u2 ⟨v1, rfl, r2, b2⟩
    replace R := Lib.hid (R.out.grow b2)
    replace B := Lib.hid (B.out.trans (b2.mono B.out.size))
    have R1 := Lib.hid r2
    clear r2
    clear b2
    go_wp2_with fail
    refine (lstb_no (specCoreCut_any d R.out) HC.out).mono ?_
    rintro e u3 ⟨v2, rfl, r3, b3⟩
    replace R := Lib.hid (R.out.grow b3)
    replace R1 := Lib.hid (R1.out.grow b3)
    replace B := Lib.hid (B.out.trans (b3.mono B.out.size))
    have R2 := Lib.hid r3
    clear r3
    clear b3
    go_wp2_with fail
    refine (same_yes R1.out R2.out rfl).mono ?_
    rintro e u4 ⟨rfl, b4⟩
    replace R := Lib.hid (R.out.grow b4)
    replace R1 := Lib.hid (R1.out.grow b4)
    replace R2 := Lib.hid (R2.out.grow b4)
    replace B := Lib.hid (B.out.trans (b4.mono B.out.size))
    clear b4
    go_wp2_with fail
    refine (same_yes R1.out R2.out rfl).mono ?_
    rintro e u5 ⟨rfl, b5⟩
    replace R := Lib.hid (R.out.grow b5)
    replace R1 := Lib.hid (R1.out.grow b5)
    replace R2 := Lib.hid (R2.out.grow b5)
    replace B := Lib.hid (B.out.trans (b5.mono B.out.size))
    clear b5
    go_wp2_with fail
    go_ret
    exact ⟨rfl, B.out⟩
  | some m =>
    have HC := Lib.hid hc
    clear hc
    go_wp2_with fail
    refine (lstb_yes (implCoreCut_any d R.out) HC.out).mono ?_
    rintro e u6 ⟨v1, rfl, r6, b6⟩
    replace R := Lib.hid (R.out.grow b6)
    replace B := Lib.hid (B.out.trans (b6.mono B.out.size))
    have R1 := Lib.hid r6
    clear r6
    clear b6
    go_wp2_with fail
    refine (lstb_yes (specCoreCut_any d R.out) HC.out).mono ?_
    rintro e u7 ⟨v2, rfl, r7, b7⟩
    replace R := Lib.hid (R.out.grow b7)
    replace R1 := Lib.hid (R1.out.grow b7)
    replace B := Lib.hid (B.out.trans (b7.mono B.out.size))
    have R2 := Lib.hid r7
    clear r7
    clear b7
    go_wp2_with fail
    refine (same_yes R1.out R2.out rfl).mono ?_
    rintro e u8 ⟨rfl, b8⟩
    replace R := Lib.hid (R.out.grow b8)
    replace R1 := Lib.hid (R1.out.grow b8)
    replace R2 := Lib.hid (R2.out.grow b8)
    replace B := Lib.hid (B.out.trans (b8.mono B.out.size))
    clear b8
    have CM := Lib.hid (cut_core HC.out)
    have CL := Lib.hid (cutOf_some HC.out).1
    have CT := Lib.hid (cutOf_some HC.out).2.2
    have LN : Hid (m.length = l.length + 1) := Lib.hid (ct_len CT.out).2
    obtain ⟨a1, c1, rfl, _, _⟩ := R1.out.len
    obtain ⟨a0, c0, rfl, _, _⟩ := R.out.len
    have hlen : ((m.length : Int) == (l.length : Int) + 1) = true := by rw [beq_iff_eq]; have := LN.out; omega
    have hl30 : l.length ≤ 30 := BD.out.1
    go_wp2_with fail
    refine (lstb_yes (implCoreJoin_any R1.out) (joinOf_is CM.out)).mono ?_
    rintro e u9 ⟨v3, rfl, r9, b9⟩
    replace R := Lib.hid (R.out.grow b9)
    replace R1 := Lib.hid (R1.out.grow b9)
    replace R2 := Lib.hid (R2.out.grow b9)
    replace B := Lib.hid (B.out.trans (b9.mono B.out.size))
    have R3 := Lib.hid r9
    clear r9
    clear b9
    go_wp2_with fail
    refine (lstb_yes (implCoreJoin_any R.out) (joinOf_is CL.out)).mono ?_
    rintro e u10 ⟨v4, rfl, r10, b10⟩
    replace R := Lib.hid (R.out.grow b10)
    replace R1 := Lib.hid (R1.out.grow b10)
    replace R2 := Lib.hid (R2.out.grow b10)
    replace R3 := Lib.hid (R3.out.grow b10)
    replace B := Lib.hid (B.out.trans (b10.mono B.out.size))
    have R4 := Lib.hid r10
    clear r10
    clear b10
    go_wp2_with fail
    refine (lstb_no (implCoreCut_any d R1.out) (cut_again HC.out)).mono ?_
    rintro e u11 ⟨v5, rfl, r11, b11⟩
    replace R := Lib.hid (R.out.grow b11)
    replace R1 := Lib.hid (R1.out.grow b11)
    replace R2 := Lib.hid (R2.out.grow b11)
    replace R3 := Lib.hid (R3.out.grow b11)
    replace R4 := Lib.hid (R4.out.grow b11)
    replace B := Lib.hid (B.out.trans (b11.mono B.out.size))
    have R5 := Lib.hid r11
    clear r11
    clear b11
    go_wp2_with fail
    refine (same_yes R3.out R4.out (join_ct CT.out)).mono ?_
    rintro e u12 ⟨rfl, b12⟩
    replace R := Lib.hid (R.out.grow b12)
    replace R1 := Lib.hid (R1.out.grow b12)
    replace R2 := Lib.hid (R2.out.grow b12)
    replace R3 := Lib.hid (R3.out.grow b12)
    replace R4 := Lib.hid (R4.out.grow b12)
    replace R5 := Lib.hid (R5.out.grow b12)
    replace B := Lib.hid (B.out.trans (b12.mono B.out.size))
    clear b12
    go_wp2_with fail
    refine (val_is (implCoreLength_any R1.out) (show _ = Value.int .i64 (len l) by rw [lenOf_is CM.out, (ct_len CT.out).1])).mono ?_
    rintro e u13 ⟨rfl, b13⟩
    replace R := Lib.hid (R.out.grow b13)
    replace R1 := Lib.hid (R1.out.grow b13)
    replace R2 := Lib.hid (R2.out.grow b13)
    replace R3 := Lib.hid (R3.out.grow b13)
    replace R4 := Lib.hid (R4.out.grow b13)
    replace R5 := Lib.hid (R5.out.grow b13)
    replace B := Lib.hid (B.out.trans (b13.mono B.out.size))
    clear b13
    go_wp2_with fail
    refine (val_is (implCoreLength_any R.out) (show _ = Value.int .i64 (len l) by rw [lenOf_is CL.out])).mono ?_
    rintro e u14 ⟨rfl, b14⟩
    replace R := Lib.hid (R.out.grow b14)
    replace R1 := Lib.hid (R1.out.grow b14)
    replace R2 := Lib.hid (R2.out.grow b14)
    replace R3 := Lib.hid (R3.out.grow b14)
    replace R4 := Lib.hid (R4.out.grow b14)
    replace R5 := Lib.hid (R5.out.grow b14)
    replace B := Lib.hid (B.out.trans (b14.mono B.out.size))
    clear b14
    go_wp2_with fail
    go_ret
    exact ⟨by simp, B.out⟩

set_option maxRecDepth 100000 in
theorem lifted (os : Os) (started : os.Started) (H : Type) (enc : TypeId × Value → H) :
    ReturnsInHanded {} Try.checked os 9 .any (Rows.fnCoreCutSpec.pre6 enc Try.prog Try.f9 Rows.fnCoreCutRow.domain false) (Rows.fnCoreCutSpec.post enc Try.prog Try.f9 false true false false) := by
  refine returnsInHanded_of_change (C := Try.checked) own started (by kernel_rfl) Try.func9
    (ChangeSpec.witness6 (enc := enc) (C := Try.checked) false ⟨#[], #[.slice none 0 0], []⟩ 8 (by kernel_rfl) (by kernel_rfl) (by kernel_rfl) (by kernel_rfl)) ?_
  intro W base args ds gs before hval0 hW hcnd _
  have hval : ∀ (j : Nat) t v, Try.f9.params[j]? = some t → args[j]? = some v → Value.okWide Try.prog W .any base t v := hval0
  have hW' := hW
  obtain ⟨p, q, hA0, hV, rfl, hfz, hnd⟩ := hW
  have hA : DataW.TrodAll enc Try.prog W 0 (fun _ => true) true Try.f9.params.toList args.toList ds p := hA0
  rw [Try.params9] at hA hval
  obtain ⟨v0, vs0, d0, ds0, p0, q0, hargs, rfl, rfl, h0, r0⟩ := trodAll_cons hA
  obtain ⟨rfl, rfl, rfl⟩ := trodAll_nil r0
  obtain rfl : args = #[v0] := by cases args; simp_all
  obtain ⟨rfl, rfl⟩ := trodVars_none hV
  obtain ⟨a0, len0, cap0, rfl⟩ := okWide_slice Try.underlying22 (hval 0 22 v0 rfl rfl)
  have k0 := h0
  have lt0 : ∀ x ∈ p0, x.block < W.heap.size := by obtain ⟨m, hm⟩ := k0; exact DataW.trod_lt m _ _ _ hm
  obtain ⟨z0, w0⟩ : ∃ zs, IsRow .u8 W a0 len0 cap0 zs := by
    obtain ⟨fuel, hf⟩ := h0
    rcases open_ints Try.underlying22 Try.underlying5 (by kernel_rfl) hf with ⟨hcs, _⟩ | ⟨x, l, c, zs, hcs, _, hl, hm, hz, _, hcell, hwz⟩
    · simp [Value.cells] at hcs
      obtain ⟨rfl, rfl, rfl⟩ := hcs
      exact ⟨[], .inl ⟨rfl, rfl, rfl, rfl⟩⟩
    · simp [Value.cells] at hcs
      obtain ⟨rfl, rfl, rfl⟩ := hcs
      exact ⟨zs, .inr ⟨_, rfl, hl, hm, by simpa using hz, hcell, hwz⟩⟩
  clear hA0 hval0
  refine (walk a0 len0 cap0 z0 W w0).mono fun e W' ⟨he, bel⟩ => ?_
  subst he
  exact ⟨_, rfl, _, _, _, [], _, [], hW', trodAll_mk1 (shut_bool Try.underlying4 _), (trodAll_cons_mk (Below.trod laidOut (by kernel_rfl) (of_decide_eq_true (by kernel_rfl)) k0 bel lt0) trodAll_mk0), rfl, bel.frame _, fun h => by cases h⟩

theorem over : Rows.fnCoreCutRow.holds Try.pinned (OpenSpec.ofChange Rows.fnCoreCutSpec) :=
  OpenClaim.holds_of_wide 9 Try.f9 rfl rfl rfl rfl rfl rfl rfl ⟨rfl, rfl, rfl, rfl, rfl⟩ rfl rfl rfl rfl rfl (by kernel_rfl) Try.func9 (by kernel_rfl)
    (of_decide_eq_true (by kernel_rfl)) (by unfold Func.isWrapper; first | (rw [if_pos (by decide +kernel)]; kernel_rfl) | (rw [if_neg (by decide +kernel)]; exact ⟨rfl, rfl⟩))
    (fun os started H enc _ => lifted os started H enc)

/-- ████ THE STATEMENT ████ -/
theorem proved : Rows.FnCoreCutSaid := over
#print axioms proved
end Go.Proofs.Ytdljfikgmhdedaa.fnCoreCut
