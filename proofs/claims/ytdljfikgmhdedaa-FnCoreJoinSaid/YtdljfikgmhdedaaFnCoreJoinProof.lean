/- For every input, the law FnCoreJoin of the given statements returns true over the program at this commit, and its arguments read afterwards as before: no condition. -/
import Derived.Test.YtdljfikgmhdedaaRows
import Derived.Test.YtdljfikgmhdedaaLive
import Derived.Test.YtdljfikgmhdedaaSub
import Derived.WalkKit
import Derived.ProofKit
import Derived.OpenShut
import Derived.ShutString
import Derived.ChangeOld
import Derived.Below
namespace Go.Proofs.Ytdljfikgmhdedaa.fnCoreJoin
open Go.ChangeShapes Go.WideShapes Go.ChangeAt Go.RowKit
open Go.ChangeMaps (open_string shut_string)
set_option linter.unusedVariables false

theorem own : ownKnob Try.prog.godebug = none := by kernel_rfl
theorem laidOut : laidOutB Try.prog = true := by kernel_rfl

/-- WHAT THE WALK IS TOLD OF A SLICE OF INTEGERS THAT CAME IN: it is nil; or it leads to a row of 'cap' cells, the numbers 'zs' (the first 'len' are its elements, the rest its spare room), each fitting its kind. -/
def IsRow (k : IntKind) (w : World) (a : Option Addr) (len cap : Nat) (zs : List Int) : Prop :=
  (a = none ∧ len = 0 ∧ cap = 0 ∧ zs = []) ∨
  ∃ x, a = some x ∧ len ≤ cap ∧ cap ≤ maxLen ∧ zs.length = cap ∧ (∀ i, i < zs.length → w.cell? (x.add i) = some (.int k (zs.getD i 0))) ∧ ∀ n ∈ zs, (Lit.int k n).wf = true

set_option maxRecDepth 100000 in
set_option maxHeartbeats 1600000 in
theorem walk (a0 : Option Addr) (len0 cap0 : Nat) (z0 : List Int) (w : World) (w0 : IsRow .u8 w a0 len0 cap0 z0) :
    Calls Try.prog 8 #[.slice a0 len0 cap0] w fun e w' => e = .returned (.bool true) ∧ Below w.heap.size w w' := by
  have hB := bytes_of w0
  by_cases hl : 1048576 < len0
  · have hdec : decide (1048576 < len0) = true := by simpa using hl
    go_enter Try.func8, Try.ntmps8
    go_wp2_with fail
    go_ret
    exact ⟨rfl, Below.refl _ _⟩
  have hdec : decide (1048576 < len0) = false := by simpa using hl
  have hm : len0 ≤ 1048576 := by omega
  go_enter Try.func8, Try.ntmps8
  go_wp2_with fail
  refine (DrawCoreJoin_any hB).mono ?_
  rintro e u1 ⟨v, l, rfl, ho, hbd, b1⟩
  clear w0 hB
  have R := Lib.hid ho.row
  have BD := Lib.hid hbd
  have B := Lib.hid b1
  clear ho hbd b1
  cases hc : joinOf l with
  | none =>
    have HC := Lib.hid hc
    clear hc
    go_wp2_with fail
    refine (lstb_no (implCoreJoin_any  R.out) HC.out).mono ?_
    rintro e u2 ⟨v1, rfl, r2, b2⟩
    replace R := Lib.hid (R.out.grow b2)
    replace B := Lib.hid (B.out.trans (b2.mono B.out.size))
    have R1 := Lib.hid r2
    clear r2
    clear b2
    go_wp2_with fail
    refine (lstb_no (specCoreJoin_any  R.out) HC.out).mono ?_
    rintro e u3 ⟨v2, rfl, r3, b3⟩
    replace R := Lib.hid (R.out.grow b3)
    replace R1 := Lib.hid (R1.out.grow b3)
    replace B := Lib.hid (B.out.trans (b3.mono B.out.size))
    have R2 := Lib.hid r3
    clear r3
    clear b3
    go_wp2_with fail
    refine (same_yes R1.out R2.out rfl).mono ?_
    rintro e u4 ⟨rfl, b4⟩
    replace R := Lib.hid (R.out.grow b4)
    replace R1 := Lib.hid (R1.out.grow b4)
    replace R2 := Lib.hid (R2.out.grow b4)
    replace B := Lib.hid (B.out.trans (b4.mono B.out.size))
    clear b4
    go_wp2_with fail
    refine (same_yes R1.out R2.out rfl).mono ?_
    rintro e u5 ⟨rfl, b5⟩
    replace R := Lib.hid (R.out.grow b5)
    replace R1 := Lib.hid (R1.out.grow b5)
    replace R2 := Lib.hid (R2.out.grow b5)
    replace B := Lib.hid (B.out.trans (b5.mono B.out.size))
    clear b5
    go_wp2_with fail
    go_ret
    exact ⟨rfl, B.out⟩
  | some m =>
    have HC := Lib.hid hc
    clear hc
    go_wp2_with fail
    refine (lstb_yes (implCoreJoin_any  R.out) HC.out).mono ?_
    rintro e u6 ⟨v1, rfl, r6, b6⟩
    replace R := Lib.hid (R.out.grow b6)
    replace B := Lib.hid (B.out.trans (b6.mono B.out.size))
    have R1 := Lib.hid r6
    clear r6
    clear b6
    go_wp2_with fail
    refine (lstb_yes (specCoreJoin_any  R.out) HC.out).mono ?_
    rintro e u7 ⟨v2, rfl, r7, b7⟩
    replace R := Lib.hid (R.out.grow b7)
    replace R1 := Lib.hid (R1.out.grow b7)
    replace B := Lib.hid (B.out.trans (b7.mono B.out.size))
    have R2 := Lib.hid r7
    clear r7
    clear b7
    go_wp2_with fail
    refine (same_yes R1.out R2.out rfl).mono ?_
    rintro e u8 ⟨rfl, b8⟩
    replace R := Lib.hid (R.out.grow b8)
    replace R1 := Lib.hid (R1.out.grow b8)
    replace R2 := Lib.hid (R2.out.grow b8)
    replace B := Lib.hid (B.out.trans (b8.mono B.out.size))
    clear b8
    have CL := Lib.hid (joinOf_some HC.out).1
    have MJ := Lib.hid (joinOf_some HC.out).2
    have CM : Hid (isCore m = true) := Lib.hid (by rw [MJ.out]; exact join_core CL.out)
    have hm30 : m.length ≤ 30 := by have h1 := join_length_le l; have h2 := BD.out.1; rw [MJ.out]; omega
    have hvl := (isCore_iff.1 CL.out).2
    have J1 : Hid (joinOf m = some m) := Lib.hid (by rw [joinOf_is CM.out, MJ.out, join_join hvl])
    have J2 : Hid (lenOf m = lenOf l) := Lib.hid (by rw [lenOf_is CM.out, lenOf_is CL.out, MJ.out, join_len])
    have J3 : Hid (gapsOf m = gapsOf l) := Lib.hid (by rw [gapsOf_is CM.out, gapsOf_is CL.out, MJ.out, join_gaps hvl])
    have AP : Hid (∀ i (_ : i + 1 < m.length), m[i].2 ≠ m[i + 1].1) := Lib.hid (by intro i hi; have h := join_apart hvl (i + 1) (by omega); simp only [← MJ.out] at h; exact h hi)
    clear hvl
    obtain ⟨x, hx⟩ : ∃ x, lenOf l = x := ⟨_, rfl⟩
    have LX := Lib.hid hx
    obtain ⟨gl, hgl⟩ : ∃ gl, gapsOf l = gl := ⟨_, rfl⟩
    have GX := Lib.hid hgl
    clear hx hgl
    go_wp2_with fail
    refine (lstb_yes (implCoreJoin_any R1.out) J1.out).mono ?_
    rintro e u9 ⟨v3, rfl, r9, b9⟩
    replace R := Lib.hid (R.out.grow b9)
    replace R1 := Lib.hid (R1.out.grow b9)
    replace R2 := Lib.hid (R2.out.grow b9)
    replace B := Lib.hid (B.out.trans (b9.mono B.out.size))
    have R3 := Lib.hid r9
    clear r9
    clear b9
    obtain ⟨ga, n1, ca, rfl, hn1, hb1, hb2, hli⟩ := R1.out
    have R1 : Hid (Row u9 (.slice ga n1 ca) m) := Lib.hid ⟨ga, n1, ca, rfl, hn1, hb1, hb2, hli⟩
    unfold maxLen at hb2
    have HLI := Lib.hid hli
    clear hli
    go_wp2_with fail
    go_loopg [10] (n1 - 1) (fun n y wr => ∃ i : Nat, y = .int .i64 ((i : Int) + 1) ∧ n = n1 - (i + 1) ∧ i ≤ 100 ∧ Below u9.heap.size u9 wr)
    case atStart => exact ⟨0, rfl, by omega, by omega, Below.refl _ _⟩
    case round =>
      obtain ⟨i, rfl, hn, hi100, hbe⟩ := hrel
      have BE := Lib.hid hbe
      clear hbe
      by_cases hlt : i + 1 < n1
      · have R1w := R1.out.grow BE.out
        obtain ⟨g, o, rfl, c1, c2⟩ := lies_cell HLI.out i (by omega)
        obtain ⟨d1, d2⟩ := R1w.cells i (by omega)
        obtain ⟨d3, d4⟩ := R1w.cells (i + 1) (by omega)
        have hap := AP.out i (by omega)
        have hb : (m[i].2 == m[i + 1].1) = false := by simpa using hap
        have s1 : IntKind.i64.wrap ((i : Int) + 1 - 1) = (i : Int) := by rw [show (i : Int) + 1 - 1 = i by omega]; exact IntWalk.i64_in _ (by omega)
        have s2 : IntKind.i64.wrap (i : Int) = (i : Int) := IntWalk.i64_in _ (by omega)
        have s3 : (0 : Int) ≤ (i : Int) := Int.natCast_nonneg _
        have s4 : (i : Int) < (n1 : Int) := by omega
        have s5 : (0 : Int) ≤ (i : Int) + 1 := by omega
        have s6 : (i : Int) + 1 < (n1 : Int) := by omega
        have s7 : ((i : Int) + 1).toNat = i + 1 := by omega
        have HN := Lib.hid hn
        clear hn hap R1w c1 c2
        go_wp2_with fail
        go_quiet (fail)
        go_wp2_with fail
        go_roundg (gk - 1)
        case measure => have := HN.out; omega
        case rel => exact ⟨i + 1, by go_num, by have := HN.out; omega, by omega, below_drewN BE.out _⟩
      · replace R := Lib.hid (R.out.grow BE.out)
        replace R1 := Lib.hid (R1.out.grow BE.out)
        replace R3 := Lib.hid (R3.out.grow BE.out)
        replace B := Lib.hid (B.out.trans (BE.out.mono B.out.size))
        clear R2 BE hn
        go_wp2_with fail
        refine (same_yes R3.out R1.out rfl).mono ?_
        rintro e u10 ⟨rfl, b10⟩
        replace R := Lib.hid (R.out.grow b10)
        replace R1 := Lib.hid (R1.out.grow b10)
        replace R3 := Lib.hid (R3.out.grow b10)
        replace B := Lib.hid (B.out.trans (b10.mono B.out.size))
        clear b10
        go_wp2_with fail
        refine (val_is (implCoreLength_any R1.out) (show _ = Value.int .i64 x by rw [J2.out, LX.out])).mono ?_
        rintro e u11 ⟨rfl, b11⟩
        replace R := Lib.hid (R.out.grow b11)
        replace R1 := Lib.hid (R1.out.grow b11)
        replace R3 := Lib.hid (R3.out.grow b11)
        replace B := Lib.hid (B.out.trans (b11.mono B.out.size))
        clear b11
        go_wp2_with fail
        refine (val_is (implCoreLength_any R.out) (show _ = Value.int .i64 x by rw [LX.out])).mono ?_
        rintro e u12 ⟨rfl, b12⟩
        replace R := Lib.hid (R.out.grow b12)
        replace R1 := Lib.hid (R1.out.grow b12)
        replace R3 := Lib.hid (R3.out.grow b12)
        replace B := Lib.hid (B.out.trans (b12.mono B.out.size))
        clear b12
        go_wp2_with fail
        refine (lst_is (implCoreGaps_any R1.out) (show _ = gl by rw [J3.out, GX.out])).mono ?_
        rintro e u13 ⟨v4, rfl, r13, b13⟩
        replace R := Lib.hid (R.out.grow b13)
        replace R1 := Lib.hid (R1.out.grow b13)
        replace R3 := Lib.hid (R3.out.grow b13)
        replace B := Lib.hid (B.out.trans (b13.mono B.out.size))
        have R4 := Lib.hid r13
        clear r13
        clear b13
        go_wp2_with fail
        refine (lst_is (implCoreGaps_any R.out) GX.out).mono ?_
        rintro e u14 ⟨v5, rfl, r14, b14⟩
        replace R := Lib.hid (R.out.grow b14)
        replace R1 := Lib.hid (R1.out.grow b14)
        replace R3 := Lib.hid (R3.out.grow b14)
        replace R4 := Lib.hid (R4.out.grow b14)
        replace B := Lib.hid (B.out.trans (b14.mono B.out.size))
        have R5 := Lib.hid r14
        clear r14
        clear b14
        go_wp2_with fail
        refine (same_yes R4.out R5.out rfl).mono ?_
        rintro e u15 ⟨rfl, b15⟩
        replace R := Lib.hid (R.out.grow b15)
        replace R1 := Lib.hid (R1.out.grow b15)
        replace R3 := Lib.hid (R3.out.grow b15)
        replace R4 := Lib.hid (R4.out.grow b15)
        replace R5 := Lib.hid (R5.out.grow b15)
        replace B := Lib.hid (B.out.trans (b15.mono B.out.size))
        clear b15
        go_wp2_with fail
        go_ret
        exact ⟨by simp, B.out⟩

set_option maxRecDepth 100000 in
theorem lifted (os : Os) (started : os.Started) (H : Type) (enc : TypeId × Value → H) :
    ReturnsInHanded {} Try.checked os 8 .any (Rows.fnCoreJoinSpec.pre6 enc Try.prog Try.f8 Rows.fnCoreJoinRow.domain false) (Rows.fnCoreJoinSpec.post enc Try.prog Try.f8 false true false false) := by
  refine returnsInHanded_of_change (C := Try.checked) own started (by kernel_rfl) Try.func8
    (ChangeSpec.witness6 (enc := enc) (C := Try.checked) false ⟨#[], #[.slice none 0 0], []⟩ 8 (by kernel_rfl) (by kernel_rfl) (by kernel_rfl) (by kernel_rfl)) ?_
  intro W base args ds gs before hval0 hW hcnd _
  have hval : ∀ (j : Nat) t v, Try.f8.params[j]? = some t → args[j]? = some v → Value.okWide Try.prog W .any base t v := hval0
  have hW' := hW
  obtain ⟨p, q, hA0, hV, rfl, hfz, hnd⟩ := hW
  have hA : DataW.TrodAll enc Try.prog W 0 (fun _ => true) true Try.f8.params.toList args.toList ds p := hA0
  rw [Try.params8] at hA hval
  obtain ⟨v0, vs0, d0, ds0, p0, q0, hargs, rfl, rfl, h0, r0⟩ := trodAll_cons hA
  obtain ⟨rfl, rfl, rfl⟩ := trodAll_nil r0
  obtain rfl : args = #[v0] := by cases args; simp_all
  obtain ⟨rfl, rfl⟩ := trodVars_none hV
  obtain ⟨a0, len0, cap0, rfl⟩ := okWide_slice Try.underlying22 (hval 0 22 v0 rfl rfl)
  have k0 := h0
  have lt0 : ∀ x ∈ p0, x.block < W.heap.size := by obtain ⟨m, hm⟩ := k0; exact DataW.trod_lt m _ _ _ hm
  obtain ⟨z0, w0⟩ : ∃ zs, IsRow .u8 W a0 len0 cap0 zs := by
    obtain ⟨fuel, hf⟩ := h0
    rcases open_ints Try.underlying22 Try.underlying5 (by kernel_rfl) hf with ⟨hcs, _⟩ | ⟨x, l, c, zs, hcs, _, hl, hm, hz, _, hcell, hwz⟩
    · simp [Value.cells] at hcs
      obtain ⟨rfl, rfl, rfl⟩ := hcs
      exact ⟨[], .inl ⟨rfl, rfl, rfl, rfl⟩⟩
    · simp [Value.cells] at hcs
      obtain ⟨rfl, rfl, rfl⟩ := hcs
      exact ⟨zs, .inr ⟨_, rfl, hl, hm, by simpa using hz, hcell, hwz⟩⟩
  clear hA0 hval0
  refine (walk a0 len0 cap0 z0 W w0).mono fun e W' ⟨he, bel⟩ => ?_
  subst he
  exact ⟨_, rfl, _, _, _, [], _, [], hW', trodAll_mk1 (shut_bool Try.underlying4 _), (trodAll_cons_mk (Below.trod laidOut (by kernel_rfl) (of_decide_eq_true (by kernel_rfl)) k0 bel lt0) trodAll_mk0), rfl, bel.frame _, fun h => by cases h⟩

theorem over : Rows.fnCoreJoinRow.holds Try.pinned (OpenSpec.ofChange Rows.fnCoreJoinSpec) :=
  OpenClaim.holds_of_wide 8 Try.f8 rfl rfl rfl rfl rfl rfl rfl ⟨rfl, rfl, rfl, rfl, rfl⟩ rfl rfl rfl rfl rfl (by kernel_rfl) Try.func8 (by kernel_rfl)
    (of_decide_eq_true (by kernel_rfl)) (by unfold Func.isWrapper; first | (rw [if_pos (by decide +kernel)]; kernel_rfl) | (rw [if_neg (by decide +kernel)]; exact ⟨rfl, rfl⟩))
    (fun os started H enc _ => lifted os started H enc)

/-- ████ THE STATEMENT ████ -/
theorem proved : Rows.FnCoreJoinSaid := over
#print axioms proved
end Go.Proofs.Ytdljfikgmhdedaa.fnCoreJoin
