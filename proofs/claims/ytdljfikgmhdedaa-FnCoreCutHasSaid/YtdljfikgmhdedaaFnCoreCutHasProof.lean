/- For every input, the law FnCoreCutHas of the given statements returns true over the program at this commit, and its arguments read afterwards as before: no condition. -/
import Derived.Test.YtdljfikgmhdedaaRows
import Derived.Test.YtdljfikgmhdedaaLive
import Derived.WalkKit
import Derived.ProofKit
import Derived.OpenShut
import Derived.ShutString
import Derived.ChangeOld
import Derived.Below
namespace Go.Proofs.Ytdljfikgmhdedaa.fnCoreCutHas
open Go.ChangeShapes Go.WideShapes Go.ChangeAt Go.RowKit
open Go.ChangeMaps (open_string shut_string)
set_option linter.unusedVariables false

theorem own : ownKnob Try.prog.godebug = none := by kernel_rfl
theorem laidOut : laidOutB Try.prog = true := by kernel_rfl

/-- WHAT THE WALK IS TOLD OF A SLICE OF INTEGERS THAT CAME IN: it is nil; or it leads to a row of 'cap' cells, the numbers 'zs' (the first 'len' are its elements, the rest its spare room), each fitting its kind. -/
def IsRow (k : IntKind) (w : World) (a : Option Addr) (len cap : Nat) (zs : List Int) : Prop :=
  (a = none ∧ len = 0 ∧ cap = 0 ∧ zs = []) ∨
  ∃ x, a = some x ∧ len ≤ cap ∧ cap ≤ maxLen ∧ zs.length = cap ∧ (∀ i, i < zs.length → w.cell? (x.add i) = some (.int k (zs.getD i 0))) ∧ ∀ n ∈ zs, (Lit.int k n).wf = true

set_option maxRecDepth 100000 in
set_option maxHeartbeats 1600000 in
theorem walk (a0 : Option Addr) (len0 cap0 : Nat) (z0 : List Int) (a1 : Option Addr) (len1 cap1 : Nat) (z1 : List Int) (w : World) (w0 : IsRow .u8 w a0 len0 cap0 z0) (w1 : IsRow .u8 w a1 len1 cap1 z1) :
    Calls Try.prog 10 #[.slice a0 len0 cap0, .slice a1 len1 cap1] w fun e w' => e = .returned (.bool true) ∧ Below w.heap.size w w' := by
  have hB := bytes_of w0
  have hB1 := bytes_len (bytes_of w1)
  unfold maxLen at hB1
  by_cases hl : 1048576 < len0
  · have hdec : decide (1048576 < len0) = true := by simpa using hl
    go_enter Try.func10, Try.ntmps10
    go_wp2_with fail
    go_ret
    exact ⟨rfl, Below.refl _ _⟩
  have hdec : decide (1048576 < len0) = false := by simpa using hl
  by_cases hl1 : 1048576 < len1
  · go_enter Try.func10, Try.ntmps10
    go_wp2_with fail
    go_ret
    exact ⟨rfl, Below.refl _ _⟩
  have hm : len0 ≤ 1048576 := by omega
  have hm1 : len1 ≤ 1048576 := by omega
  clear hB1
  go_enter Try.func10, Try.ntmps10
  go_wp2_with fail
  refine (DrawCoreCut_any hB).mono ?_
  rintro e u1 ⟨v, l, d, rfl, ho, hbd, hd1, b1⟩
  clear w0 w1 hB
  have R := Lib.hid ho.row
  have BD := Lib.hid hbd
  have B := Lib.hid b1
  clear ho hbd b1
  have hx0 : (0 : Int) ≤ (len1 : Int) % 200 := by omega
  have hx1 : (len1 : Int) % 200 < 200 := by omega
  obtain ⟨x, hx⟩ : ∃ x : Int, (len1 : Int) % 200 = x := ⟨_, rfl⟩
  cases hc : cutOf d l with
  | none =>
    have HC := Lib.hid hc
    clear hc
    go_wp2_with fail
    refine (lstb_no (implCoreCut_any d R.out) HC.out).mono ?_
    rintro e u2 ⟨v1, rfl, r2, b2⟩
    replace R := Lib.hid (R.out.grow b2)
    replace B := Lib.hid (B.out.trans (b2.mono B.out.size))
    have R1 := Lib.hid r2
    clear r2
    clear b2
    go_wp2_with fail
    refine (lstb_no (specCoreCut_any d R.out) HC.out).mono ?_
    rintro e u3 ⟨v2, rfl, r3, b3⟩
    replace R := Lib.hid (R.out.grow b3)
    replace R1 := Lib.hid (R1.out.grow b3)
    replace B := Lib.hid (B.out.trans (b3.mono B.out.size))
    have R2 := Lib.hid r3
    clear r3
    clear b3
    go_wp2_with fail
    refine (same_yes R1.out R2.out rfl).mono ?_
    rintro e u4 ⟨rfl, b4⟩
    replace R := Lib.hid (R.out.grow b4)
    replace R1 := Lib.hid (R1.out.grow b4)
    replace R2 := Lib.hid (R2.out.grow b4)
    replace B := Lib.hid (B.out.trans (b4.mono B.out.size))
    clear b4
    go_wp2_with fail
    refine (same_yes R1.out R2.out rfl).mono ?_
    rintro e u5 ⟨rfl, b5⟩
    replace R := Lib.hid (R.out.grow b5)
    replace R1 := Lib.hid (R1.out.grow b5)
    replace R2 := Lib.hid (R2.out.grow b5)
    replace B := Lib.hid (B.out.trans (b5.mono B.out.size))
    clear b5
    go_wp2_with fail
    go_ret
    exact ⟨rfl, B.out⟩
  | some m =>
    have HC := Lib.hid hc
    clear hc
    go_wp2_with fail
    refine (lstb_yes (implCoreCut_any d R.out) HC.out).mono ?_
    rintro e u6 ⟨v1, rfl, r6, b6⟩
    replace R := Lib.hid (R.out.grow b6)
    replace B := Lib.hid (B.out.trans (b6.mono B.out.size))
    have R1 := Lib.hid r6
    clear r6
    clear b6
    go_wp2_with fail
    refine (lstb_yes (specCoreCut_any d R.out) HC.out).mono ?_
    rintro e u7 ⟨v2, rfl, r7, b7⟩
    replace R := Lib.hid (R.out.grow b7)
    replace R1 := Lib.hid (R1.out.grow b7)
    replace B := Lib.hid (B.out.trans (b7.mono B.out.size))
    have R2 := Lib.hid r7
    clear r7
    clear b7
    go_wp2_with fail
    refine (same_yes R1.out R2.out rfl).mono ?_
    rintro e u8 ⟨rfl, b8⟩
    replace R := Lib.hid (R.out.grow b8)
    replace R1 := Lib.hid (R1.out.grow b8)
    replace R2 := Lib.hid (R2.out.grow b8)
    replace B := Lib.hid (B.out.trans (b8.mono B.out.size))
    clear b8
    have CM := Lib.hid (cut_core HC.out)
    have CL := Lib.hid (cutOf_some HC.out).1
    have CT := Lib.hid (cutOf_some HC.out).2.2
    have IX := Lib.hid (ct_ix (x := x) CT.out (isCore_iff.1 CL.out).2)
    have hr := ix_range x l
    have hl30 : l.length ≤ 30 := BD.out.1
    obtain ⟨A, hA⟩ : ∃ A, ix x l = A := ⟨_, rfl⟩
    obtain ⟨A', hA'⟩ : ∃ A', ix x m = A' := ⟨_, rfl⟩
    rw [hA] at IX hr
    rw [hA'] at IX
    have HA := Lib.hid hA; have HA' := Lib.hid hA'
    clear hA hA'
    go_wp2_with fail
    refine (val_is (implCoreHas_any _ R.out) (show _ = Value.int .i64 A by rw [hasOf_is CL.out, HA.out])).mono ?_
    rintro e u9 ⟨rfl, b9⟩
    replace R := Lib.hid (R.out.grow b9)
    replace R1 := Lib.hid (R1.out.grow b9)
    replace R2 := Lib.hid (R2.out.grow b9)
    replace B := Lib.hid (B.out.trans (b9.mono B.out.size))
    clear b9
    go_wp2_with fail
    refine (val_is (implCoreHas_any _ R1.out) (show _ = Value.int .i64 A' by rw [hasOf_is CM.out, HA'.out])).mono ?_
    rintro e u10 ⟨rfl, b10⟩
    replace R := Lib.hid (R.out.grow b10)
    replace R1 := Lib.hid (R1.out.grow b10)
    replace R2 := Lib.hid (R2.out.grow b10)
    replace B := Lib.hid (B.out.trans (b10.mono B.out.size))
    clear b10
    by_cases c : A < 0 ∨ x < d
    · obtain rfl : A' = A := IX.out.1 c
      by_cases c1 : A' < 0
      · go_wp2_with fail
        go_ret
        exact ⟨by simp, B.out⟩
      · have c2 : x < d := by omega
        go_wp2_with fail
        go_ret
        exact ⟨by simp, B.out⟩
    · have e1 : (A' == A + 1) = true := by rw [beq_iff_eq]; exact IX.out.2 c
      have c0 : 0 ≤ A := by omega
      have c3 : A ≤ 30 := by omega
      have c2 : d ≤ x := by omega
      clear c hr
      go_wp2_with fail
      go_ret
      exact ⟨by simp, B.out⟩

set_option maxRecDepth 100000 in
theorem lifted (os : Os) (started : os.Started) (H : Type) (enc : TypeId × Value → H) :
    ReturnsInHanded {} Try.checked os 10 .any (Rows.fnCoreCutHasSpec.pre6 enc Try.prog Try.f10 Rows.fnCoreCutHasRow.domain false) (Rows.fnCoreCutHasSpec.post enc Try.prog Try.f10 false true false false) := by
  refine returnsInHanded_of_change (C := Try.checked) own started (by kernel_rfl) Try.func10
    (ChangeSpec.witness6 (enc := enc) (C := Try.checked) false ⟨#[], #[.slice none 0 0, .slice none 0 0], []⟩ 8 (by kernel_rfl) (by kernel_rfl) (by kernel_rfl) (by kernel_rfl)) ?_
  intro W base args ds gs before hval0 hW hcnd _
  have hval : ∀ (j : Nat) t v, Try.f10.params[j]? = some t → args[j]? = some v → Value.okWide Try.prog W .any base t v := hval0
  have hW' := hW
  obtain ⟨p, q, hA0, hV, rfl, hfz, hnd⟩ := hW
  have hA : DataW.TrodAll enc Try.prog W 0 (fun _ => true) true Try.f10.params.toList args.toList ds p := hA0
  rw [Try.params10] at hA hval
  obtain ⟨v0, vs0, d0, ds0, p0, q0, hargs, rfl, rfl, h0, r0⟩ := trodAll_cons hA
  obtain ⟨v1, vs1, d1, ds1, p1, q1, rfl, rfl, rfl, h1, r1⟩ := trodAll_cons r0
  obtain ⟨rfl, rfl, rfl⟩ := trodAll_nil r1
  obtain rfl : args = #[v0, v1] := by cases args; simp_all
  obtain ⟨rfl, rfl⟩ := trodVars_none hV
  obtain ⟨a0, len0, cap0, rfl⟩ := okWide_slice Try.underlying22 (hval 0 22 v0 rfl rfl)
  have k0 := h0
  have lt0 : ∀ x ∈ p0, x.block < W.heap.size := by obtain ⟨m, hm⟩ := k0; exact DataW.trod_lt m _ _ _ hm
  obtain ⟨z0, w0⟩ : ∃ zs, IsRow .u8 W a0 len0 cap0 zs := by
    obtain ⟨fuel, hf⟩ := h0
    rcases open_ints Try.underlying22 Try.underlying5 (by kernel_rfl) hf with ⟨hcs, _⟩ | ⟨x, l, c, zs, hcs, _, hl, hm, hz, _, hcell, hwz⟩
    · simp [Value.cells] at hcs
      obtain ⟨rfl, rfl, rfl⟩ := hcs
      exact ⟨[], .inl ⟨rfl, rfl, rfl, rfl⟩⟩
    · simp [Value.cells] at hcs
      obtain ⟨rfl, rfl, rfl⟩ := hcs
      exact ⟨zs, .inr ⟨_, rfl, hl, hm, by simpa using hz, hcell, hwz⟩⟩
  obtain ⟨a1, len1, cap1, rfl⟩ := okWide_slice Try.underlying22 (hval 1 22 v1 rfl rfl)
  have k1 := h1
  have lt1 : ∀ x ∈ p1, x.block < W.heap.size := by obtain ⟨m, hm⟩ := k1; exact DataW.trod_lt m _ _ _ hm
  obtain ⟨z1, w1⟩ : ∃ zs, IsRow .u8 W a1 len1 cap1 zs := by
    obtain ⟨fuel, hf⟩ := h1
    rcases open_ints Try.underlying22 Try.underlying5 (by kernel_rfl) hf with ⟨hcs, _⟩ | ⟨x, l, c, zs, hcs, _, hl, hm, hz, _, hcell, hwz⟩
    · simp [Value.cells] at hcs
      obtain ⟨rfl, rfl, rfl⟩ := hcs
      exact ⟨[], .inl ⟨rfl, rfl, rfl, rfl⟩⟩
    · simp [Value.cells] at hcs
      obtain ⟨rfl, rfl, rfl⟩ := hcs
      exact ⟨zs, .inr ⟨_, rfl, hl, hm, by simpa using hz, hcell, hwz⟩⟩
  clear hA0 hval0
  refine (walk a0 len0 cap0 z0 a1 len1 cap1 z1 W w0 w1).mono fun e W' ⟨he, bel⟩ => ?_
  subst he
  exact ⟨_, rfl, _, _, _, [], _, [], hW', trodAll_mk1 (shut_bool Try.underlying4 _), (trodAll_cons_mk (Below.trod laidOut (by kernel_rfl) (of_decide_eq_true (by kernel_rfl)) k0 bel lt0) (trodAll_cons_mk (Below.trod laidOut (by kernel_rfl) (of_decide_eq_true (by kernel_rfl)) k1 bel lt1) trodAll_mk0)), rfl, bel.frame _, fun h => by cases h⟩

theorem over : Rows.fnCoreCutHasRow.holds Try.pinned (OpenSpec.ofChange Rows.fnCoreCutHasSpec) :=
  OpenClaim.holds_of_wide 10 Try.f10 rfl rfl rfl rfl rfl rfl rfl ⟨rfl, rfl, rfl, rfl, rfl⟩ rfl rfl rfl rfl rfl (by kernel_rfl) Try.func10 (by kernel_rfl)
    (of_decide_eq_true (by kernel_rfl)) (by unfold Func.isWrapper; first | (rw [if_pos (by decide +kernel)]; kernel_rfl) | (rw [if_neg (by decide +kernel)]; exact ⟨rfl, rfl⟩))
    (fun os started H enc _ => lifted os started H enc)

/-- ████ THE STATEMENT ████ -/
theorem proved : Rows.FnCoreCutHasSaid := over
#print axioms proved
end Go.Proofs.Ytdljfikgmhdedaa.fnCoreCutHas
