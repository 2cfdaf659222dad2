/- For every input, the law FnCoreHas of the given statements returns true over the program at this commit, and its arguments read afterwards as before: no condition. -/
import Derived.Test.YtdljfikgmhdedaaRows
import Derived.Test.YtdljfikgmhdedaaLive
import Derived.Test.YtdljfikgmhdedaaSub
import Derived.WalkKit
import Derived.ProofKit
import Derived.OpenShut
import Derived.ShutString
import Derived.ChangeOld
import Derived.Below
namespace Go.Proofs.Ytdljfikgmhdedaa.fnCoreHas
open Go.ChangeShapes Go.WideShapes Go.ChangeAt Go.RowKit
open Go.ChangeMaps (open_string shut_string)
set_option linter.unusedVariables false

theorem own : ownKnob Try.prog.godebug = none := by kernel_rfl
theorem laidOut : laidOutB Try.prog = true := by kernel_rfl

/-- WHAT THE WALK IS TOLD OF A SLICE OF INTEGERS THAT CAME IN: it is nil; or it leads to a row of 'cap' cells, the numbers 'zs' (the first 'len' are its elements, the rest its spare room), each fitting its kind. -/
def IsRow (k : IntKind) (w : World) (a : Option Addr) (len cap : Nat) (zs : List Int) : Prop :=
  (a = none ∧ len = 0 ∧ cap = 0 ∧ zs = []) ∨
  ∃ x, a = some x ∧ len ≤ cap ∧ cap ≤ maxLen ∧ zs.length = cap ∧ (∀ i, i < zs.length → w.cell? (x.add i) = some (.int k (zs.getD i 0))) ∧ ∀ n ∈ zs, (Lit.int k n).wf = true

set_option maxRecDepth 100000 in
set_option maxHeartbeats 1600000 in
theorem walk (a0 : Option Addr) (len0 cap0 : Nat) (z0 : List Int) (w : World) (w0 : IsRow .u8 w a0 len0 cap0 z0) :
    Calls Try.prog 5 #[.slice a0 len0 cap0] w fun e w' => e = .returned (.bool true) ∧ Below w.heap.size w w' := by
  have hB := bytes_of w0
  by_cases hl : 1048576 < len0
  · have hdec : decide (1048576 < len0) = true := by simpa using hl
    go_enter Try.func5, Try.ntmps5
    go_wp2_with fail
    go_ret
    exact ⟨rfl, Below.refl _ _⟩
  have hdec : decide (1048576 < len0) = false := by simpa using hl
  have hm : len0 ≤ 1048576 := by omega
  go_enter Try.func5, Try.ntmps5
  go_wp2_with fail
  refine (DrawCoreHas_any hB).mono ?_
  rintro e u1 ⟨v, l, d, rfl, ho, hbd, hd1, b1⟩
  clear w0 hB
  have R := Lib.hid ho.row
  have BD := Lib.hid hbd
  have B := Lib.hid b1
  clear ho hbd b1
  obtain ⟨x, hx⟩ : ∃ x, hasOf d l = x := ⟨_, rfl⟩
  have HX := Lib.hid hx
  clear hx
  by_cases h0 : x < 0
  · skip
    go_wp2_with fail
    refine (val_is (implCoreHas_any d R.out) (show _ = Value.int .i64 x by rw [HX.out])).mono ?_
    rintro e u2 ⟨rfl, b2⟩
    replace R := Lib.hid (R.out.grow b2)
    replace B := Lib.hid (B.out.trans (b2.mono B.out.size))
    clear b2
    go_wp2_with fail
    refine (val_is (specCoreHas_any d R.out) (show _ = Value.int .i64 x by rw [HX.out])).mono ?_
    rintro e u3 ⟨rfl, b3⟩
    replace R := Lib.hid (R.out.grow b3)
    replace B := Lib.hid (B.out.trans (b3.mono B.out.size))
    clear b3
    go_wp2_with fail
    go_ret
    exact ⟨by simp, B.out⟩
  have CC := hasOf_core (d := d) (l := l) (by rw [HX.out]; omega)
  have CL := Lib.hid CC.1
  have hr := ix_range d l
  have HI : Hid (ix d l = x) := Lib.hid (by rw [← CC.2, HX.out])
  rw [← CC.2, HX.out] at hr
  obtain ⟨k, hk⟩ : ∃ k : Nat, x = (k : Int) := ⟨x.toNat, by omega⟩
  subst hk
  have hkl : k < l.length := by omega
  have hl30 : l.length ≤ 30 := BD.out.1
  clear CC h0 hr
  obtain ⟨ga, oa, ca, rfl, hc1, hc2⟩ := R.out.known (by omega)
  unfold maxLen at hc2
  go_wp2_with fail
  refine (val_is (implCoreHas_any d R.out) (show _ = Value.int .i64 (k : Int) by rw [HX.out])).mono ?_
  rintro e u4 ⟨rfl, b4⟩
  replace R := Lib.hid (R.out.grow b4)
  replace B := Lib.hid (B.out.trans (b4.mono B.out.size))
  clear b4
  go_wp2_with fail
  refine (val_is (specCoreHas_any d R.out) (show _ = Value.int .i64 (k : Int) by rw [HX.out])).mono ?_
  rintro e u5 ⟨rfl, b5⟩
  replace R := Lib.hid (R.out.grow b5)
  replace B := Lib.hid (B.out.trans (b5.mono B.out.size))
  clear b5
  go_wp2_with fail
  go_loopg [7] l.length (fun n y wr => ∃ j : Nat, y = .int .i64 j ∧ j + n = l.length ∧ u5 = wr)
  case atStart => exact ⟨0, rfl, by omega, rfl⟩
  case round =>
    obtain ⟨j, rfl, hn, rfl⟩ := hrel
    have K := Lib.hid hn
    have hj : j ≤ l.length := by omega
    clear hn
    by_cases hlt : j < l.length
    · obtain ⟨d1, d2⟩ := R.out.cells j hlt
      have sp := ix_spec (d := d) (isCore_iff.1 CL.out).2 j hlt
      rw [HI.out] at sp
      by_cases c1 : l[j].1 ≤ d
      · by_cases c2 : d < l[j].2
        · have e := sp.1 ⟨c1, c2⟩
          have f : ((j : Int) == (k : Int)) = true := by rw [beq_iff_eq]; exact e
          clear sp e
          go_wp2_with fail
          go_roundg (gk - 1)
          case measure => have := K.out; omega
          case rel => exact ⟨j + 1, by go_num, by have := K.out; omega, rfl⟩
        · have f : ((j : Int) == (k : Int)) = false := by rw [beq_eq_false_iff_ne]; intro e; exact c2 (sp.2 e).2
          clear sp
          go_wp2_with fail
          go_roundg (gk - 1)
          case measure => have := K.out; omega
          case rel => exact ⟨j + 1, by go_num, by have := K.out; omega, rfl⟩
      · have f : ((j : Int) == (k : Int)) = false := by rw [beq_eq_false_iff_ne]; intro e; exact c1 (sp.2 e).1
        clear sp
        go_wp2_with fail
        go_roundg (gk - 1)
        case measure => have := K.out; omega
        case rel => exact ⟨j + 1, by go_num, by have := K.out; omega, rfl⟩
    · go_wp2_with fail
      go_ret
      exact ⟨by simp, B.out⟩

set_option maxRecDepth 100000 in
theorem lifted (os : Os) (started : os.Started) (H : Type) (enc : TypeId × Value → H) :
    ReturnsInHanded {} Try.checked os 5 .any (Rows.fnCoreHasSpec.pre6 enc Try.prog Try.f5 Rows.fnCoreHasRow.domain false) (Rows.fnCoreHasSpec.post enc Try.prog Try.f5 false true false false) := by
  refine returnsInHanded_of_change (C := Try.checked) own started (by kernel_rfl) Try.func5
    (ChangeSpec.witness6 (enc := enc) (C := Try.checked) false ⟨#[], #[.slice none 0 0], []⟩ 8 (by kernel_rfl) (by kernel_rfl) (by kernel_rfl) (by kernel_rfl)) ?_
  intro W base args ds gs before hval0 hW hcnd _
  have hval : ∀ (j : Nat) t v, Try.f5.params[j]? = some t → args[j]? = some v → Value.okWide Try.prog W .any base t v := hval0
  have hW' := hW
  obtain ⟨p, q, hA0, hV, rfl, hfz, hnd⟩ := hW
  have hA : DataW.TrodAll enc Try.prog W 0 (fun _ => true) true Try.f5.params.toList args.toList ds p := hA0
  rw [Try.params5] at hA hval
  obtain ⟨v0, vs0, d0, ds0, p0, q0, hargs, rfl, rfl, h0, r0⟩ := trodAll_cons hA
  obtain ⟨rfl, rfl, rfl⟩ := trodAll_nil r0
  obtain rfl : args = #[v0] := by cases args; simp_all
  obtain ⟨rfl, rfl⟩ := trodVars_none hV
  obtain ⟨a0, len0, cap0, rfl⟩ := okWide_slice Try.underlying22 (hval 0 22 v0 rfl rfl)
  have k0 := h0
  have lt0 : ∀ x ∈ p0, x.block < W.heap.size := by obtain ⟨m, hm⟩ := k0; exact DataW.trod_lt m _ _ _ hm
  obtain ⟨z0, w0⟩ : ∃ zs, IsRow .u8 W a0 len0 cap0 zs := by
    obtain ⟨fuel, hf⟩ := h0
    rcases open_ints Try.underlying22 Try.underlying5 (by kernel_rfl) hf with ⟨hcs, _⟩ | ⟨x, l, c, zs, hcs, _, hl, hm, hz, _, hcell, hwz⟩
    · simp [Value.cells] at hcs
      obtain ⟨rfl, rfl, rfl⟩ := hcs
      exact ⟨[], .inl ⟨rfl, rfl, rfl, rfl⟩⟩
    · simp [Value.cells] at hcs
      obtain ⟨rfl, rfl, rfl⟩ := hcs
      exact ⟨zs, .inr ⟨_, rfl, hl, hm, by simpa using hz, hcell, hwz⟩⟩
  clear hA0 hval0
  refine (walk a0 len0 cap0 z0 W w0).mono fun e W' ⟨he, bel⟩ => ?_
  subst he
  exact ⟨_, rfl, _, _, _, [], _, [], hW', trodAll_mk1 (shut_bool Try.underlying4 _), (trodAll_cons_mk (Below.trod laidOut (by kernel_rfl) (of_decide_eq_true (by kernel_rfl)) k0 bel lt0) trodAll_mk0), rfl, bel.frame _, fun h => by cases h⟩

theorem over : Rows.fnCoreHasRow.holds Try.pinned (OpenSpec.ofChange Rows.fnCoreHasSpec) :=
  OpenClaim.holds_of_wide 5 Try.f5 rfl rfl rfl rfl rfl rfl rfl ⟨rfl, rfl, rfl, rfl, rfl⟩ rfl rfl rfl rfl rfl (by kernel_rfl) Try.func5 (by kernel_rfl)
    (of_decide_eq_true (by kernel_rfl)) (by unfold Func.isWrapper; first | (rw [if_pos (by decide +kernel)]; kernel_rfl) | (rw [if_neg (by decide +kernel)]; exact ⟨rfl, rfl⟩))
    (fun os started H enc _ => lifted os started H enc)

/-- ████ THE STATEMENT ████ -/
theorem proved : Rows.FnCoreHasSaid := over
#print axioms proved
end Go.Proofs.Ytdljfikgmhdedaa.fnCoreHas
