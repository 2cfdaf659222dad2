/- For every input, the law FnCoreHasEnds of the given statements returns true over the program at this commit, and its arguments read afterwards as before: no condition. -/
import Derived.Test.YtdljfikgmhdedabRows
import Derived.Test.YtdljfikgmhdedabLive
import Derived.Test.YtdljfikgmhdedabSub
import Derived.WalkKit
import Derived.ProofKit
import Derived.OpenShut
import Derived.ShutString
import Derived.ChangeOld
import Derived.Below
namespace Go.Proofs.Ytdljfikgmhdedab.fnCoreHasEnds
open Go.ChangeShapes Go.WideShapes Go.ChangeAt Go.RowKit
open Go.ChangeMaps (open_string shut_string)
set_option linter.unusedVariables false

theorem own : ownKnob Try.prog.godebug = none := by kernel_rfl
theorem laidOut : laidOutB Try.prog = true := by kernel_rfl

/-- WHAT THE WALK IS TOLD OF A SLICE OF INTEGERS THAT CAME IN: it is nil; or it leads to a row of 'cap' cells, the numbers 'zs' (the first 'len' are its elements, the rest its spare room), each fitting its kind. -/
def IsRow (k : IntKind) (w : World) (a : Option Addr) (len cap : Nat) (zs : List Int) : Prop :=
  (a = none ∧ len = 0 ∧ cap = 0 ∧ zs = []) ∨
  ∃ x, a = some x ∧ len ≤ cap ∧ cap ≤ maxLen ∧ zs.length = cap ∧ (∀ i, i < zs.length → w.cell? (x.add i) = some (.int k (zs.getD i 0))) ∧ ∀ n ∈ zs, (Lit.int k n).wf = true

set_option maxRecDepth 100000 in
set_option maxHeartbeats 1600000 in
theorem walk (a0 : Option Addr) (len0 cap0 : Nat) (z0 : List Int) (w : World) (w0 : IsRow .u8 w a0 len0 cap0 z0) :
    Calls Try.prog 8 #[.slice a0 len0 cap0] w fun e w' => e = .returned (.bool true) ∧ Below w.heap.size w w' := by
  have hB := bytes_of w0
  by_cases hl : 1048576 < len0
  · have hdec : decide (1048576 < len0) = true := by simpa using hl
    go_enter Try.func8, Try.ntmps8
    go_wp2_with fail
    go_ret
    exact ⟨rfl, Below.refl _ _⟩
  have hdec : decide (1048576 < len0) = false := by simpa using hl
  have hm : len0 ≤ 1048576 := by omega
  go_enter Try.func8, Try.ntmps8
  go_wp2_with fail
  refine (DrawCoreHas_any hB).mono ?_
  rintro e u1 ⟨v, l, d, rfl, ho, hbd, hd1, b1⟩
  clear w0 hB
  have R := Lib.hid ho.row
  have BD := Lib.hid hbd
  have B := Lib.hid b1
  clear ho hbd b1
  obtain ⟨x, hx⟩ : ∃ x, hasOf d l = x := ⟨_, rfl⟩
  have HX := Lib.hid hx
  clear hx
  by_cases h0 : x < 0
  · skip
    go_wp2_with fail
    refine (val_is (implCoreHas_any d R.out) (show _ = Value.int .i64 x by rw [HX.out])).mono ?_
    rintro e u2 ⟨rfl, b2⟩
    replace R := Lib.hid (R.out.grow b2)
    replace B := Lib.hid (B.out.trans (b2.mono B.out.size))
    clear b2
    go_wp2_with fail
    refine (val_is (specCoreHas_any d R.out) (show _ = Value.int .i64 x by rw [HX.out])).mono ?_
    rintro e u3 ⟨rfl, b3⟩
    replace R := Lib.hid (R.out.grow b3)
    replace B := Lib.hid (B.out.trans (b3.mono B.out.size))
    clear b3
    go_wp2_with fail
    go_ret
    exact ⟨by simp, B.out⟩
  have CC := hasOf_core (d := d) (l := l) (by rw [HX.out]; omega)
  have CL := Lib.hid CC.1
  have hr := ix_range d l
  rw [← CC.2, HX.out] at hr
  obtain ⟨k, hk⟩ : ∃ k : Nat, x = (k : Int) := ⟨x.toNat, by omega⟩
  subst hk
  have hkl : k < l.length := by omega
  have hl30 : l.length ≤ 30 := BD.out.1
  have hv := (isCore_iff.1 CL.out).2
  have hg := hv.get k hkl
  obtain ⟨g1, g2, g3⟩ := hg
  have I1 := Lib.hid (ix_on hv k hkl (Int.le_refl _) g2)
  have I2 := Lib.hid (ix_on (d := l[k].2 - 1) hv k hkl (by omega) (by omega))
  obtain ⟨y, hy⟩ : ∃ y, ix l[k].2 l = y := ⟨_, rfl⟩
  have HY := Lib.hid hy
  have hb := ix_bot hv k hkl
  rw [hy] at hb
  clear hy hv CC h0 hr
  obtain ⟨ga, oa, ca, rfl, hc1, hc2⟩ := R.out.known (by omega)
  unfold maxLen at hc2
  rcases hb with rfl | rfl
  · skip
    go_wp2_with fail
    refine (val_is (implCoreHas_any d R.out) (show _ = Value.int .i64 (k : Int) by rw [HX.out])).mono ?_
    rintro e u4 ⟨rfl, b4⟩
    replace R := Lib.hid (R.out.grow b4)
    replace B := Lib.hid (B.out.trans (b4.mono B.out.size))
    clear b4
    go_wp2_with fail
    refine (val_is (specCoreHas_any d R.out) (show _ = Value.int .i64 (k : Int) by rw [HX.out])).mono ?_
    rintro e u5 ⟨rfl, b5⟩
    replace R := Lib.hid (R.out.grow b5)
    replace B := Lib.hid (B.out.trans (b5.mono B.out.size))
    clear b5
    obtain ⟨d1, d2⟩ := R.out.cells k hkl
    go_wp2_with fail
    refine (val_is (implCoreHas_any l[k].2 R.out) (show _ = Value.int .i64 ((k : Int) + 1) by rw [hasOf_is CL.out, HY.out])).mono ?_
    rintro e u6 ⟨rfl, b6⟩
    replace R := Lib.hid (R.out.grow b6)
    replace B := Lib.hid (B.out.trans (b6.mono B.out.size))
    clear b6
    clear d1 d2
    obtain ⟨d1, d2⟩ := R.out.cells k hkl
    go_wp2_with fail
    refine (val_is (implCoreHas_any l[k].1 R.out) (show _ = Value.int .i64 (k : Int) by rw [hasOf_is CL.out, I1.out])).mono ?_
    rintro e u7 ⟨rfl, b7⟩
    replace R := Lib.hid (R.out.grow b7)
    replace B := Lib.hid (B.out.trans (b7.mono B.out.size))
    clear b7
    clear d1 d2
    obtain ⟨d1, d2⟩ := R.out.cells k hkl
    go_wp2_with fail
    refine (val_is (implCoreHas_any (l[k].2 - 1) R.out) (show _ = Value.int .i64 (k : Int) by rw [hasOf_is CL.out, I2.out])).mono ?_
    rintro e u8 ⟨rfl, b8⟩
    replace R := Lib.hid (R.out.grow b8)
    replace B := Lib.hid (B.out.trans (b8.mono B.out.size))
    clear b8
    go_wp2_with fail
    go_ret
    exact ⟨by simp, B.out⟩
  · skip
    go_wp2_with fail
    refine (val_is (implCoreHas_any d R.out) (show _ = Value.int .i64 (k : Int) by rw [HX.out])).mono ?_
    rintro e u9 ⟨rfl, b9⟩
    replace R := Lib.hid (R.out.grow b9)
    replace B := Lib.hid (B.out.trans (b9.mono B.out.size))
    clear b9
    go_wp2_with fail
    refine (val_is (specCoreHas_any d R.out) (show _ = Value.int .i64 (k : Int) by rw [HX.out])).mono ?_
    rintro e u10 ⟨rfl, b10⟩
    replace R := Lib.hid (R.out.grow b10)
    replace B := Lib.hid (B.out.trans (b10.mono B.out.size))
    clear b10
    obtain ⟨d1, d2⟩ := R.out.cells k hkl
    go_wp2_with fail
    refine (val_is (implCoreHas_any l[k].2 R.out) (show _ = Value.int .i64 (-1) by rw [hasOf_is CL.out, HY.out])).mono ?_
    rintro e u11 ⟨rfl, b11⟩
    replace R := Lib.hid (R.out.grow b11)
    replace B := Lib.hid (B.out.trans (b11.mono B.out.size))
    clear b11
    clear d1 d2
    obtain ⟨d1, d2⟩ := R.out.cells k hkl
    go_wp2_with fail
    refine (val_is (implCoreHas_any l[k].1 R.out) (show _ = Value.int .i64 (k : Int) by rw [hasOf_is CL.out, I1.out])).mono ?_
    rintro e u12 ⟨rfl, b12⟩
    replace R := Lib.hid (R.out.grow b12)
    replace B := Lib.hid (B.out.trans (b12.mono B.out.size))
    clear b12
    clear d1 d2
    obtain ⟨d1, d2⟩ := R.out.cells k hkl
    go_wp2_with fail
    refine (val_is (implCoreHas_any (l[k].2 - 1) R.out) (show _ = Value.int .i64 (k : Int) by rw [hasOf_is CL.out, I2.out])).mono ?_
    rintro e u13 ⟨rfl, b13⟩
    replace R := Lib.hid (R.out.grow b13)
    replace B := Lib.hid (B.out.trans (b13.mono B.out.size))
    clear b13
    go_wp2_with fail
    go_ret
    exact ⟨by simp, B.out⟩

set_option maxRecDepth 100000 in
theorem lifted (os : Os) (started : os.Started) (H : Type) (enc : TypeId × Value → H) :
    ReturnsInHanded {} Try.checked os 8 .any (Rows.fnCoreHasEndsSpec.pre6 enc Try.prog Try.f8 Rows.fnCoreHasEndsRow.domain false) (Rows.fnCoreHasEndsSpec.post enc Try.prog Try.f8 false true false false) := by
  refine returnsInHanded_of_change (C := Try.checked) own started (by kernel_rfl) Try.func8
    (ChangeSpec.witness6 (enc := enc) (C := Try.checked) false ⟨#[], #[.slice none 0 0], []⟩ 8 (by kernel_rfl) (by kernel_rfl) (by kernel_rfl) (by kernel_rfl)) ?_
  intro W base args ds gs before hval0 hW hcnd _
  have hval : ∀ (j : Nat) t v, Try.f8.params[j]? = some t → args[j]? = some v → Value.okWide Try.prog W .any base t v := hval0
  have hW' := hW
  obtain ⟨p, q, hA0, hV, rfl, hfz, hnd⟩ := hW
  have hA : DataW.TrodAll enc Try.prog W 0 (fun _ => true) true Try.f8.params.toList args.toList ds p := hA0
  rw [Try.params8] at hA hval
  obtain ⟨v0, vs0, d0, ds0, p0, q0, hargs, rfl, rfl, h0, r0⟩ := trodAll_cons hA
  obtain ⟨rfl, rfl, rfl⟩ := trodAll_nil r0
  obtain rfl : args = #[v0] := by cases args; simp_all
  obtain ⟨rfl, rfl⟩ := trodVars_none hV
  obtain ⟨a0, len0, cap0, rfl⟩ := okWide_slice Try.underlying22 (hval 0 22 v0 rfl rfl)
  have k0 := h0
  have lt0 : ∀ x ∈ p0, x.block < W.heap.size := by obtain ⟨m, hm⟩ := k0; exact DataW.trod_lt m _ _ _ hm
  obtain ⟨z0, w0⟩ : ∃ zs, IsRow .u8 W a0 len0 cap0 zs := by
    obtain ⟨fuel, hf⟩ := h0
    rcases open_ints Try.underlying22 Try.underlying5 (by kernel_rfl) hf with ⟨hcs, _⟩ | ⟨x, l, c, zs, hcs, _, hl, hm, hz, _, hcell, hwz⟩
    · simp [Value.cells] at hcs
      obtain ⟨rfl, rfl, rfl⟩ := hcs
      exact ⟨[], .inl ⟨rfl, rfl, rfl, rfl⟩⟩
    · simp [Value.cells] at hcs
      obtain ⟨rfl, rfl, rfl⟩ := hcs
      exact ⟨zs, .inr ⟨_, rfl, hl, hm, by simpa using hz, hcell, hwz⟩⟩
  clear hA0 hval0
  refine (walk a0 len0 cap0 z0 W w0).mono fun e W' ⟨he, bel⟩ => ?_
  subst he
  exact ⟨_, rfl, _, _, _, [], _, [], hW', trodAll_mk1 (shut_bool Try.underlying4 _), (trodAll_cons_mk (Below.trod laidOut (by kernel_rfl) (of_decide_eq_true (by kernel_rfl)) k0 bel lt0) trodAll_mk0), rfl, bel.frame _, fun h => by cases h⟩

theorem over : Rows.fnCoreHasEndsRow.holds Try.pinned (OpenSpec.ofChange Rows.fnCoreHasEndsSpec) :=
  OpenClaim.holds_of_wide 8 Try.f8 rfl rfl rfl rfl rfl rfl rfl ⟨rfl, rfl, rfl, rfl, rfl⟩ rfl rfl rfl rfl rfl (by kernel_rfl) Try.func8 (by kernel_rfl)
    (of_decide_eq_true (by kernel_rfl)) (by unfold Func.isWrapper; first | (rw [if_pos (by decide +kernel)]; kernel_rfl) | (rw [if_neg (by decide +kernel)]; exact ⟨rfl, rfl⟩))
    (fun os started H enc _ => lifted os started H enc)

/-- ████ THE STATEMENT ████ -/
theorem proved : Rows.FnCoreHasEndsSaid := over
#print axioms proved
end Go.Proofs.Ytdljfikgmhdedab.fnCoreHasEnds
