/- For every input, the law FnCoreGaps of the given statements returns true over the program at this commit, and its arguments read afterwards as before: no condition. -/
import Derived.Test.YtdljfikgmhdedaaRows
import Derived.Test.YtdljfikgmhdedaaLive
import Derived.Test.YtdljfikgmhdedaaSub
import Derived.WalkKit
import Derived.ProofKit
import Derived.OpenShut
import Derived.ShutString
import Derived.ChangeOld
import Derived.Below
namespace Go.Proofs.Ytdljfikgmhdedaa.fnCoreGaps
open Go.ChangeShapes Go.WideShapes Go.ChangeAt Go.RowKit
open Go.ChangeMaps (open_string shut_string)
set_option linter.unusedVariables false

theorem own : ownKnob Try.prog.godebug = none := by kernel_rfl
theorem laidOut : laidOutB Try.prog = true := by kernel_rfl

/-- WHAT THE WALK IS TOLD OF A SLICE OF INTEGERS THAT CAME IN: it is nil; or it leads to a row of 'cap' cells, the numbers 'zs' (the first 'len' are its elements, the rest its spare room), each fitting its kind. -/
def IsRow (k : IntKind) (w : World) (a : Option Addr) (len cap : Nat) (zs : List Int) : Prop :=
  (a = none ∧ len = 0 ∧ cap = 0 ∧ zs = []) ∨
  ∃ x, a = some x ∧ len ≤ cap ∧ cap ≤ maxLen ∧ zs.length = cap ∧ (∀ i, i < zs.length → w.cell? (x.add i) = some (.int k (zs.getD i 0))) ∧ ∀ n ∈ zs, (Lit.int k n).wf = true

set_option maxRecDepth 100000 in
set_option maxHeartbeats 1600000 in
theorem walk (a0 : Option Addr) (len0 cap0 : Nat) (z0 : List Int) (w : World) (w0 : IsRow .u8 w a0 len0 cap0 z0) :
    Calls Try.prog 6 #[.slice a0 len0 cap0] w fun e w' => e = .returned (.bool true) ∧ Below w.heap.size w w' := by
  have hB := bytes_of w0
  by_cases hl : 1048576 < len0
  · have hdec : decide (1048576 < len0) = true := by simpa using hl
    go_enter Try.func6, Try.ntmps6
    go_wp2_with fail
    go_ret
    exact ⟨rfl, Below.refl _ _⟩
  have hdec : decide (1048576 < len0) = false := by simpa using hl
  have hm : len0 ≤ 1048576 := by omega
  go_enter Try.func6, Try.ntmps6
  go_wp2_with fail
  refine (DrawCoreGaps_any hB).mono ?_
  rintro e u1 ⟨v, l, rfl, ho, hbd, b1⟩
  clear w0 hB
  have R := Lib.hid ho.row
  have BD := Lib.hid hbd
  have B := Lib.hid b1
  clear ho hbd b1
  obtain ⟨gl, hgl⟩ : ∃ gl, gapsOf l = gl := ⟨_, rfl⟩
  have HG := Lib.hid hgl
  clear hgl
  go_wp2_with fail
  refine (lst_is (implCoreGaps_any R.out) HG.out).mono ?_
  rintro e u2 ⟨v1, rfl, r2, b2⟩
  replace R := Lib.hid (R.out.grow b2)
  replace B := Lib.hid (B.out.trans (b2.mono B.out.size))
  have R1 := Lib.hid r2
  clear r2
  clear b2
  go_wp2_with fail
  refine (lst_is (specCoreGaps_any R.out) HG.out).mono ?_
  rintro e u3 ⟨v2, rfl, r3, b3⟩
  replace R := Lib.hid (R.out.grow b3)
  replace R1 := Lib.hid (R1.out.grow b3)
  replace B := Lib.hid (B.out.trans (b3.mono B.out.size))
  have R2 := Lib.hid r3
  clear r3
  clear b3
  go_wp2_with fail
  refine (same_yes R1.out R2.out rfl).mono ?_
  rintro e u4 ⟨rfl, b4⟩
  replace R := Lib.hid (R.out.grow b4)
  replace R1 := Lib.hid (R1.out.grow b4)
  replace R2 := Lib.hid (R2.out.grow b4)
  replace B := Lib.hid (B.out.trans (b4.mono B.out.size))
  clear b4
  obtain ⟨a1, c1, rfl, hc1, hc2⟩ := R1.out.len
  unfold maxLen at hc2
  have hg30 : gl.length ≤ 30 := by have h1 := gaps_length_le l; have h2 := BD.out.1; rw [← HG.out, gapsOf]; split <;> simp <;> omega
  by_cases h0 : gl.length = 0
  · rw [h0] at R1
    have H0 := Lib.hid h0
    clear h0
    simp only [H0.out]
    go_wp2_with fail
    refine (same_yes R1.out R2.out rfl).mono ?_
    rintro e u5 ⟨rfl, b5⟩
    replace R := Lib.hid (R.out.grow b5)
    replace R1 := Lib.hid (R1.out.grow b5)
    replace R2 := Lib.hid (R2.out.grow b5)
    replace B := Lib.hid (B.out.trans (b5.mono B.out.size))
    clear b5
    go_wp2_with fail
    go_ret
    exact ⟨rfl, B.out⟩
  have hz : ((gl.length : Int) == 0) = false := by rw [beq_eq_false_iff_ne]; omega
  have CL : Hid (isCore l = true) := Lib.hid (by
    cases hv : isCore l
    · exfalso; apply h0; rw [← HG.out, gapsOf, if_neg (by rw [hv]; simp)]; rfl
    · rfl)
  have GG : Hid (gl = gaps l) := Lib.hid (by rw [← HG.out, gapsOf_is CL.out])
  have CG : Hid (isCore gl = true) := Lib.hid (by rw [GG.out]; exact gaps_core CL.out)
  have hl0 : 0 < l.length := by have h := gaps_length_le l; rw [← GG.out] at h; omega
  have hlg : (gl.length : Int) < (l.length : Int) := by have h := gaps_length (l := l) (by intro e; subst e; simp at hl0); rw [← GG.out] at h; omega
  have hl30 : l.length ≤ 30 := BD.out.1
  obtain ⟨ga, oa, ca, rfl, hb1, hb2⟩ := R.out.known hl0
  unfold maxLen at hb2
  have hv := (isCore_iff.1 CL.out).2
  obtain ⟨f1, f2, f3⟩ := hv.get 0 hl0
  obtain ⟨e1, e2, e3⟩ := hv.get (l.length - 1) (by omega)
  have HASH : Hid (∀ x : Int, l[0].1 ≤ x → x < l[l.length - 1].2 → hd x l = !hd x gl) := Lib.hid (by
    intro x x0 x1
    rw [GG.out]
    cases l with
    | nil => simp at hl0
    | cons p r =>
      refine gaps_has hv x0 ?_
      have := lastB_get (e := p.1) (l := p :: r) (by simp)
      simp only [lastB] at this
      rw [this]; exact x1)
  obtain ⟨d1, d2⟩ := R.out.cells 0 hl0
  simp only [Nat.zero_mul, Nat.add_zero] at d1 d2
  clear hv h0
  go_wp2_with fail
  clear d1 d2
  go_loopg [6] (l[l.length - 1].2 - l[0].1).toNat (fun n y wr => ∃ x : Int, y = .int .i64 x ∧ (l[l.length - 1].2 - x).toNat = n ∧ l[0].1 ≤ x ∧ Row wr (.slice (some ⟨ga, oa, none⟩) l.length ca) l ∧ Row wr (.slice a1 gl.length c1) gl ∧ Below w.heap.size w wr)
  case atStart => exact ⟨l[0].1, rfl, rfl, Int.le_refl _, R.out, R1.out, B.out⟩
  case round =>
    obtain ⟨x, rfl, hn, x0, hr, hr1, hbe⟩ := hrel
    have K := Lib.hid hn
    clear R R1 R2 B
    have R := Lib.hid hr; have R1 := Lib.hid hr1; have B := Lib.hid hbe
    clear hn hr hr1 hbe
    obtain ⟨d1, d2⟩ := R.out.cells (l.length - 1) (by omega)
    by_cases hlt : x < l[l.length - 1].2
    · have hh := HASH.out x x0 hlt
      obtain ⟨p, hp⟩ : ∃ p, hd x gl = p := ⟨_, rfl⟩
      rw [hp] at hh
      have HP := Lib.hid hp; have HH := Lib.hid hh
      clear hp hh
      go_wp2_with fail
      refine (val_is (hasDepth_any x R.out) (congrArg Value.bool HH.out)).mono ?_
      rintro e u6 ⟨rfl, b6⟩
      replace R := Lib.hid (R.out.grow b6)
      replace R1 := Lib.hid (R1.out.grow b6)
      replace B := Lib.hid (B.out.trans (b6.mono B.out.size))
      clear b6
      go_wp2_with fail
      refine (val_is (hasDepth_any x R1.out) (congrArg Value.bool HP.out)).mono ?_
      rintro e u7 ⟨rfl, b7⟩
      replace R := Lib.hid (R.out.grow b7)
      replace R1 := Lib.hid (R1.out.grow b7)
      replace B := Lib.hid (B.out.trans (b7.mono B.out.size))
      clear b7
      have hpp : ((!p) == p) = false := by cases p <;> rfl
      clear d1 d2
      go_wp2_with fail
      go_roundg (gk - 1)
      case measure => have := K.out; omega
      case rel => exact ⟨x + 1, by go_num, by have := K.out; omega, by omega, R.out, R1.out, B.out⟩
    · skip
      go_wp2_with fail
      refine (val_is (implCoreValid_any R1.out) (show _ = Value.bool true by rw [CG.out])).mono ?_
      rintro e u8 ⟨rfl, b8⟩
      replace R := Lib.hid (R.out.grow b8)
      replace R1 := Lib.hid (R1.out.grow b8)
      replace B := Lib.hid (B.out.trans (b8.mono B.out.size))
      clear b8
      go_wp2_with fail
      go_ret
      exact ⟨by simp, B.out⟩

set_option maxRecDepth 100000 in
theorem lifted (os : Os) (started : os.Started) (H : Type) (enc : TypeId × Value → H) :
    ReturnsInHanded {} Try.checked os 6 .any (Rows.fnCoreGapsSpec.pre6 enc Try.prog Try.f6 Rows.fnCoreGapsRow.domain false) (Rows.fnCoreGapsSpec.post enc Try.prog Try.f6 false true false false) := by
  refine returnsInHanded_of_change (C := Try.checked) own started (by kernel_rfl) Try.func6
    (ChangeSpec.witness6 (enc := enc) (C := Try.checked) false ⟨#[], #[.slice none 0 0], []⟩ 8 (by kernel_rfl) (by kernel_rfl) (by kernel_rfl) (by kernel_rfl)) ?_
  intro W base args ds gs before hval0 hW hcnd _
  have hval : ∀ (j : Nat) t v, Try.f6.params[j]? = some t → args[j]? = some v → Value.okWide Try.prog W .any base t v := hval0
  have hW' := hW
  obtain ⟨p, q, hA0, hV, rfl, hfz, hnd⟩ := hW
  have hA : DataW.TrodAll enc Try.prog W 0 (fun _ => true) true Try.f6.params.toList args.toList ds p := hA0
  rw [Try.params6] at hA hval
  obtain ⟨v0, vs0, d0, ds0, p0, q0, hargs, rfl, rfl, h0, r0⟩ := trodAll_cons hA
  obtain ⟨rfl, rfl, rfl⟩ := trodAll_nil r0
  obtain rfl : args = #[v0] := by cases args; simp_all
  obtain ⟨rfl, rfl⟩ := trodVars_none hV
  obtain ⟨a0, len0, cap0, rfl⟩ := okWide_slice Try.underlying22 (hval 0 22 v0 rfl rfl)
  have k0 := h0
  have lt0 : ∀ x ∈ p0, x.block < W.heap.size := by obtain ⟨m, hm⟩ := k0; exact DataW.trod_lt m _ _ _ hm
  obtain ⟨z0, w0⟩ : ∃ zs, IsRow .u8 W a0 len0 cap0 zs := by
    obtain ⟨fuel, hf⟩ := h0
    rcases open_ints Try.underlying22 Try.underlying5 (by kernel_rfl) hf with ⟨hcs, _⟩ | ⟨x, l, c, zs, hcs, _, hl, hm, hz, _, hcell, hwz⟩
    · simp [Value.cells] at hcs
      obtain ⟨rfl, rfl, rfl⟩ := hcs
      exact ⟨[], .inl ⟨rfl, rfl, rfl, rfl⟩⟩
    · simp [Value.cells] at hcs
      obtain ⟨rfl, rfl, rfl⟩ := hcs
      exact ⟨zs, .inr ⟨_, rfl, hl, hm, by simpa using hz, hcell, hwz⟩⟩
  clear hA0 hval0
  refine (walk a0 len0 cap0 z0 W w0).mono fun e W' ⟨he, bel⟩ => ?_
  subst he
  exact ⟨_, rfl, _, _, _, [], _, [], hW', trodAll_mk1 (shut_bool Try.underlying4 _), (trodAll_cons_mk (Below.trod laidOut (by kernel_rfl) (of_decide_eq_true (by kernel_rfl)) k0 bel lt0) trodAll_mk0), rfl, bel.frame _, fun h => by cases h⟩

theorem over : Rows.fnCoreGapsRow.holds Try.pinned (OpenSpec.ofChange Rows.fnCoreGapsSpec) :=
  OpenClaim.holds_of_wide 6 Try.f6 rfl rfl rfl rfl rfl rfl rfl ⟨rfl, rfl, rfl, rfl, rfl⟩ rfl rfl rfl rfl rfl (by kernel_rfl) Try.func6 (by kernel_rfl)
    (of_decide_eq_true (by kernel_rfl)) (by unfold Func.isWrapper; first | (rw [if_pos (by decide +kernel)]; kernel_rfl) | (rw [if_neg (by decide +kernel)]; exact ⟨rfl, rfl⟩))
    (fun os started H enc _ => lifted os started H enc)

/-- ████ THE STATEMENT ████ -/
theorem proved : Rows.FnCoreGapsSaid := over
#print axioms proved
end Go.Proofs.Ytdljfikgmhdedaa.fnCoreGaps
