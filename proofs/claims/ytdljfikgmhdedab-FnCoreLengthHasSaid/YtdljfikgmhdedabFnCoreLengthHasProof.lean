/- For every input, the law FnCoreLengthHas of the given statements returns true over the program at this commit, and its arguments read afterwards as before: no condition. -/
import Derived.Test.YtdljfikgmhdedabRows
import Derived.Test.YtdljfikgmhdedabLive
import Derived.Test.YtdljfikgmhdedabSub
import Derived.WalkKit
import Derived.ProofKit
import Derived.OpenShut
import Derived.ShutString
import Derived.ChangeOld
import Derived.Below
namespace Go.Proofs.Ytdljfikgmhdedab.fnCoreLengthHas
open Go.ChangeShapes Go.WideShapes Go.ChangeAt Go.RowKit
open Go.ChangeMaps (open_string shut_string)
set_option linter.unusedVariables false

theorem own : ownKnob Try.prog.godebug = none := by kernel_rfl
theorem laidOut : laidOutB Try.prog = true := by kernel_rfl

/-- WHAT THE WALK IS TOLD OF A SLICE OF INTEGERS THAT CAME IN: it is nil; or it leads to a row of 'cap' cells, the numbers 'zs' (the first 'len' are its elements, the rest its spare room), each fitting its kind. -/
def IsRow (k : IntKind) (w : World) (a : Option Addr) (len cap : Nat) (zs : List Int) : Prop :=
  (a = none ∧ len = 0 ∧ cap = 0 ∧ zs = []) ∨
  ∃ x, a = some x ∧ len ≤ cap ∧ cap ≤ maxLen ∧ zs.length = cap ∧ (∀ i, i < zs.length → w.cell? (x.add i) = some (.int k (zs.getD i 0))) ∧ ∀ n ∈ zs, (Lit.int k n).wf = true

set_option maxRecDepth 100000 in
set_option maxHeartbeats 1600000 in
theorem walk (a0 : Option Addr) (len0 cap0 : Nat) (z0 : List Int) (w : World) (w0 : IsRow .u8 w a0 len0 cap0 z0) :
    Calls Try.prog 9 #[.slice a0 len0 cap0] w fun e w' => e = .returned (.bool true) ∧ Below w.heap.size w w' := by
  have hB := bytes_of w0
  by_cases hl : 1048576 < len0
  · have hdec : decide (1048576 < len0) = true := by simpa using hl
    go_enter Try.func9, Try.ntmps9
    go_wp2_with fail
    go_ret
    exact ⟨rfl, Below.refl _ _⟩
  have hdec : decide (1048576 < len0) = false := by simpa using hl
  have hm : len0 ≤ 1048576 := by omega
  go_enter Try.func9, Try.ntmps9
  go_wp2_with fail
  refine (DrawCoreLength_any hB).mono ?_
  rintro e u1 ⟨v, l, rfl, ho, hbd, b1⟩
  clear w0 hB
  have R := Lib.hid ho.row
  have BD := Lib.hid hbd
  have B := Lib.hid b1
  clear ho hbd b1
  obtain ⟨x, hx⟩ : ∃ x, lenOf l = x := ⟨_, rfl⟩
  have HX := Lib.hid hx
  clear hx
  by_cases h0 : x < 0
  · skip
    go_wp2_with fail
    refine (val_is (implCoreLength_any R.out) (show _ = Value.int .i64 x by rw [HX.out])).mono ?_
    rintro e u2 ⟨rfl, b2⟩
    replace R := Lib.hid (R.out.grow b2)
    replace B := Lib.hid (B.out.trans (b2.mono B.out.size))
    clear b2
    go_wp2_with fail
    refine (val_is (specCoreLength_any R.out) (show _ = Value.int .i64 x by rw [HX.out])).mono ?_
    rintro e u3 ⟨rfl, b3⟩
    replace R := Lib.hid (R.out.grow b3)
    replace B := Lib.hid (B.out.trans (b3.mono B.out.size))
    clear b3
    go_wp2_with fail
    go_ret
    exact ⟨by simp, B.out⟩
  have CC := lenOf_core (l := l) (by rw [HX.out]; omega)
  have CL := Lib.hid CC.1
  have LX : Hid (len l = x) := Lib.hid (by rw [← CC.2, HX.out])
  have hl30 : l.length ≤ 30 := BD.out.1
  clear CC
  go_wp2_with fail
  refine (val_is (implCoreLength_any R.out) (show _ = Value.int .i64 x by rw [HX.out])).mono ?_
  rintro e u4 ⟨rfl, b4⟩
  replace R := Lib.hid (R.out.grow b4)
  replace B := Lib.hid (B.out.trans (b4.mono B.out.size))
  clear b4
  go_wp2_with fail
  refine (val_is (specCoreLength_any R.out) (show _ = Value.int .i64 x by rw [HX.out])).mono ?_
  rintro e u5 ⟨rfl, b5⟩
  replace R := Lib.hid (R.out.grow b5)
  replace B := Lib.hid (B.out.trans (b5.mono B.out.size))
  clear b5
  by_cases hl0 : 0 < l.length
  rotate_left
  · have hln : l = [] := List.eq_nil_of_length_eq_zero (by omega)
    have hx0 : x = 0 := by rw [← LX.out, hln]; rfl
    obtain ⟨a0', c0', rfl, hc1, hc2⟩ := R.out.len
    subst hx0
    have hz : ¬ (0 : Int) < (l.length : Int) := by omega
    clear hln hl0
    go_wp2_with fail
    go_ret
    exact ⟨by simp, B.out⟩
  obtain ⟨ga, oa, ca, rfl, hb1, hb2⟩ := R.out.known hl0
  unfold maxLen at hb2
  have hv := (isCore_iff.1 CL.out).2
  obtain ⟨f1, f2, f3⟩ := hv.get 0 hl0
  obtain ⟨e1, e2, e3⟩ := hv.get (l.length - 1) (by omega)
  have SPAN := Lib.hid (bt_span hv hl0)
  have fl := first_last hv hl0
  have HV := Lib.hid hv
  obtain ⟨d1, d2⟩ := R.out.cells 0 hl0
  simp only [Nat.zero_mul, Nat.add_zero] at d1 d2
  have hz : (0 : Int) < (l.length : Int) := by omega
  clear hv
  go_wp2_with fail
  clear d1 d2
  go_loopg [6, 7] (l[l.length - 1].2 - l[0].1).toNat (fun n z y wr => ∃ (q c : Int), y = .int .i64 q ∧ z = .int .i64 c ∧ (l[l.length - 1].2 - q).toNat = n ∧ l[0].1 ≤ q ∧ q ≤ l[l.length - 1].2 ∧ 0 ≤ c ∧ c ≤ q ∧ c = len (bt l[0].1 q l) ∧ Row wr (.slice (some ⟨ga, oa, none⟩) l.length ca) l ∧ Below w.heap.size w wr)
  case atStart => exact ⟨l[0].1, 0, rfl, rfl, rfl, Int.le_refl _, fl, Int.le_refl _, f1, by rw [bt_none]; rfl, R.out, B.out⟩
  case round =>
    obtain ⟨q, c, rfl, rfl, hn, q0, q1, c0, c1, hc, hr, hbe⟩ := hrel
    have K := Lib.hid hn; have HC := Lib.hid hc
    clear R B
    have R := Lib.hid hr; have B := Lib.hid hbe
    clear hn hr hbe hc
    obtain ⟨d1, d2⟩ := R.out.cells (l.length - 1) (by omega)
    by_cases hlt : q < l[l.length - 1].2
    · obtain ⟨i, hi⟩ : ∃ i, ix q l = i := ⟨_, rfl⟩
      have HI := Lib.hid hi
      have st := bt_step HV.out q0
      by_cases hi0 : 0 ≤ i
      · have hst := st.1 ((hd_iff q l).2 (by rw [hi]; exact hi0))
        have HS := Lib.hid hst
        clear st hst hi
        go_wp2_with fail
        refine (val_is (implCoreHas_any q R.out) (show _ = Value.int .i64 i by rw [hasOf_is CL.out, HI.out])).mono ?_
        rintro e u6 ⟨rfl, b6⟩
        replace R := Lib.hid (R.out.grow b6)
        replace B := Lib.hid (B.out.trans (b6.mono B.out.size))
        clear b6
        clear d1 d2
        go_wp2_with fail
        go_roundg (gk - 1)
        case measure => have := K.out; omega
        case rel => exact ⟨q + 1, c + 1, by go_num, by go_num, by have := K.out; omega, by omega, by omega, by omega, by omega, by have h1 := HC.out; have h2 := HS.out; omega, R.out, B.out⟩
      · have hst := st.2 (Bool.eq_false_iff.2 (fun hh => hi0 (by rw [← hi]; exact (hd_iff q l).1 hh)))
        have HS := Lib.hid hst
        clear st hst hi
        go_wp2_with fail
        refine (val_is (implCoreHas_any q R.out) (show _ = Value.int .i64 i by rw [hasOf_is CL.out, HI.out])).mono ?_
        rintro e u7 ⟨rfl, b7⟩
        replace R := Lib.hid (R.out.grow b7)
        replace B := Lib.hid (B.out.trans (b7.mono B.out.size))
        clear b7
        clear d1 d2
        go_wp2_with fail
        go_roundg (gk - 1)
        case measure => have := K.out; omega
        case rel => exact ⟨q + 1, c, by go_num, by go_num, by have := K.out; omega, by omega, by omega, by omega, by omega, by have h1 := HC.out; have h2 := HS.out; omega, R.out, B.out⟩
    · have hq : q = l[l.length - 1].2 := by omega
      have hcx : (c == x) = true := by rw [beq_iff_eq, HC.out, hq, SPAN.out, LX.out]
      clear hq
      go_wp2_with fail
      go_ret
      exact ⟨by simp, B.out⟩

set_option maxRecDepth 100000 in
theorem lifted (os : Os) (started : os.Started) (H : Type) (enc : TypeId × Value → H) :
    ReturnsInHanded {} Try.checked os 9 .any (Rows.fnCoreLengthHasSpec.pre6 enc Try.prog Try.f9 Rows.fnCoreLengthHasRow.domain false) (Rows.fnCoreLengthHasSpec.post enc Try.prog Try.f9 false true false false) := by
  refine returnsInHanded_of_change (C := Try.checked) own started (by kernel_rfl) Try.func9
    (ChangeSpec.witness6 (enc := enc) (C := Try.checked) false ⟨#[], #[.slice none 0 0], []⟩ 8 (by kernel_rfl) (by kernel_rfl) (by kernel_rfl) (by kernel_rfl)) ?_
  intro W base args ds gs before hval0 hW hcnd _
  have hval : ∀ (j : Nat) t v, Try.f9.params[j]? = some t → args[j]? = some v → Value.okWide Try.prog W .any base t v := hval0
  have hW' := hW
  obtain ⟨p, q, hA0, hV, rfl, hfz, hnd⟩ := hW
  have hA : DataW.TrodAll enc Try.prog W 0 (fun _ => true) true Try.f9.params.toList args.toList ds p := hA0
  rw [Try.params9] at hA hval
  obtain ⟨v0, vs0, d0, ds0, p0, q0, hargs, rfl, rfl, h0, r0⟩ := trodAll_cons hA
  obtain ⟨rfl, rfl, rfl⟩ := trodAll_nil r0
  obtain rfl : args = #[v0] := by cases args; simp_all
  obtain ⟨rfl, rfl⟩ := trodVars_none hV
  obtain ⟨a0, len0, cap0, rfl⟩ := okWide_slice Try.underlying22 (hval 0 22 v0 rfl rfl)
  have k0 := h0
  have lt0 : ∀ x ∈ p0, x.block < W.heap.size := by obtain ⟨m, hm⟩ := k0; exact DataW.trod_lt m _ _ _ hm
  obtain ⟨z0, w0⟩ : ∃ zs, IsRow .u8 W a0 len0 cap0 zs := by
    obtain ⟨fuel, hf⟩ := h0
    rcases open_ints Try.underlying22 Try.underlying5 (by kernel_rfl) hf with ⟨hcs, _⟩ | ⟨x, l, c, zs, hcs, _, hl, hm, hz, _, hcell, hwz⟩
    · simp [Value.cells] at hcs
      obtain ⟨rfl, rfl, rfl⟩ := hcs
      exact ⟨[], .inl ⟨rfl, rfl, rfl, rfl⟩⟩
    · simp [Value.cells] at hcs
      obtain ⟨rfl, rfl, rfl⟩ := hcs
      exact ⟨zs, .inr ⟨_, rfl, hl, hm, by simpa using hz, hcell, hwz⟩⟩
  clear hA0 hval0
  refine (walk a0 len0 cap0 z0 W w0).mono fun e W' ⟨he, bel⟩ => ?_
  subst he
  exact ⟨_, rfl, _, _, _, [], _, [], hW', trodAll_mk1 (shut_bool Try.underlying4 _), (trodAll_cons_mk (Below.trod laidOut (by kernel_rfl) (of_decide_eq_true (by kernel_rfl)) k0 bel lt0) trodAll_mk0), rfl, bel.frame _, fun h => by cases h⟩

theorem over : Rows.fnCoreLengthHasRow.holds Try.pinned (OpenSpec.ofChange Rows.fnCoreLengthHasSpec) :=
  OpenClaim.holds_of_wide 9 Try.f9 rfl rfl rfl rfl rfl rfl rfl ⟨rfl, rfl, rfl, rfl, rfl⟩ rfl rfl rfl rfl rfl (by kernel_rfl) Try.func9 (by kernel_rfl)
    (of_decide_eq_true (by kernel_rfl)) (by unfold Func.isWrapper; first | (rw [if_pos (by decide +kernel)]; kernel_rfl) | (rw [if_neg (by decide +kernel)]; exact ⟨rfl, rfl⟩))
    (fun os started H enc _ => lifted os started H enc)

/-- ████ THE STATEMENT ████ -/
theorem proved : Rows.FnCoreLengthHasSaid := over
#print axioms proved
end Go.Proofs.Ytdljfikgmhdedab.fnCoreLengthHas
