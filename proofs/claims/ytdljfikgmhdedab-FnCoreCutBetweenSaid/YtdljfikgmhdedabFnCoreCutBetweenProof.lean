/- For every input, the law FnCoreCutBetween of the given statements returns true over the program at this commit, and its arguments read afterwards as before: no condition. -/
import Derived.Test.YtdljfikgmhdedabRows
import Derived.Test.YtdljfikgmhdedabLive
import Derived.Test.YtdljfikgmhdedabSub
import Derived.WalkKit
import Derived.ProofKit
import Derived.OpenShut
import Derived.ShutString
import Derived.ChangeOld
import Derived.Below
namespace Go.Proofs.Ytdljfikgmhdedab.fnCoreCutBetween
open Go.ChangeShapes Go.WideShapes Go.ChangeAt Go.RowKit
open Go.ChangeMaps (open_string shut_string)
set_option linter.unusedVariables false

theorem own : ownKnob Try.prog.godebug = none := by kernel_rfl
theorem laidOut : laidOutB Try.prog = true := by kernel_rfl

/-- WHAT THE WALK IS TOLD OF A SLICE OF INTEGERS THAT CAME IN: it is nil; or it leads to a row of 'cap' cells, the numbers 'zs' (the first 'len' are its elements, the rest its spare room), each fitting its kind. -/
def IsRow (k : IntKind) (w : World) (a : Option Addr) (len cap : Nat) (zs : List Int) : Prop :=
  (a = none ∧ len = 0 ∧ cap = 0 ∧ zs = []) ∨
  ∃ x, a = some x ∧ len ≤ cap ∧ cap ≤ maxLen ∧ zs.length = cap ∧ (∀ i, i < zs.length → w.cell? (x.add i) = some (.int k (zs.getD i 0))) ∧ ∀ n ∈ zs, (Lit.int k n).wf = true

set_option maxRecDepth 100000 in
set_option maxHeartbeats 1600000 in
theorem walk (a0 : Option Addr) (len0 cap0 : Nat) (z0 : List Int) (w : World) (w0 : IsRow .u8 w a0 len0 cap0 z0) :
    Calls Try.prog 7 #[.slice a0 len0 cap0] w fun e w' => e = .returned (.bool true) ∧ Below w.heap.size w w' := by
  have hB := bytes_of w0
  by_cases hl : 1048576 < len0
  · have hdec : decide (1048576 < len0) = true := by simpa using hl
    go_enter Try.func7, Try.ntmps7
    go_wp2_with fail
    go_ret
    exact ⟨rfl, Below.refl _ _⟩
  have hdec : decide (1048576 < len0) = false := by simpa using hl
  have hm : len0 ≤ 1048576 := by omega
  go_enter Try.func7, Try.ntmps7
  go_wp2_with fail
  refine (DrawCoreCut_any hB).mono ?_
  rintro e u1 ⟨v, l, d, rfl, ho, hbd, hd1, b1⟩
  clear w0 hB
  have R := Lib.hid ho.row
  have BD := Lib.hid hbd
  have B := Lib.hid b1
  clear ho hbd b1
  cases hc : cutOf d l with
  | none =>
    have HC := Lib.hid hc
    clear hc
    go_wp2_with fail
    refine (lstb_no (implCoreCut_any d R.out) HC.out).mono ?_
    rintro e u2 ⟨v1, rfl, r2, b2⟩
    replace R := Lib.hid (R.out.grow b2)
    replace B := Lib.hid (B.out.trans (b2.mono B.out.size))
    have R1 := Lib.hid r2
    clear r2
    clear b2
    go_wp2_with fail
    refine (lstb_no (specCoreCut_any d R.out) HC.out).mono ?_
    rintro e u3 ⟨v2, rfl, r3, b3⟩
    replace R := Lib.hid (R.out.grow b3)
    replace R1 := Lib.hid (R1.out.grow b3)
    replace B := Lib.hid (B.out.trans (b3.mono B.out.size))
    have R2 := Lib.hid r3
    clear r3
    clear b3
    go_wp2_with fail
    refine (same_yes R1.out R2.out rfl).mono ?_
    rintro e u4 ⟨rfl, b4⟩
    replace R := Lib.hid (R.out.grow b4)
    replace R1 := Lib.hid (R1.out.grow b4)
    replace R2 := Lib.hid (R2.out.grow b4)
    replace B := Lib.hid (B.out.trans (b4.mono B.out.size))
    clear b4
    go_wp2_with fail
    refine (same_yes R1.out R2.out rfl).mono ?_
    rintro e u5 ⟨rfl, b5⟩
    replace R := Lib.hid (R.out.grow b5)
    replace R1 := Lib.hid (R1.out.grow b5)
    replace R2 := Lib.hid (R2.out.grow b5)
    replace B := Lib.hid (B.out.trans (b5.mono B.out.size))
    clear b5
    go_wp2_with fail
    go_ret
    exact ⟨rfl, B.out⟩
  | some m =>
    have HC := Lib.hid hc
    clear hc
    go_wp2_with fail
    refine (lstb_yes (implCoreCut_any d R.out) HC.out).mono ?_
    rintro e u6 ⟨v1, rfl, r6, b6⟩
    replace R := Lib.hid (R.out.grow b6)
    replace B := Lib.hid (B.out.trans (b6.mono B.out.size))
    have R1 := Lib.hid r6
    clear r6
    clear b6
    go_wp2_with fail
    refine (lstb_yes (specCoreCut_any d R.out) HC.out).mono ?_
    rintro e u7 ⟨v2, rfl, r7, b7⟩
    replace R := Lib.hid (R.out.grow b7)
    replace R1 := Lib.hid (R1.out.grow b7)
    replace B := Lib.hid (B.out.trans (b7.mono B.out.size))
    have R2 := Lib.hid r7
    clear r7
    clear b7
    go_wp2_with fail
    refine (same_yes R1.out R2.out rfl).mono ?_
    rintro e u8 ⟨rfl, b8⟩
    replace R := Lib.hid (R.out.grow b8)
    replace R1 := Lib.hid (R1.out.grow b8)
    replace R2 := Lib.hid (R2.out.grow b8)
    replace B := Lib.hid (B.out.trans (b8.mono B.out.size))
    clear b8
    have CM := Lib.hid (cut_core HC.out)
    have CL := Lib.hid (cutOf_some HC.out).1
    have CT := Lib.hid (cutOf_some HC.out).2.2
    have hvl := (isCore_iff.1 CL.out).2
    have hd0 : 0 ≤ d := ct_ge CT.out hvl
    have hd3 : d ≤ 30000 := by
      refine ct_ind (P := fun l _ => ∀ e, V e l → d ≤ 30000) ?_ ?_ CT.out 0 hvl
      · intro p l h1 h2 e hv; have := hv.2.2.1; omega
      · intro p l m _ _ ih e hv; exact ih _ hv.2.2.2
    have HV := Lib.hid (ct_halves CT.out hvl (Int.le_refl 0))
    have JO := Lib.hid (bt_ct CT.out hvl (Int.le_refl 0))
    obtain ⟨x, hx⟩ : ∃ x, bt 0 d m = x := ⟨_, rfl⟩
    obtain ⟨y, hy⟩ : ∃ y, bt d 30000 m = y := ⟨_, rfl⟩
    rw [hx, hy] at HV JO
    have hx0 : 0 < x.length := List.length_pos_iff.2 HV.out.1
    have hy0 : 0 < y.length := List.length_pos_iff.2 HV.out.2
    have hx20 : x.length ≤ 20 := by have := bt_length 0 d m; have := (isCore_iff.1 CM.out).1; rw [hx] at *; omega
    have hy20 : y.length ≤ 20 := by have := bt_length d 30000 m; have := (isCore_iff.1 CM.out).1; rw [hy] at *; omega
    have HX := Lib.hid hx; have HY := Lib.hid hy
    clear hx hy hvl
    go_wp2_with fail
    refine (lstb_yes (implCoreBetween_any 0 d R1.out) (show _ = some x by rw [btOf_is CM.out (by omega) (by omega) (by omega), HX.out])).mono ?_
    rintro e u9 ⟨v3, rfl, r9, b9⟩
    replace R := Lib.hid (R.out.grow b9)
    replace R1 := Lib.hid (R1.out.grow b9)
    replace R2 := Lib.hid (R2.out.grow b9)
    replace B := Lib.hid (B.out.trans (b9.mono B.out.size))
    have R3 := Lib.hid r9
    clear r9
    clear b9
    go_wp2_with fail
    refine (lstb_yes (implCoreBetween_any d 30000 R1.out) (show _ = some y by rw [btOf_is CM.out (by omega) (by omega) (by omega), HY.out])).mono ?_
    rintro e u10 ⟨v4, rfl, r10, b10⟩
    replace R := Lib.hid (R.out.grow b10)
    replace R1 := Lib.hid (R1.out.grow b10)
    replace R2 := Lib.hid (R2.out.grow b10)
    replace R3 := Lib.hid (R3.out.grow b10)
    replace B := Lib.hid (B.out.trans (b10.mono B.out.size))
    have R4 := Lib.hid r10
    clear r10
    clear b10
    obtain ⟨g3, o3, c3, rfl, hc3, hc3'⟩ := R3.out.known hx0
    obtain ⟨g4, o4, c4, rfl, hc4, hc4'⟩ := R4.out.known hy0
    unfold maxLen at hc3' hc4'
    obtain ⟨W, hW⟩ : ∃ W : World, W = u10 := ⟨_, rfl⟩
    have OW := Lib.hid (own_new (w := u10) (B := u10.heap.size) (Nat.le_refl _))
    have BA := Lib.hid ((Below.refl u10.heap.size u10).alloc (Nat.le_refl _) (.cells #[] 39))
    clear hW W
    have N1 := Lib.hid (lies_news (fun i hi => (R3.out.grow BA.out).cells i hi))
    go_wp2_with (first | (at_builtin; refine append_list_g (by kernel_rfl) _ _ rfl (B := u10.heap.size) _ [] rfl OW.out ⟨g3, o3, none⟩ x.length _ x rfl rfl N1.out (by simp; omega) (by simp) ?_; intro va wa hown2 hg2; have O2 : Hid (Own wa u10.heap.size va x) := Lib.hid hown2; have BK := Lib.hid (keep_new hg2); clear hown2 hg2; have hsa := BK.out.size; have N2 := Lib.hid (lies_news (fun i hi => (R4.out.grow BK.out).cells i hi))) | (at_builtin; refine append_list_g (by kernel_rfl) _ _ rfl (B := u10.heap.size) _ x rfl O2.out ⟨g4, o4, none⟩ y.length _ y rfl rfl N2.out (by omega) hsa ?_; intro vb wb hown3 hg3; have O3 : Hid (Own wb u10.heap.size vb (x ++ y)) := Lib.hid hown3; have Bb := Lib.hid (BK.out.trans (O2.out.below hg3 hsa)); clear hown3 hg3))
    replace R1 := Lib.hid (R1.out.grow Bb.out)
    replace B := Lib.hid (B.out.trans (Bb.out.mono B.out.size))
    clear R R2 R3 R4
    go_wp2_with fail
    refine (same_yes O3.out.row R1.out JO.out).mono ?_
    rintro e u11 ⟨rfl, b11⟩
    replace R1 := Lib.hid (R1.out.grow b11)
    replace B := Lib.hid (B.out.trans (b11.mono B.out.size))
    clear b11
    go_wp2_with fail
    go_ret
    exact ⟨by simp, B.out⟩

set_option maxRecDepth 100000 in
theorem lifted (os : Os) (started : os.Started) (H : Type) (enc : TypeId × Value → H) :
    ReturnsInHanded {} Try.checked os 7 .any (Rows.fnCoreCutBetweenSpec.pre6 enc Try.prog Try.f7 Rows.fnCoreCutBetweenRow.domain false) (Rows.fnCoreCutBetweenSpec.post enc Try.prog Try.f7 false true false false) := by
  refine returnsInHanded_of_change (C := Try.checked) own started (by kernel_rfl) Try.func7
    (ChangeSpec.witness6 (enc := enc) (C := Try.checked) false ⟨#[], #[.slice none 0 0], []⟩ 8 (by kernel_rfl) (by kernel_rfl) (by kernel_rfl) (by kernel_rfl)) ?_
  intro W base args ds gs before hval0 hW hcnd _
  have hval : ∀ (j : Nat) t v, Try.f7.params[j]? = some t → args[j]? = some v → Value.okWide Try.prog W .any base t v := hval0
  have hW' := hW
  obtain ⟨p, q, hA0, hV, rfl, hfz, hnd⟩ := hW
  have hA : DataW.TrodAll enc Try.prog W 0 (fun _ => true) true Try.f7.params.toList args.toList ds p := hA0
  rw [Try.params7] at hA hval
  obtain ⟨v0, vs0, d0, ds0, p0, q0, hargs, rfl, rfl, h0, r0⟩ := trodAll_cons hA
  obtain ⟨rfl, rfl, rfl⟩ := trodAll_nil r0
  obtain rfl : args = #[v0] := by cases args; simp_all
  obtain ⟨rfl, rfl⟩ := trodVars_none hV
  obtain ⟨a0, len0, cap0, rfl⟩ := okWide_slice Try.underlying22 (hval 0 22 v0 rfl rfl)
  have k0 := h0
  have lt0 : ∀ x ∈ p0, x.block < W.heap.size := by obtain ⟨m, hm⟩ := k0; exact DataW.trod_lt m _ _ _ hm
  obtain ⟨z0, w0⟩ : ∃ zs, IsRow .u8 W a0 len0 cap0 zs := by
    obtain ⟨fuel, hf⟩ := h0
    rcases open_ints Try.underlying22 Try.underlying5 (by kernel_rfl) hf with ⟨hcs, _⟩ | ⟨x, l, c, zs, hcs, _, hl, hm, hz, _, hcell, hwz⟩
    · simp [Value.cells] at hcs
      obtain ⟨rfl, rfl, rfl⟩ := hcs
      exact ⟨[], .inl ⟨rfl, rfl, rfl, rfl⟩⟩
    · simp [Value.cells] at hcs
      obtain ⟨rfl, rfl, rfl⟩ := hcs
      exact ⟨zs, .inr ⟨_, rfl, hl, hm, by simpa using hz, hcell, hwz⟩⟩
  clear hA0 hval0
  refine (walk a0 len0 cap0 z0 W w0).mono fun e W' ⟨he, bel⟩ => ?_
  subst he
  exact ⟨_, rfl, _, _, _, [], _, [], hW', trodAll_mk1 (shut_bool Try.underlying4 _), (trodAll_cons_mk (Below.trod laidOut (by kernel_rfl) (of_decide_eq_true (by kernel_rfl)) k0 bel lt0) trodAll_mk0), rfl, bel.frame _, fun h => by cases h⟩

theorem over : Rows.fnCoreCutBetweenRow.holds Try.pinned (OpenSpec.ofChange Rows.fnCoreCutBetweenSpec) :=
  OpenClaim.holds_of_wide 7 Try.f7 rfl rfl rfl rfl rfl rfl rfl ⟨rfl, rfl, rfl, rfl, rfl⟩ rfl rfl rfl rfl rfl (by kernel_rfl) Try.func7 (by kernel_rfl)
    (of_decide_eq_true (by kernel_rfl)) (by unfold Func.isWrapper; first | (rw [if_pos (by decide +kernel)]; kernel_rfl) | (rw [if_neg (by decide +kernel)]; exact ⟨rfl, rfl⟩))
    (fun os started H enc _ => lifted os started H enc)

/-- ████ THE STATEMENT ████ -/
theorem proved : Rows.FnCoreCutBetweenSaid := over
#print axioms proved
end Go.Proofs.Ytdljfikgmhdedab.fnCoreCutBetween
