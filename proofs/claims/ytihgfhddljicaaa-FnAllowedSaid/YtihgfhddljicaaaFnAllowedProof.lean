/- For every input, the law FnAllowed of the given statements returns true over the program at this commit, and its arguments read afterwards as before: no condition. -/
import Derived.Test.YtihgfhddljicaaaRows
import Derived.Test.YtihgfhddljicaaaLawC
import Derived.WalkKit
import Derived.ProofKit
import Derived.OpenShut
import Derived.ShutString
import Derived.ChangeOld
import Derived.Below
namespace Go.Proofs.Ytihgfhddljicaaa.fnAllowed
open Go.ChangeShapes Go.WideShapes Go.ChangeAt Go.RowKit
open Go.ChangeMaps (open_string shut_string)
set_option linter.unusedVariables false

theorem own : ownKnob Try.prog.godebug = none := by kernel_rfl
theorem laidOut : laidOutB Try.prog = true := by kernel_rfl

/-- WHAT THE WALK IS TOLD OF A SLICE OF INTEGERS THAT CAME IN: it is nil; or it leads to a row of 'cap' cells, the numbers 'zs' (the first 'len' are its elements, the rest its spare room), each fitting its kind. -/
def IsRow (k : IntKind) (w : World) (a : Option Addr) (len cap : Nat) (zs : List Int) : Prop :=
  (a = none ∧ len = 0 ∧ cap = 0 ∧ zs = []) ∨
  ∃ x, a = some x ∧ len ≤ cap ∧ cap ≤ maxLen ∧ zs.length = cap ∧ (∀ i, i < zs.length → w.cell? (x.add i) = some (.int k (zs.getD i 0))) ∧ ∀ n ∈ zs, (Lit.int k n).wf = true

set_option maxRecDepth 100000 in
set_option maxHeartbeats 3200000 in
theorem walk (a0 : Option Addr) (len0 cap0 : Nat) (z0 : List Int) (w : World) (w0 : IsRow .u8 w a0 len0 cap0 z0) :
    Calls Try.prog 3 #[.slice a0 len0 cap0] w fun e w' => e = .returned (.bool true) ∧ Below w.heap.size w w' := by
  have hB := bytes_of w0
  by_cases hl : 1048576 < len0
  · have hdec : decide (1048576 < len0) = true := by simpa using hl
    go_enter Try.func3, Try.ntmps3
    go_wp2_with fail
    go_ret
    exact ⟨rfl, Below.refl _ _⟩
  have hdec : decide (1048576 < len0) = false := by simpa using hl
  have hm : len0 ≤ 1048576 := by omega
  go_enter Try.func3, Try.ntmps3
  go_wp2_with fail
  refine (DrawCutsAllowed_any hB).mono ?_
  rintro e wv1 ⟨v, u, c, l, lo, mo, rfl, r0, r1, hc20, hl100, b1⟩
  clear w0 hB
  have BB := Lib.hid b1
  clear b1
  have R := Lib.hid r0
  clear r0
  have U := Lib.hid r1
  clear r1
  obtain ⟨aR, cR, rfl, kR, mR⟩ := len_n R.out
  obtain ⟨aU, cU, rfl, kU, mU⟩ := len_n U.out
  cases hb : allowedB c lo mo l
  · have HB := Lib.hid hb
    clear hb
    go_wp2_with fail
    refine (allowI_is R.out U.out (by omega) HB.out).mono ?_
    rintro e wv2 ⟨rfl, b9⟩
    replace R := Lib.hid (R.out.grow b9)
    replace U := Lib.hid (U.out.grow b9)
    replace BB := Lib.hid (BB.out.trans (b9.mono BB.out.size))
    clear b9
    go_wp2_with fail
    refine (allowSB R.out U.out (by omega) HB.out).mono ?_
    rintro e wv3 ⟨rfl, b9⟩
    replace R := Lib.hid (R.out.grow b9)
    replace U := Lib.hid (U.out.grow b9)
    replace BB := Lib.hid (BB.out.trans (b9.mono BB.out.size))
    clear b9
    go_wp2_with fail
    go_ret
    exact ⟨by first | rfl | (simp; done) | (simp; omega), BB.out⟩
  · have HB := Lib.hid hb
    obtain ⟨a, b, rfl, rfl, hal⟩ := allowed_is hb
    have AL := Lib.hid hal
    obtain ⟨l1, ln⟩ := hal.size
    obtain ⟨n1, n16⟩ := hal.len
    clear hb hal
    go_wp2_with fail
    refine (allowI_is R.out U.out (by omega) HB.out).mono ?_
    rintro e wv2 ⟨rfl, b9⟩
    replace R := Lib.hid (R.out.grow b9)
    replace U := Lib.hid (U.out.grow b9)
    replace BB := Lib.hid (BB.out.trans (b9.mono BB.out.size))
    clear b9
    go_wp2_with fail
    refine (allowSB R.out U.out (by omega) HB.out).mono ?_
    rintro e wv3 ⟨rfl, b9⟩
    replace R := Lib.hid (R.out.grow b9)
    replace U := Lib.hid (U.out.grow b9)
    replace BB := Lib.hid (BB.out.trans (b9.mono BB.out.size))
    clear b9
    obtain ⟨g, o, cp, e', k1, k2⟩ := known_n U.out rfl l1
    simp only [Value.slice.injEq, true_and] at e'
    obtain ⟨rfl, rfl⟩ := e'
    have d1 := U.out.cells (l.length - 1) (by omega)
    rw [AL.out.last (by omega)] at d1
    obtain ⟨q, hq⟩ : ∃ q : Nat, l.length - 1 = q := ⟨_, rfl⟩
    rw [hq] at d1
    have e1 : IntKind.i64.wrap ((l.length : Int) - 1) = (q : Int) := by rw [show (l.length : Int) - 1 = (q : Int) by omega]; exact IntWalk.i64_in _ (by omega)
    have e2 : IntKind.i64.wrap ((c.length : Int) - 1) = (c.length : Int) - 1 := IntWalk.i64_in _ (by omega)
    have i1 : (0 : Int) ≤ (q : Int) := by omega
    have i2 : (q : Int) < (l.length : Int) := by omega
    have LQ := Lib.hid hq
    clear hq
    go_wp2_with fail
    refine (allowI_is (lo := 1) (mo := 16) R.out U.out (by omega) AL.out.free).mono ?_
    rintro e wv4 ⟨rfl, b9⟩
    replace R := Lib.hid (R.out.grow b9)
    replace U := Lib.hid (U.out.grow b9)
    replace BB := Lib.hid (BB.out.trans (b9.mono BB.out.size))
    clear b9
    have EA := Lib.hid (iown_new (Nat.le_refl wv4.heap.size))
    have BA := Lib.hid ((Below.refl wv4.heap.size wv4).alloc (Nat.le_refl _) (.cells #[] 3))
    have TA := Lib.hid (rests_row (U.out.grow BA.out))
    have HM := Lib.hid (allowed_more c l a b)
    go_wp2_with (first
      | (at_builtin; refine iappend_list_g intT (by first | rfl | kernel_rfl) _ _ rfl (B := wv4.heap.size) _ [] rfl EA.out ⟨g, o, none⟩ l.length cU l rfl rfl TA.out (by simp; omega) (by simp) ?_; intro v5 w5 hown5 hg5; rw [List.nil_append] at hown5; have O5 := Lib.hid hown5; have B5 : Hid (Below wv4.heap.size wv4 w5) := Lib.hid (Below.grown BA.out hg5 BA.out.size (fun k hk => Nat.le_of_eq (Option.some.inj hk))); have N5 := Lib.hid (rests_one (new_one w5 (.int .i64 (c.length : Int)) 3)); have BN := Lib.hid ((Below.refl w5.heap.size w5).alloc (Nat.le_refl _) (.cells #[.int .i64 (c.length : Int)] 3)); clear hown5 hg5)
      | (at_builtin; refine iappend_list_g intT (by first | rfl | kernel_rfl) _ _ rfl (B := wv4.heap.size) _ l rfl (O5.out.grow BN.out) ⟨w5.heap.size, 0, none⟩ 1 1 [(c.length : Int)] rfl rfl N5.out (by omega) (by have := B5.out.size; simp; omega) ?_; intro v6 w6 hown6 hg6; have O6 := Lib.hid hown6; have B6 : Hid (Below wv4.heap.size wv4 w6) := Lib.hid ((B5.out.trans (BN.out.mono B5.out.size)).trans ((O5.out.grow BN.out).below hg6 (by have := B5.out.size; simp; omega))); clear hown6 hg6))
    refine (allowI_is (R.out.grow B6.out) O6.out.row (by simp; omega) HM.out).mono ?_
    rintro e w7 ⟨rfl, b7⟩
    have B7 := Lib.hid (BB.out.trans ((B6.out.trans (b7.mono B6.out.size)).mono BB.out.size))
    clear b7
    go_wp2_with fail
    go_ret
    exact ⟨rfl, B7.out⟩

set_option maxRecDepth 100000 in
theorem lifted (os : Os) (started : os.Started) (H : Type) (enc : TypeId × Value → H) :
    ReturnsInHanded {} Try.checked os 3 .any (Rows.fnAllowedSpec.pre6 enc Try.prog Try.f3 Rows.fnAllowedRow.domain false) (Rows.fnAllowedSpec.post enc Try.prog Try.f3 false true false false) := by
  refine returnsInHanded_of_change (C := Try.checked) own started (by kernel_rfl) Try.func3
    (ChangeSpec.witness6 (enc := enc) (C := Try.checked) false ⟨#[], #[.slice none 0 0], []⟩ 8 (by kernel_rfl) (by kernel_rfl) (by kernel_rfl) (by kernel_rfl)) ?_
  intro W base args ds gs before hval0 hW hcnd _
  have hval : ∀ (j : Nat) t v, Try.f3.params[j]? = some t → args[j]? = some v → Value.okWide Try.prog W .any base t v := hval0
  have hW' := hW
  obtain ⟨p, q, hA0, hV, rfl, hfz, hnd⟩ := hW
  have hA : DataW.TrodAll enc Try.prog W 0 (fun _ => true) true Try.f3.params.toList args.toList ds p := hA0
  rw [Try.params3] at hA hval
  obtain ⟨v0, vs0, d0, ds0, p0, q0, hargs, rfl, rfl, h0, r0⟩ := trodAll_cons hA
  obtain ⟨rfl, rfl, rfl⟩ := trodAll_nil r0
  obtain rfl : args = #[v0] := by cases args; simp_all
  obtain ⟨rfl, rfl⟩ := trodVars_none hV
  obtain ⟨a0, len0, cap0, rfl⟩ := okWide_slice Try.underlying22 (hval 0 22 v0 rfl rfl)
  have k0 := h0
  have lt0 : ∀ x ∈ p0, x.block < W.heap.size := by obtain ⟨m, hm⟩ := k0; exact DataW.trod_lt m _ _ _ hm
  obtain ⟨z0, w0⟩ : ∃ zs, IsRow .u8 W a0 len0 cap0 zs := by
    obtain ⟨fuel, hf⟩ := h0
    rcases open_ints Try.underlying22 Try.underlying5 (by kernel_rfl) hf with ⟨hcs, _⟩ | ⟨x, l, c, zs, hcs, _, hl, hm, hz, _, hcell, hwz⟩
    · simp [Value.cells] at hcs
      obtain ⟨rfl, rfl, rfl⟩ := hcs
      exact ⟨[], .inl ⟨rfl, rfl, rfl, rfl⟩⟩
    · simp [Value.cells] at hcs
      obtain ⟨rfl, rfl, rfl⟩ := hcs
      exact ⟨zs, .inr ⟨_, rfl, hl, hm, by simpa using hz, hcell, hwz⟩⟩
  clear hA0 hval0
  refine (walk a0 len0 cap0 z0 W w0).mono fun e W' ⟨he, bel⟩ => ?_
  subst he
  exact ⟨_, rfl, _, _, _, [], _, [], hW', trodAll_mk1 (shut_bool Try.underlying4 _), (trodAll_cons_mk (Below.trod laidOut (by kernel_rfl) (of_decide_eq_true (by kernel_rfl)) k0 bel lt0) trodAll_mk0), rfl, bel.frame _, fun h => by cases h⟩

theorem over : Rows.fnAllowedRow.holds Try.pinned (OpenSpec.ofChange Rows.fnAllowedSpec) :=
  OpenClaim.holds_of_wide 3 Try.f3 rfl rfl rfl rfl rfl rfl rfl ⟨rfl, rfl, rfl, rfl, rfl⟩ rfl rfl rfl rfl rfl (by kernel_rfl) Try.func3 (by kernel_rfl)
    (of_decide_eq_true (by kernel_rfl)) (by unfold Func.isWrapper; first | (rw [if_pos (by decide +kernel)]; kernel_rfl) | (rw [if_neg (by decide +kernel)]; exact ⟨rfl, rfl⟩))
    (fun os started H enc _ => lifted os started H enc)

/-- ████ THE STATEMENT ████ -/
theorem proved : Rows.FnAllowedSaid := over
#print axioms proved
end Go.Proofs.Ytihgfhddljicaaa.fnAllowed
