/- For every input, the law FnSumRange of the given statements returns true over the program at this commit, and its arguments read afterwards as before: no condition. -/
import Derived.Test.YtdnalkppligodabRows
import Derived.Test.YtdnalkppligodabLawS2
import Derived.WalkKit
import Derived.ProofKit
import Derived.OpenShut
import Derived.ShutString
import Derived.ChangeOld
import Derived.Below
namespace Go.Proofs.Ytdnalkppligodab.fnSumRange
open Go.ChangeShapes Go.WideShapes Go.ChangeAt Go.RowKit
open Go.ChangeMaps (open_string shut_string)
set_option linter.unusedVariables false

theorem own : ownKnob Try.prog.godebug = none := by kernel_rfl
theorem laidOut : laidOutB Try.prog = true := by kernel_rfl

/-- WHAT THE WALK IS TOLD OF A SLICE OF INTEGERS THAT CAME IN: it is nil; or it leads to a row of 'cap' cells, the numbers 'zs' (the first 'len' are its elements, the rest its spare room), each fitting its kind. -/
def IsRow (k : IntKind) (w : World) (a : Option Addr) (len cap : Nat) (zs : List Int) : Prop :=
  (a = none ∧ len = 0 ∧ cap = 0 ∧ zs = []) ∨
  ∃ x, a = some x ∧ len ≤ cap ∧ cap ≤ maxLen ∧ zs.length = cap ∧ (∀ i, i < zs.length → w.cell? (x.add i) = some (.int k (zs.getD i 0))) ∧ ∀ n ∈ zs, (Lit.int k n).wf = true

set_option maxRecDepth 100000 in
set_option maxHeartbeats 3200000 in
theorem walk (a0 : Option Addr) (len0 cap0 : Nat) (z0 : List Int) (w : World) (w0 : IsRow .u8 w a0 len0 cap0 z0) :
    Calls Try.prog 10 #[.slice a0 len0 cap0] w fun e w' => e = .returned (.bool true) ∧ Below w.heap.size w w' := by
  have hB := bytes_of w0
  by_cases hl : 1048576 < len0
  · have hdec : decide (1048576 < len0) = true := by simpa using hl
    go_enter Try.func10, Try.ntmps10
    go_wp2_with fail
    go_ret
    exact ⟨rfl, Below.refl _ _⟩
  have hdec : decide (1048576 < len0) = false := by simpa using hl
  have hm : len0 ≤ 1048576 := by omega
  go_enter Try.func10, Try.ntmps10
  go_wp2_with fail
  refine (DrawSmoothSum_any hB).mono ?_
  rintro e wv1 ⟨v, l, rfl, r0, b1⟩
  clear w0 hB
  have BB := Lib.hid b1
  clear b1
  have R := Lib.hid r0
  clear r0
  cases hr : isRow l
  · have HR := Lib.hid hr
    clear hr
    go_wp2_with fail
    refine (sumI_no R.out HR.out).mono ?_
    rintro e wv2 ⟨rfl, b9⟩
    replace R := Lib.hid (R.out.grow b9)
    replace BB := Lib.hid (BB.out.trans (b9.mono BB.out.size))
    clear b9
    go_wp2_with fail
    refine (sumS_no R.out HR.out).mono ?_
    rintro e wv3 ⟨rfl, b9⟩
    replace R := Lib.hid (R.out.grow b9)
    replace BB := Lib.hid (BB.out.trans (b9.mono BB.out.size))
    clear b9
    go_wp2_with fail
    go_ret
    exact ⟨by first | rfl | (simp; done) | (simp; omega), BB.out⟩
  · have HR := Lib.hid hr
    clear hr
    obtain ⟨z, hz⟩ : ∃ x : Int, l.sum = x := ⟨_, rfl⟩
    have zb := row_sum HR.out
    rw [hz] at zb
    have HZ := Lib.hid hz
    clear hz
    go_wp2_with fail
    refine (sumI_is R.out HR.out HZ.out).mono ?_
    rintro e wv2 ⟨rfl, b9⟩
    replace R := Lib.hid (R.out.grow b9)
    replace BB := Lib.hid (BB.out.trans (b9.mono BB.out.size))
    clear b9
    go_wp2_with fail
    refine (sumS_is R.out HR.out HZ.out).mono ?_
    rintro e wv3 ⟨rfl, b9⟩
    replace R := Lib.hid (R.out.grow b9)
    replace BB := Lib.hid (BB.out.trans (b9.mono BB.out.size))
    clear b9
    have h1 := (isRow_iff.1 HR.out).1
    have h20 := (isRow_iff.1 HR.out).2.1
    obtain ⟨n, hn⟩ : ∃ n, l.length = n := ⟨_, rfl⟩
    rw [hn] at h1 h20
    have HN := Lib.hid hn
    clear hn
    obtain ⟨gR, pR, cR, rfl, kR, mR⟩ := known_n R.out HN.out (by omega)
    have h0 : 0 < l.length := by rw [HN.out]; omega
    obtain ⟨x, hx⟩ : ∃ x : Int, l[0]'h0 = x := ⟨_, rfl⟩
    have HX := Lib.hid hx
    have TK : Hid (l.take 1 = [x]) := Lib.hid (by rw [← hx, List.take_one, List.head?_eq_getElem?, List.getElem?_eq_getElem h0]; rfl)
    have TR : Hid (isRow (l.take 1) = true) := Lib.hid (by rw [TK.out, ← hx]; exact row_first HR.out h0)
    have TS : Hid ((l.take 1).sum = x) := Lib.hid (by rw [TK.out]; simp)
    have i0 : (0 : Int) < (n : Int) := by omega
    have i1 : (1 : Int) ≤ (cR : Int) := by omega
    have i2 : (1 : Nat) ≤ cR := by omega
    have i3 : (1 : Int) ≤ (n : Int) := by omega
    clear hx
    have BA := Lib.hid ((Below.refl wv3.heap.size wv3).alloc (Nat.le_refl _) (.cells #[] 3))
    have TA := Lib.hid (rests_row (R.out.grow BA.out))
    have z20 : n ≤ 1000 := by omega
    go_wp2_with (at_builtin; first | (refine iappend_list intT rfl _ _ rfl (B := wv3.heap.size) _ [] rfl (iown_empty (W := wv3) Array.getElem?_push_size (Nat.le_refl _)) ⟨gR, pR, none⟩ n cR l rfl HN.out TA.out (by simp; omega) (by simp) ?_; intro v5 w5 hown5 hg5; rw [List.nil_append] at hown5; have O5 := Lib.hid hown5; have B5 : Hid (Below wv3.heap.size wv3 w5) := Lib.hid (Below.grown BA.out hg5 BA.out.size (fun k hk => Nat.le_of_eq (Option.some.inj hk))); have N1 := Lib.hid (new_one w5 (.int .i64 0) 3); have BW := Lib.hid ((Below.refl w5.heap.size w5).alloc (Nat.le_refl _) (.cells #[.int .i64 0] 3)); have z5 := B5.out.size; clear hown5 hg5) | (refine iappend_one intT rfl _ _ rfl (B := wv3.heap.size) _ _ rfl (O5.out.grow BW.out) ⟨w5.heap.size, 0, none⟩ 0 rfl N1.out (by rw [HN.out]; omega) (by simp; omega) ?_; intro v8 w8 hown8 hg8))
    have B8 := B5.out.trans ((BW.out.mono z5).trans ((O5.out.grow BW.out).below hg8 (by simp; omega)))
    clear O5 N1 BW B5 z5 hg8
    replace R := Lib.hid (R.out.grow B8)
    replace BB := Lib.hid (BB.out.trans (B8.mono BB.out.size))
    clear B8
    have X := Lib.hid hown8
    clear hown8
    by_cases full : n = 20
    · have XR := Lib.hid (row_full (l := l) (by rw [HN.out]; omega))
      have d1 : ((n : Int) == 20) = true := by simp; omega
      clear full
      refine (sumI_no X.out.row XR.out).mono ?_
      rintro e wv4 ⟨rfl, b9⟩
      replace R := Lib.hid (R.out.grow b9)
      replace X := Lib.hid (X.out.grow b9)
      replace BB := Lib.hid (BB.out.trans (b9.mono BB.out.size))
      clear b9
      go_wp2_with fail
      refine (sumI_is (R.out.take 1 (by rw [HN.out]; omega)) TR.out TS.out).mono ?_
      rintro e wv5 ⟨rfl, b9⟩
      replace R := Lib.hid (R.out.grow b9)
      replace X := Lib.hid (X.out.grow b9)
      replace BB := Lib.hid (BB.out.trans (b9.mono BB.out.size))
      clear b9
      have f0 := R.out.cells 0 h0
      rw [HX.out] at f0
      simp only [Nat.add_zero] at f0
      go_wp2_with fail
      go_ret
      exact ⟨by first | rfl | (simp; done) | (simp; omega), BB.out⟩
    · have XR := Lib.hid (row_snoc HR.out (by rw [HN.out]; omega))
      have d1 : ((n : Int) == 20) = false := by simp; omega
      have XS : Hid ((l ++ [0]).sum = z) := Lib.hid (by rw [sum_snoc, HZ.out]; omega)
      clear full
      refine (sumI_is X.out.row XR.out XS.out).mono ?_
      rintro e wv4 ⟨rfl, b9⟩
      replace R := Lib.hid (R.out.grow b9)
      replace X := Lib.hid (X.out.grow b9)
      replace BB := Lib.hid (BB.out.trans (b9.mono BB.out.size))
      clear b9
      go_wp2_with fail
      refine (sumI_is (R.out.take 1 (by rw [HN.out]; omega)) TR.out TS.out).mono ?_
      rintro e wv5 ⟨rfl, b9⟩
      replace R := Lib.hid (R.out.grow b9)
      replace X := Lib.hid (X.out.grow b9)
      replace BB := Lib.hid (BB.out.trans (b9.mono BB.out.size))
      clear b9
      have f0 := R.out.cells 0 h0
      rw [HX.out] at f0
      simp only [Nat.add_zero] at f0
      go_wp2_with fail
      go_ret
      exact ⟨by first | rfl | (simp; done) | (simp; omega), BB.out⟩

set_option maxRecDepth 100000 in
theorem lifted (os : Os) (started : os.Started) (H : Type) (enc : TypeId × Value → H) :
    ReturnsInHanded {} Try.checked os 10 .any (Rows.fnSumRangeSpec.pre6 enc Try.prog Try.f10 Rows.fnSumRangeRow.domain false) (Rows.fnSumRangeSpec.post enc Try.prog Try.f10 false true false false) := by
  refine returnsInHanded_of_change (C := Try.checked) own started (by kernel_rfl) Try.func10
    (ChangeSpec.witness6 (enc := enc) (C := Try.checked) false ⟨#[], #[.slice none 0 0], []⟩ 8 (by kernel_rfl) (by kernel_rfl) (by kernel_rfl) (by kernel_rfl)) ?_
  intro W base args ds gs before hval0 hW hcnd _
  have hval : ∀ (j : Nat) t v, Try.f10.params[j]? = some t → args[j]? = some v → Value.okWide Try.prog W .any base t v := hval0
  have hW' := hW
  obtain ⟨p, q, hA0, hV, rfl, hfz, hnd⟩ := hW
  have hA : DataW.TrodAll enc Try.prog W 0 (fun _ => true) true Try.f10.params.toList args.toList ds p := hA0
  rw [Try.params10] at hA hval
  obtain ⟨v0, vs0, d0, ds0, p0, q0, hargs, rfl, rfl, h0, r0⟩ := trodAll_cons hA
  obtain ⟨rfl, rfl, rfl⟩ := trodAll_nil r0
  obtain rfl : args = #[v0] := by cases args; simp_all
  obtain ⟨rfl, rfl⟩ := trodVars_none hV
  obtain ⟨a0, len0, cap0, rfl⟩ := okWide_slice Try.underlying22 (hval 0 22 v0 rfl rfl)
  have k0 := h0
  have lt0 : ∀ x ∈ p0, x.block < W.heap.size := by obtain ⟨m, hm⟩ := k0; exact DataW.trod_lt m _ _ _ hm
  obtain ⟨z0, w0⟩ : ∃ zs, IsRow .u8 W a0 len0 cap0 zs := by
    obtain ⟨fuel, hf⟩ := h0
    rcases open_ints Try.underlying22 Try.underlying5 (by kernel_rfl) hf with ⟨hcs, _⟩ | ⟨x, l, c, zs, hcs, _, hl, hm, hz, _, hcell, hwz⟩
    · simp [Value.cells] at hcs
      obtain ⟨rfl, rfl, rfl⟩ := hcs
      exact ⟨[], .inl ⟨rfl, rfl, rfl, rfl⟩⟩
    · simp [Value.cells] at hcs
      obtain ⟨rfl, rfl, rfl⟩ := hcs
      exact ⟨zs, .inr ⟨_, rfl, hl, hm, by simpa using hz, hcell, hwz⟩⟩
  clear hA0 hval0
  refine (walk a0 len0 cap0 z0 W w0).mono fun e W' ⟨he, bel⟩ => ?_
  subst he
  exact ⟨_, rfl, _, _, _, [], _, [], hW', trodAll_mk1 (shut_bool Try.underlying4 _), (trodAll_cons_mk (Below.trod laidOut (by kernel_rfl) (of_decide_eq_true (by kernel_rfl)) k0 bel lt0) trodAll_mk0), rfl, bel.frame _, fun h => by cases h⟩

theorem over : Rows.fnSumRangeRow.holds Try.pinned (OpenSpec.ofChange Rows.fnSumRangeSpec) :=
  OpenClaim.holds_of_wide 10 Try.f10 rfl rfl rfl rfl rfl rfl rfl ⟨rfl, rfl, rfl, rfl, rfl⟩ rfl rfl rfl rfl rfl (by kernel_rfl) Try.func10 (by kernel_rfl)
    (of_decide_eq_true (by kernel_rfl)) (by unfold Func.isWrapper; first | (rw [if_pos (by decide +kernel)]; kernel_rfl) | (rw [if_neg (by decide +kernel)]; exact ⟨rfl, rfl⟩))
    (fun os started H enc _ => lifted os started H enc)

/-- ████ THE STATEMENT ████ -/
theorem proved : Rows.FnSumRangeSaid := over
#print axioms proved
end Go.Proofs.Ytdnalkppligodab.fnSumRange
