/- For every input, the law FnAgeMerge of the given statements returns true over the program at this commit, and its arguments read afterwards as before: no condition. -/
import Derived.Test.YtbjeedeapioljabRows
import Derived.Test.YtbjeedeapioljabLawL2
import Derived.WalkKit
import Derived.ProofKit
import Derived.OpenShut
import Derived.ShutString
import Derived.ChangeOld
import Derived.Below
namespace Go.Proofs.Ytbjeedeapioljab.fnAgeMerge
open Go.ChangeShapes Go.WideShapes Go.ChangeAt Go.RowKit
open Go.ChangeMaps (open_string shut_string)
set_option linter.unusedVariables false

theorem own : ownKnob Try.prog.godebug = none := by kernel_rfl
theorem laidOut : laidOutB Try.prog = true := by kernel_rfl

/-- WHAT THE WALK IS TOLD OF A SLICE OF INTEGERS THAT CAME IN: it is nil; or it leads to a row of 'cap' cells, the numbers 'zs' (the first 'len' are its elements, the rest its spare room), each fitting its kind. -/
def IsRow (k : IntKind) (w : World) (a : Option Addr) (len cap : Nat) (zs : List Int) : Prop :=
  (a = none ∧ len = 0 ∧ cap = 0 ∧ zs = []) ∨
  ∃ x, a = some x ∧ len ≤ cap ∧ cap ≤ maxLen ∧ zs.length = cap ∧ (∀ i, i < zs.length → w.cell? (x.add i) = some (.int k (zs.getD i 0))) ∧ ∀ n ∈ zs, (Lit.int k n).wf = true

set_option maxRecDepth 100000 in
set_option maxHeartbeats 3200000 in
theorem walk (a0 : Option Addr) (len0 cap0 : Nat) (z0 : List Int) (a1 : Option Addr) (len1 cap1 : Nat) (z1 : List Int) (w : World) (w0 : IsRow .u8 w a0 len0 cap0 z0) (w1 : IsRow .u8 w a1 len1 cap1 z1) :
    Calls Try.prog 10 #[.slice a0 len0 cap0, .slice a1 len1 cap1] w fun e w' => e = .returned (.bool true) ∧ Below w.heap.size w w' := by
  have hB := bytes_of w0
  have hB1 := bytes_len (bytes_of w1)
  unfold maxLen at hB1
  by_cases hl : 1048576 < len0
  · have hdec : decide (1048576 < len0) = true := by simpa using hl
    go_enter Try.func10, Try.ntmps10
    go_wp2_with fail
    go_ret
    exact ⟨rfl, Below.refl _ _⟩
  have hdec : decide (1048576 < len0) = false := by simpa using hl
  by_cases hl1 : 1048576 < len1
  · go_enter Try.func10, Try.ntmps10
    go_wp2_with fail
    go_ret
    exact ⟨rfl, Below.refl _ _⟩
  have hm : len0 ≤ 1048576 := by omega
  have hm1 : len1 ≤ 1048576 := by omega
  clear hB1
  go_enter Try.func10, Try.ntmps10
  go_wp2_with fail
  refine (DrawLayersAge_any hB).mono ?_
  rintro e wv1 ⟨v, l, t, b, rfl, r0, b1⟩
  clear w0 w1 hB
  have BB := Lib.hid b1
  clear b1
  have R := Lib.hid r0
  clear r0
  cases ho : ageOk l t b
  · have HO := Lib.hid ho
    clear ho
    go_wp2_with fail
    refine (ageI_no R.out HO.out).mono ?_
    rintro e wv2 ⟨rfl, b9⟩
    replace R := Lib.hid (R.out.grow b9)
    replace BB := Lib.hid (BB.out.trans (b9.mono BB.out.size))
    clear b9
    go_wp2_with fail
    refine (ageS_no R.out HO.out).mono ?_
    rintro e wv3 ⟨rfl, b9⟩
    replace R := Lib.hid (R.out.grow b9)
    replace BB := Lib.hid (BB.out.trans (b9.mono BB.out.size))
    clear b9
    go_wp2_with fail
    go_ret
    exact ⟨by first | rfl | (simp; done) | (simp; omega), BB.out⟩
  · have HO := Lib.hid ho
    obtain ⟨hr, b0, b3, t4, t5⟩ := ageOk_iff.1 ho
    obtain ⟨x40, y40, xy⟩ := cnt_bounds hr 0 b
    have l40 := lay_len hr
    have HR := Lib.hid hr
    clear ho hr
    obtain ⟨x, hx⟩ : ∃ x : Nat, cntS 0 b l = x := ⟨_, rfl⟩
    obtain ⟨y, hy⟩ : ∃ y : Nat, cntA 0 b l = y := ⟨_, rfl⟩
    rw [hx] at x40 xy
    rw [hy] at y40 xy
    have HX := Lib.hid hx; have HY := Lib.hid hy
    clear hx hy
    have EX : Hid (t + (cntS 0 b l : Int) = t + x) := Lib.hid (by rw [HX.out]); have EY : Hid (t + (cntA 0 b l : Int) = t + y) := Lib.hid (by rw [HY.out])
    go_wp2_with fail
    refine (ageI_yes R.out HO.out EX.out EY.out).mono ?_
    rintro e wv2 ⟨rfl, b9⟩
    replace R := Lib.hid (R.out.grow b9)
    replace BB := Lib.hid (BB.out.trans (b9.mono BB.out.size))
    clear b9
    go_wp2_with fail
    refine (ageS_yes R.out HO.out EX.out EY.out).mono ?_
    rintro e wv3 ⟨rfl, b9⟩
    replace R := Lib.hid (R.out.grow b9)
    replace BB := Lib.hid (BB.out.trans (b9.mono BB.out.size))
    clear b9
    obtain ⟨q, hq⟩ : ∃ q : Int, (len1 : Int).tmod 130 = q := ⟨_, rfl⟩
    have hq0 : 0 ≤ q := by rw [← hq]; exact Int.tmod_nonneg _ (by omega)
    have hq1 : q < 130 := by rw [← hq]; exact Int.tmod_lt_of_pos _ (by omega)
    have hqe : (len1 : Int) % 130 = q := by rw [← hq, Int.tmod_eq_emod_of_nonneg (by omega)]
    have z1 : IntKind.i64.wrap q = q := IntWalk.i64_in _ (by omega)
    clear hq
    have oq := lown_one (w := wv3) 37 (Nat.le_refl wv3.heap.size) (q, true)
    have b9 := (Below.refl wv3.heap.size wv3).alloc (Nat.le_refl _) (.cells #[.int .i64 (q), .bool true] 37)
    replace R := Lib.hid (R.out.grow b9)
    replace BB := Lib.hid (BB.out.trans (b9.mono BB.out.size))
    clear b9
    have Q := Lib.hid oq
    clear oq
    cases ho : mgOf l [(q, true)] with
    | none =>
      have M := Lib.hid ho
      clear ho
      go_wp2_with fail
      refine (mgI_no R.out Q.out.row M.out).mono ?_
      rintro e wv4 ⟨vX, rfl, o9, b9⟩
      replace R := Lib.hid (R.out.grow b9)
      replace Q := Lib.hid (Q.out.grow b9)
      replace BB := Lib.hid (BB.out.trans (b9.mono BB.out.size))
      clear b9
      have X := Lib.hid o9
      clear o9
      obtain ⟨zz, hzz⟩ : ∃ zz, ageOk [] t b = zz := ⟨_, rfl⟩
      have HE := Lib.hid (ageOk_iff.2 ⟨lay_nil, b0, b3, t4, t5⟩ : ageOk [] t b = true)
      clear hzz
      have E1 : Hid (t + (cntS 0 b [] : Int) = t) := Lib.hid (by simp [cntS]); have E2 : Hid (t + (cntA 0 b [] : Int) = t) := Lib.hid (by simp [cntA])
      go_wp2_with fail
      refine (ageI_yes X.out.row HE.out E1.out E2.out).mono ?_
      rintro e wv5 ⟨rfl, b9⟩
      replace R := Lib.hid (R.out.grow b9)
      replace Q := Lib.hid (Q.out.grow b9)
      replace X := Lib.hid (X.out.grow b9)
      replace BB := Lib.hid (BB.out.trans (b9.mono BB.out.size))
      clear b9
      go_wp2_with fail
      go_ret
      exact ⟨by first | rfl | (simp; done) | (simp; omega), BB.out⟩
    | some o =>
      obtain ⟨_, _, ho3, he⟩ := mg_is ho
      have M := Lib.hid ho; have HV := Lib.hid ho3
      obtain ⟨mA1, _, mA3⟩ := mg_cnt 0 b l [(q, true)]
      obtain ⟨mS1, _, mS3⟩ := mg_cntS 0 b l [(q, true)]
      rw [← he, HY.out] at mA1 mA3
      rw [← he, HX.out] at mS1 mS3
      have a1 : cntA 0 b [(q, true)] ≤ 1 := cntA_le _ _ _
      have a2 : cntS 0 b [(q, true)] ≤ 1 := Nat.le_trans (cntS_le _ _ _) a1
      obtain ⟨x1, hx1⟩ : ∃ x : Nat, cntS 0 b o = x := ⟨_, rfl⟩
      obtain ⟨y1, hy1⟩ : ∃ x : Nat, cntA 0 b o = x := ⟨_, rfl⟩
      rw [hx1] at mS1 mS3
      rw [hy1] at mA1 mA3
      have e1 : x1 ≤ x + 1 := by omega
      have e2 : y1 ≤ y + 1 := by omega
      have EX1 : Hid (t + (cntS 0 b o : Int) = t + x1) := Lib.hid (by rw [hx1]); have EY1 : Hid (t + (cntA 0 b o : Int) = t + y1) := Lib.hid (by rw [hy1])
      clear ho ho3 he mA3 mS3 a1 a2 hx1 hy1
      have HO1 := Lib.hid (ageOk_iff.2 ⟨HV.out, b0, b3, t4, t5⟩ : ageOk o t b = true)
      have w1 : IntKind.i64.wrap (t + (x : Int) + 1) = t + (x : Int) + 1 := IntWalk.i64_in _ (by omega)
      have w2 : IntKind.i64.wrap (t + (y : Int) + 1) = t + (y : Int) + 1 := IntWalk.i64_in _ (by omega)
      go_wp2_with fail
      refine (mgI_yes R.out Q.out.row M.out).mono ?_
      rintro e wv4 ⟨vX, rfl, o9, b9⟩
      replace R := Lib.hid (R.out.grow b9)
      replace Q := Lib.hid (Q.out.grow b9)
      replace BB := Lib.hid (BB.out.trans (b9.mono BB.out.size))
      clear b9
      have X := Lib.hid o9
      clear o9
      go_wp2_with fail
      refine (ageI_yes X.out.row HO1.out EX1.out EY1.out).mono ?_
      rintro e wv5 ⟨rfl, b9⟩
      replace R := Lib.hid (R.out.grow b9)
      replace Q := Lib.hid (Q.out.grow b9)
      replace X := Lib.hid (X.out.grow b9)
      replace BB := Lib.hid (BB.out.trans (b9.mono BB.out.size))
      clear b9
      go_wp2_with fail
      go_ret
      exact ⟨by first | rfl | (simp; done) | (simp; omega), BB.out⟩

set_option maxRecDepth 100000 in
theorem lifted (os : Os) (started : os.Started) (H : Type) (enc : TypeId × Value → H) :
    ReturnsInHanded {} Try.checked os 10 .any (Rows.fnAgeMergeSpec.pre6 enc Try.prog Try.f10 Rows.fnAgeMergeRow.domain false) (Rows.fnAgeMergeSpec.post enc Try.prog Try.f10 false true false false) := by
  refine returnsInHanded_of_change (C := Try.checked) own started (by kernel_rfl) Try.func10
    (ChangeSpec.witness6 (enc := enc) (C := Try.checked) false ⟨#[], #[.slice none 0 0, .slice none 0 0], []⟩ 8 (by kernel_rfl) (by kernel_rfl) (by kernel_rfl) (by kernel_rfl)) ?_
  intro W base args ds gs before hval0 hW hcnd _
  have hval : ∀ (j : Nat) t v, Try.f10.params[j]? = some t → args[j]? = some v → Value.okWide Try.prog W .any base t v := hval0
  have hW' := hW
  obtain ⟨p, q, hA0, hV, rfl, hfz, hnd⟩ := hW
  have hA : DataW.TrodAll enc Try.prog W 0 (fun _ => true) true Try.f10.params.toList args.toList ds p := hA0
  rw [Try.params10] at hA hval
  obtain ⟨v0, vs0, d0, ds0, p0, q0, hargs, rfl, rfl, h0, r0⟩ := trodAll_cons hA
  obtain ⟨v1, vs1, d1, ds1, p1, q1, rfl, rfl, rfl, h1, r1⟩ := trodAll_cons r0
  obtain ⟨rfl, rfl, rfl⟩ := trodAll_nil r1
  obtain rfl : args = #[v0, v1] := by cases args; simp_all
  obtain ⟨rfl, rfl⟩ := trodVars_none hV
  obtain ⟨a0, len0, cap0, rfl⟩ := okWide_slice Try.underlying22 (hval 0 22 v0 rfl rfl)
  have k0 := h0
  have lt0 : ∀ x ∈ p0, x.block < W.heap.size := by obtain ⟨m, hm⟩ := k0; exact DataW.trod_lt m _ _ _ hm
  obtain ⟨z0, w0⟩ : ∃ zs, IsRow .u8 W a0 len0 cap0 zs := by
    obtain ⟨fuel, hf⟩ := h0
    rcases open_ints Try.underlying22 Try.underlying5 (by kernel_rfl) hf with ⟨hcs, _⟩ | ⟨x, l, c, zs, hcs, _, hl, hm, hz, _, hcell, hwz⟩
    · simp [Value.cells] at hcs
      obtain ⟨rfl, rfl, rfl⟩ := hcs
      exact ⟨[], .inl ⟨rfl, rfl, rfl, rfl⟩⟩
    · simp [Value.cells] at hcs
      obtain ⟨rfl, rfl, rfl⟩ := hcs
      exact ⟨zs, .inr ⟨_, rfl, hl, hm, by simpa using hz, hcell, hwz⟩⟩
  obtain ⟨a1, len1, cap1, rfl⟩ := okWide_slice Try.underlying22 (hval 1 22 v1 rfl rfl)
  have k1 := h1
  have lt1 : ∀ x ∈ p1, x.block < W.heap.size := by obtain ⟨m, hm⟩ := k1; exact DataW.trod_lt m _ _ _ hm
  obtain ⟨z1, w1⟩ : ∃ zs, IsRow .u8 W a1 len1 cap1 zs := by
    obtain ⟨fuel, hf⟩ := h1
    rcases open_ints Try.underlying22 Try.underlying5 (by kernel_rfl) hf with ⟨hcs, _⟩ | ⟨x, l, c, zs, hcs, _, hl, hm, hz, _, hcell, hwz⟩
    · simp [Value.cells] at hcs
      obtain ⟨rfl, rfl, rfl⟩ := hcs
      exact ⟨[], .inl ⟨rfl, rfl, rfl, rfl⟩⟩
    · simp [Value.cells] at hcs
      obtain ⟨rfl, rfl, rfl⟩ := hcs
      exact ⟨zs, .inr ⟨_, rfl, hl, hm, by simpa using hz, hcell, hwz⟩⟩
  clear hA0 hval0
  refine (walk a0 len0 cap0 z0 a1 len1 cap1 z1 W w0 w1).mono fun e W' ⟨he, bel⟩ => ?_
  subst he
  exact ⟨_, rfl, _, _, _, [], _, [], hW', trodAll_mk1 (shut_bool Try.underlying4 _), (trodAll_cons_mk (Below.trod laidOut (by kernel_rfl) (of_decide_eq_true (by kernel_rfl)) k0 bel lt0) (trodAll_cons_mk (Below.trod laidOut (by kernel_rfl) (of_decide_eq_true (by kernel_rfl)) k1 bel lt1) trodAll_mk0)), rfl, bel.frame _, fun h => by cases h⟩

theorem over : Rows.fnAgeMergeRow.holds Try.pinned (OpenSpec.ofChange Rows.fnAgeMergeSpec) :=
  OpenClaim.holds_of_wide 10 Try.f10 rfl rfl rfl rfl rfl rfl rfl ⟨rfl, rfl, rfl, rfl, rfl⟩ rfl rfl rfl rfl rfl (by kernel_rfl) Try.func10 (by kernel_rfl)
    (of_decide_eq_true (by kernel_rfl)) (by unfold Func.isWrapper; first | (rw [if_pos (by decide +kernel)]; kernel_rfl) | (rw [if_neg (by decide +kernel)]; exact ⟨rfl, rfl⟩))
    (fun os started H enc _ => lifted os started H enc)

/-- ████ THE STATEMENT ████ -/
theorem proved : Rows.FnAgeMergeSaid := over
#print axioms proved
end Go.Proofs.Ytbjeedeapioljab.fnAgeMerge
