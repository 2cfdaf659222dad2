/- For every input, the law FnMergeLayersCount of the given statements returns true over the program at this commit, and its arguments read afterwards as before: no condition. -/
import Derived.Test.YtbjeedeapioljaaRows
import Derived.Test.YtbjeedeapioljaaLawL
import Derived.WalkKit
import Derived.ProofKit
import Derived.OpenShut
import Derived.ShutString
import Derived.ChangeOld
import Derived.Below
namespace Go.Proofs.Ytbjeedeapioljaa.fnMergeLayersCount
open Go.ChangeShapes Go.WideShapes Go.ChangeAt Go.RowKit
open Go.ChangeMaps (open_string shut_string)
set_option linter.unusedVariables false

theorem own : ownKnob Try.prog.godebug = none := by kernel_rfl
theorem laidOut : laidOutB Try.prog = true := by kernel_rfl

/-- WHAT THE WALK IS TOLD OF A SLICE OF INTEGERS THAT CAME IN: it is nil; or it leads to a row of 'cap' cells, the numbers 'zs' (the first 'len' are its elements, the rest its spare room), each fitting its kind. -/
def IsRow (k : IntKind) (w : World) (a : Option Addr) (len cap : Nat) (zs : List Int) : Prop :=
  (a = none ∧ len = 0 ∧ cap = 0 ∧ zs = []) ∨
  ∃ x, a = some x ∧ len ≤ cap ∧ cap ≤ maxLen ∧ zs.length = cap ∧ (∀ i, i < zs.length → w.cell? (x.add i) = some (.int k (zs.getD i 0))) ∧ ∀ n ∈ zs, (Lit.int k n).wf = true

set_option maxRecDepth 100000 in
set_option maxHeartbeats 3200000 in
theorem walk (a0 : Option Addr) (len0 cap0 : Nat) (z0 : List Int) (a1 : Option Addr) (len1 cap1 : Nat) (z1 : List Int) (w : World) (w0 : IsRow .u8 w a0 len0 cap0 z0) (w1 : IsRow .u8 w a1 len1 cap1 z1) :
    Calls Try.prog 10 #[.slice a0 len0 cap0, .slice a1 len1 cap1] w fun e w' => e = .returned (.bool true) ∧ Below w.heap.size w w' := by
  have hB := bytes_of w0
  have hB1 := bytes_len (bytes_of w1)
  unfold maxLen at hB1
  by_cases hl : 1048576 < len0
  · have hdec : decide (1048576 < len0) = true := by simpa using hl
    go_enter Try.func10, Try.ntmps10
    go_wp2_with fail
    go_ret
    exact ⟨rfl, Below.refl _ _⟩
  have hdec : decide (1048576 < len0) = false := by simpa using hl
  by_cases hl1 : 1048576 < len1
  · go_enter Try.func10, Try.ntmps10
    go_wp2_with fail
    go_ret
    exact ⟨rfl, Below.refl _ _⟩
  have hm : len0 ≤ 1048576 := by omega
  have hm1 : len1 ≤ 1048576 := by omega
  clear hB1
  go_enter Try.func10, Try.ntmps10
  go_wp2_with fail
  refine (DrawLayersMerge_any hB).mono ?_
  rintro e wv1 ⟨v, z, l, m, rfl, r0, s0, b1⟩
  clear w0 w1 hB
  have BB := Lib.hid b1
  clear b1
  have R := Lib.hid r0
  clear r0
  have S := Lib.hid s0
  clear s0
  cases ho : mgOf l m with
  | none =>
    have HO := Lib.hid ho
    clear ho
    go_wp2_with fail
    refine (mgI_no R.out S.out HO.out).mono ?_
    rintro e wv2 ⟨vX, rfl, o9, b9⟩
    replace R := Lib.hid (R.out.grow b9)
    replace S := Lib.hid (S.out.grow b9)
    replace BB := Lib.hid (BB.out.trans (b9.mono BB.out.size))
    clear b9
    have X := Lib.hid o9
    clear o9
    go_wp2_with fail
    refine (mgS_no R.out S.out HO.out).mono ?_
    rintro e wv3 ⟨vY, rfl, o9, b9⟩
    replace R := Lib.hid (R.out.grow b9)
    replace S := Lib.hid (S.out.grow b9)
    replace X := Lib.hid (X.out.grow b9)
    replace BB := Lib.hid (BB.out.trans (b9.mono BB.out.size))
    clear b9
    have Y := Lib.hid o9
    clear o9
    go_wp2_with fail
    refine (lsame_yes X.out.row Y.out.row rfl).mono ?_
    rintro e wv4 ⟨rfl, b9⟩
    replace R := Lib.hid (R.out.grow b9)
    replace S := Lib.hid (S.out.grow b9)
    replace X := Lib.hid (X.out.grow b9)
    replace Y := Lib.hid (Y.out.grow b9)
    replace BB := Lib.hid (BB.out.trans (b9.mono BB.out.size))
    clear b9
    go_wp2_with fail
    refine (lsame_yes X.out.row Y.out.row rfl).mono ?_
    rintro e wv5 ⟨rfl, b9⟩
    replace R := Lib.hid (R.out.grow b9)
    replace S := Lib.hid (S.out.grow b9)
    replace X := Lib.hid (X.out.grow b9)
    replace Y := Lib.hid (Y.out.grow b9)
    replace BB := Lib.hid (BB.out.trans (b9.mono BB.out.size))
    clear b9
    go_wp2_with fail
    go_ret
    exact ⟨by first | rfl | (simp; done) | (simp; omega), BB.out⟩
  | some o =>
    obtain ⟨hl1, hl2, hl3, he⟩ := mg_is ho
    have HO := Lib.hid ho; have HL := Lib.hid hl1; have HM := Lib.hid hl2; have HV := Lib.hid hl3; have HE := Lib.hid he
    have l40 := lay_len hl1
    have UL := Lib.hid (isLay_iff.1 hl1).2.1; have UM := Lib.hid (isLay_iff.1 hl2).2.1
    clear ho hl1 hl2 hl3 he
    go_wp2_with fail
    refine (mgI_yes R.out S.out HO.out).mono ?_
    rintro e wv2 ⟨vO, rfl, o9, b9⟩
    replace R := Lib.hid (R.out.grow b9)
    replace S := Lib.hid (S.out.grow b9)
    replace BB := Lib.hid (BB.out.trans (b9.mono BB.out.size))
    clear b9
    have O := Lib.hid o9
    clear o9
    go_wp2_with fail
    refine (mgS_yes R.out S.out HO.out).mono ?_
    rintro e wv3 ⟨vY, rfl, o9, b9⟩
    replace R := Lib.hid (R.out.grow b9)
    replace S := Lib.hid (S.out.grow b9)
    replace O := Lib.hid (O.out.grow b9)
    replace BB := Lib.hid (BB.out.trans (b9.mono BB.out.size))
    clear b9
    have Y := Lib.hid o9
    clear o9
    go_wp2_with fail
    refine (lsame_yes O.out.row Y.out.row rfl).mono ?_
    rintro e wv4 ⟨rfl, b9⟩
    replace R := Lib.hid (R.out.grow b9)
    replace S := Lib.hid (S.out.grow b9)
    replace O := Lib.hid (O.out.grow b9)
    replace Y := Lib.hid (Y.out.grow b9)
    replace BB := Lib.hid (BB.out.trans (b9.mono BB.out.size))
    clear b9
    clear Y
    obtain ⟨t, ht⟩ : ∃ t : Int, (len1 : Int).tmod 60 = t := ⟨_, rfl⟩
    have t0 : 0 ≤ t := by rw [← ht]; exact Int.tmod_nonneg _ (by omega)
    have t1 : t < 60 := by rw [← ht]; exact Int.tmod_lt_of_pos _ (by omega)
    have hte : (len1 : Int) % 60 = t := by rw [← ht, Int.tmod_eq_emod_of_nonneg (by omega)]
    have hde : (len1 : Int).tdiv 60 = (len1 : Int) / 60 := Int.tdiv_eq_ediv_of_nonneg (by omega)
    obtain ⟨q, hq⟩ : ∃ q : Int, ((len1 : Int) / 60).tmod 80 = q := ⟨_, rfl⟩
    have q0 : 0 ≤ q := by rw [← hq]; exact Int.tmod_nonneg _ (by omega)
    have q1 : q < 80 := by rw [← hq]; exact Int.tmod_lt_of_pos _ (by omega)
    have hqe : (len1 : Int) / 60 % 80 = q := by rw [← hq, Int.tmod_eq_emod_of_nonneg (by omega)]
    have z1 : IntKind.i64.wrap t = t := IntWalk.i64_in _ (by omega)
    have z2 : IntKind.i64.wrap q = q := IntWalk.i64_in _ (by omega)
    have z3 : IntKind.i64.wrap (t + q) = t + q := IntWalk.i64_in _ (by omega)
    have z4 : IntKind.i64.wrap ((len1 : Int) / 60) = (len1 : Int) / 60 := IntWalk.i64_in _ (by omega)
    have HO1 := Lib.hid (cntOk_iff.2 ⟨HV.out, by omega, by omega, by omega⟩ : cntOk o t (t + q) = true)
    obtain ⟨x1, hx1⟩ : ∃ x : Nat, cntS t (t + q) o = x := ⟨_, rfl⟩
    obtain ⟨y1, hy1⟩ : ∃ x : Nat, cntA t (t + q) o = x := ⟨_, rfl⟩
    have cb1 := cnt_bounds HV.out t (t + q)
    rw [hx1, hy1] at cb1
    obtain ⟨cx1, cy1, _⟩ := cb1
    have HX1 := Lib.hid hx1; have HY1 := Lib.hid hy1
    clear hx1 hy1
    have HO2 := Lib.hid (cntOk_iff.2 ⟨HL.out, by omega, by omega, by omega⟩ : cntOk l t (t + q) = true)
    obtain ⟨x2, hx2⟩ : ∃ x : Nat, cntS t (t + q) l = x := ⟨_, rfl⟩
    obtain ⟨y2, hy2⟩ : ∃ x : Nat, cntA t (t + q) l = x := ⟨_, rfl⟩
    have cb2 := cnt_bounds HL.out t (t + q)
    rw [hx2, hy2] at cb2
    obtain ⟨cx2, cy2, _⟩ := cb2
    have HX2 := Lib.hid hx2; have HY2 := Lib.hid hy2
    clear hx2 hy2
    have HO3 := Lib.hid (cntOk_iff.2 ⟨HM.out, by omega, by omega, by omega⟩ : cntOk m t (t + q) = true)
    obtain ⟨x3, hx3⟩ : ∃ x : Nat, cntS t (t + q) m = x := ⟨_, rfl⟩
    obtain ⟨y3, hy3⟩ : ∃ x : Nat, cntA t (t + q) m = x := ⟨_, rfl⟩
    have cb3 := cnt_bounds HM.out t (t + q)
    rw [hx3, hy3] at cb3
    obtain ⟨cx3, cy3, _⟩ := cb3
    have HX3 := Lib.hid hx3; have HY3 := Lib.hid hy3
    clear hx3 hy3
    have mA := mg_cnt t (t + q) l m
    have mS := mg_cntS t (t + q) l m
    rw [← HE.out, HY1.out, HY2.out, HY3.out] at mA
    rw [← HE.out, HX1.out, HX2.out, HX3.out] at mS
    obtain ⟨a1, a2, a3⟩ := mA
    obtain ⟨s1, s2, s3⟩ := mS
    have w1 : IntKind.i64.wrap ((y2 : Int) + y3) = (y2 : Int) + y3 := IntWalk.i64_in _ (by omega)
    have w2 : IntKind.i64.wrap ((x2 : Int) + x3) = (x2 : Int) + x3 := IntWalk.i64_in _ (by omega)
    go_wp2_with fail
    refine (cntI_yes O.out.row HO1.out HX1.out HY1.out).mono ?_
    rintro e wv5 ⟨rfl, b9⟩
    replace R := Lib.hid (R.out.grow b9)
    replace S := Lib.hid (S.out.grow b9)
    replace O := Lib.hid (O.out.grow b9)
    replace BB := Lib.hid (BB.out.trans (b9.mono BB.out.size))
    clear b9
    go_wp2_with fail
    refine (cntI_yes R.out HO2.out HX2.out HY2.out).mono ?_
    rintro e wv6 ⟨rfl, b9⟩
    replace R := Lib.hid (R.out.grow b9)
    replace S := Lib.hid (S.out.grow b9)
    replace O := Lib.hid (O.out.grow b9)
    replace BB := Lib.hid (BB.out.trans (b9.mono BB.out.size))
    clear b9
    go_wp2_with fail
    refine (cntI_yes S.out HO3.out HX3.out HY3.out).mono ?_
    rintro e wv7 ⟨rfl, b9⟩
    replace R := Lib.hid (R.out.grow b9)
    replace S := Lib.hid (S.out.grow b9)
    replace O := Lib.hid (O.out.grow b9)
    replace BB := Lib.hid (BB.out.trans (b9.mono BB.out.size))
    clear b9
    go_wp2_with fail
    all_goals
      go_ret
      exact ⟨by first | rfl | (simp; done) | (simp; omega), BB.out⟩

set_option maxRecDepth 100000 in
theorem lifted (os : Os) (started : os.Started) (H : Type) (enc : TypeId × Value → H) :
    ReturnsInHanded {} Try.checked os 10 .any (Rows.fnMergeLayersCountSpec.pre6 enc Try.prog Try.f10 Rows.fnMergeLayersCountRow.domain false) (Rows.fnMergeLayersCountSpec.post enc Try.prog Try.f10 false true false false) := by
  refine returnsInHanded_of_change (C := Try.checked) own started (by kernel_rfl) Try.func10
    (ChangeSpec.witness6 (enc := enc) (C := Try.checked) false ⟨#[], #[.slice none 0 0, .slice none 0 0], []⟩ 8 (by kernel_rfl) (by kernel_rfl) (by kernel_rfl) (by kernel_rfl)) ?_
  intro W base args ds gs before hval0 hW hcnd _
  have hval : ∀ (j : Nat) t v, Try.f10.params[j]? = some t → args[j]? = some v → Value.okWide Try.prog W .any base t v := hval0
  have hW' := hW
  obtain ⟨p, q, hA0, hV, rfl, hfz, hnd⟩ := hW
  have hA : DataW.TrodAll enc Try.prog W 0 (fun _ => true) true Try.f10.params.toList args.toList ds p := hA0
  rw [Try.params10] at hA hval
  obtain ⟨v0, vs0, d0, ds0, p0, q0, hargs, rfl, rfl, h0, r0⟩ := trodAll_cons hA
  obtain ⟨v1, vs1, d1, ds1, p1, q1, rfl, rfl, rfl, h1, r1⟩ := trodAll_cons r0
  obtain ⟨rfl, rfl, rfl⟩ := trodAll_nil r1
  obtain rfl : args = #[v0, v1] := by cases args; simp_all
  obtain ⟨rfl, rfl⟩ := trodVars_none hV
  obtain ⟨a0, len0, cap0, rfl⟩ := okWide_slice Try.underlying22 (hval 0 22 v0 rfl rfl)
  have k0 := h0
  have lt0 : ∀ x ∈ p0, x.block < W.heap.size := by obtain ⟨m, hm⟩ := k0; exact DataW.trod_lt m _ _ _ hm
  obtain ⟨z0, w0⟩ : ∃ zs, IsRow .u8 W a0 len0 cap0 zs := by
    obtain ⟨fuel, hf⟩ := h0
    rcases open_ints Try.underlying22 Try.underlying5 (by kernel_rfl) hf with ⟨hcs, _⟩ | ⟨x, l, c, zs, hcs, _, hl, hm, hz, _, hcell, hwz⟩
    · simp [Value.cells] at hcs
      obtain ⟨rfl, rfl, rfl⟩ := hcs
      exact ⟨[], .inl ⟨rfl, rfl, rfl, rfl⟩⟩
    · simp [Value.cells] at hcs
      obtain ⟨rfl, rfl, rfl⟩ := hcs
      exact ⟨zs, .inr ⟨_, rfl, hl, hm, by simpa using hz, hcell, hwz⟩⟩
  obtain ⟨a1, len1, cap1, rfl⟩ := okWide_slice Try.underlying22 (hval 1 22 v1 rfl rfl)
  have k1 := h1
  have lt1 : ∀ x ∈ p1, x.block < W.heap.size := by obtain ⟨m, hm⟩ := k1; exact DataW.trod_lt m _ _ _ hm
  obtain ⟨z1, w1⟩ : ∃ zs, IsRow .u8 W a1 len1 cap1 zs := by
    obtain ⟨fuel, hf⟩ := h1
    rcases open_ints Try.underlying22 Try.underlying5 (by kernel_rfl) hf with ⟨hcs, _⟩ | ⟨x, l, c, zs, hcs, _, hl, hm, hz, _, hcell, hwz⟩
    · simp [Value.cells] at hcs
      obtain ⟨rfl, rfl, rfl⟩ := hcs
      exact ⟨[], .inl ⟨rfl, rfl, rfl, rfl⟩⟩
    · simp [Value.cells] at hcs
      obtain ⟨rfl, rfl, rfl⟩ := hcs
      exact ⟨zs, .inr ⟨_, rfl, hl, hm, by simpa using hz, hcell, hwz⟩⟩
  clear hA0 hval0
  refine (walk a0 len0 cap0 z0 a1 len1 cap1 z1 W w0 w1).mono fun e W' ⟨he, bel⟩ => ?_
  subst he
  exact ⟨_, rfl, _, _, _, [], _, [], hW', trodAll_mk1 (shut_bool Try.underlying4 _), (trodAll_cons_mk (Below.trod laidOut (by kernel_rfl) (of_decide_eq_true (by kernel_rfl)) k0 bel lt0) (trodAll_cons_mk (Below.trod laidOut (by kernel_rfl) (of_decide_eq_true (by kernel_rfl)) k1 bel lt1) trodAll_mk0)), rfl, bel.frame _, fun h => by cases h⟩

theorem over : Rows.fnMergeLayersCountRow.holds Try.pinned (OpenSpec.ofChange Rows.fnMergeLayersCountSpec) :=
  OpenClaim.holds_of_wide 10 Try.f10 rfl rfl rfl rfl rfl rfl rfl ⟨rfl, rfl, rfl, rfl, rfl⟩ rfl rfl rfl rfl rfl (by kernel_rfl) Try.func10 (by kernel_rfl)
    (of_decide_eq_true (by kernel_rfl)) (by unfold Func.isWrapper; first | (rw [if_pos (by decide +kernel)]; kernel_rfl) | (rw [if_neg (by decide +kernel)]; exact ⟨rfl, rfl⟩))
    (fun os started H enc _ => lifted os started H enc)

/-- ████ THE STATEMENT ████ -/
theorem proved : Rows.FnMergeLayersCountSaid := over
#print axioms proved
end Go.Proofs.Ytbjeedeapioljaa.fnMergeLayersCount
