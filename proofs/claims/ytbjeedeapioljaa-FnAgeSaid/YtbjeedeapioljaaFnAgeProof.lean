/- For every input, the law FnAge of the given statements returns true over the program at this commit, and its arguments read afterwards as before: no condition. -/
import Derived.Test.YtbjeedeapioljaaRows
import Derived.Test.YtbjeedeapioljaaLawL
import Derived.WalkKit
import Derived.ProofKit
import Derived.OpenShut
import Derived.ShutString
import Derived.ChangeOld
import Derived.Below
namespace Go.Proofs.Ytbjeedeapioljaa.fnAge
open Go.ChangeShapes Go.WideShapes Go.ChangeAt Go.RowKit
open Go.ChangeMaps (open_string shut_string)
set_option linter.unusedVariables false

theorem own : ownKnob Try.prog.godebug = none := by kernel_rfl
theorem laidOut : laidOutB Try.prog = true := by kernel_rfl

/-- WHAT THE WALK IS TOLD OF A SLICE OF INTEGERS THAT CAME IN: it is nil; or it leads to a row of 'cap' cells, the numbers 'zs' (the first 'len' are its elements, the rest its spare room), each fitting its kind. -/
def IsRow (k : IntKind) (w : World) (a : Option Addr) (len cap : Nat) (zs : List Int) : Prop :=
  (a = none ∧ len = 0 ∧ cap = 0 ∧ zs = []) ∨
  ∃ x, a = some x ∧ len ≤ cap ∧ cap ≤ maxLen ∧ zs.length = cap ∧ (∀ i, i < zs.length → w.cell? (x.add i) = some (.int k (zs.getD i 0))) ∧ ∀ n ∈ zs, (Lit.int k n).wf = true

set_option maxRecDepth 100000 in
set_option maxHeartbeats 3200000 in
theorem walk (a0 : Option Addr) (len0 cap0 : Nat) (z0 : List Int) (w : World) (w0 : IsRow .u8 w a0 len0 cap0 z0) :
    Calls Try.prog 7 #[.slice a0 len0 cap0] w fun e w' => e = .returned (.bool true) ∧ Below w.heap.size w w' := by
  have hB := bytes_of w0
  by_cases hl : 1048576 < len0
  · have hdec : decide (1048576 < len0) = true := by simpa using hl
    go_enter Try.func7, Try.ntmps7
    go_wp2_with fail
    go_ret
    exact ⟨rfl, Below.refl _ _⟩
  have hdec : decide (1048576 < len0) = false := by simpa using hl
  have hm : len0 ≤ 1048576 := by omega
  go_enter Try.func7, Try.ntmps7
  go_wp2_with fail
  refine (DrawLayersAge_any hB).mono ?_
  rintro e wv1 ⟨v, l, t, b, rfl, r0, b1⟩
  clear w0 hB
  have BB := Lib.hid b1
  clear b1
  have R := Lib.hid r0
  clear r0
  cases ho : ageOk l t b
  · have HO := Lib.hid ho
    clear ho
    go_wp2_with fail
    refine (ageI_no R.out HO.out).mono ?_
    rintro e wv2 ⟨rfl, b9⟩
    replace R := Lib.hid (R.out.grow b9)
    replace BB := Lib.hid (BB.out.trans (b9.mono BB.out.size))
    clear b9
    go_wp2_with fail
    refine (ageS_no R.out HO.out).mono ?_
    rintro e wv3 ⟨rfl, b9⟩
    replace R := Lib.hid (R.out.grow b9)
    replace BB := Lib.hid (BB.out.trans (b9.mono BB.out.size))
    clear b9
    go_wp2_with fail
    go_ret
    exact ⟨by first | rfl | (simp; done) | (simp; omega), BB.out⟩
  · have HO := Lib.hid ho
    obtain ⟨hr, b0, b3, t4, t5⟩ := ageOk_iff.1 ho
    obtain ⟨x40, y40, xy⟩ := cnt_bounds hr 0 b
    have l40 := lay_len hr
    have HR := Lib.hid hr
    clear ho hr
    obtain ⟨x, hx⟩ : ∃ x : Nat, cntS 0 b l = x := ⟨_, rfl⟩
    obtain ⟨y, hy⟩ : ∃ y : Nat, cntA 0 b l = y := ⟨_, rfl⟩
    rw [hx] at x40 xy
    rw [hy] at y40 xy
    have HX := Lib.hid hx; have HY := Lib.hid hy
    clear hx hy
    have EX : Hid (t + (cntS 0 b l : Int) = t + x) := Lib.hid (by rw [HX.out]); have EY : Hid (t + (cntA 0 b l : Int) = t + y) := Lib.hid (by rw [HY.out])
    go_wp2_with fail
    refine (ageI_yes R.out HO.out EX.out EY.out).mono ?_
    rintro e wv2 ⟨rfl, b9⟩
    replace R := Lib.hid (R.out.grow b9)
    replace BB := Lib.hid (BB.out.trans (b9.mono BB.out.size))
    clear b9
    go_wp2_with fail
    refine (ageS_yes R.out HO.out EX.out EY.out).mono ?_
    rintro e wv3 ⟨rfl, b9⟩
    replace R := Lib.hid (R.out.grow b9)
    replace BB := Lib.hid (BB.out.trans (b9.mono BB.out.size))
    clear b9
    have HO0 := Lib.hid (ageOk_iff.2 ⟨HR.out, by omega, by omega, t4, t5⟩ : ageOk l t 0 = true)
    obtain ⟨n1, n2⟩ := cnt_none 0 0 (Int.le_refl 0) l
    have E1 : Hid (t + (cntS 0 0 l : Int) = t) := Lib.hid (by rw [n2]; simp); have E2 : Hid (t + (cntA 0 0 l : Int) = t) := Lib.hid (by rw [n1]; simp)
    clear n1 n2
    go_wp2_with fail
    refine (ageI_yes R.out HO0.out E1.out E2.out).mono ?_
    rintro e wv4 ⟨rfl, b9⟩
    replace R := Lib.hid (R.out.grow b9)
    replace BB := Lib.hid (BB.out.trans (b9.mono BB.out.size))
    clear b9
    have z1 : IntKind.i64.wrap (b + 1) = b + 1 := IntWalk.i64_in _ (by omega)
    have z2 : IntKind.i64.wrap (t + 1) = t + 1 := IntWalk.i64_in _ (by omega)
    have z3 : IntKind.i64.wrap (t + (x : Int) + 1) = t + (x : Int) + 1 := IntWalk.i64_in _ (by omega)
    have z4 : IntKind.i64.wrap (t + (y : Int) + 1) = t + (y : Int) + 1 := IntWalk.i64_in _ (by omega)
    obtain ⟨sA, sS⟩ := cnt_split 0 b (b + 1) (by omega) (by omega) l
    have wv1 := up_at (-1) l (isLay_iff.1 HR.out).2.1 b
    have wv2 := cntS_le b (b + 1) l
    rw [HX.out] at sS
    rw [HY.out] at sA
    obtain ⟨x1, hx1⟩ : ∃ x : Nat, cntS 0 (b + 1) l = x := ⟨_, rfl⟩
    obtain ⟨y1, hy1⟩ : ∃ x : Nat, cntA 0 (b + 1) l = x := ⟨_, rfl⟩
    rw [hx1] at sS
    rw [hy1] at sA
    have hb1 : x ≤ x1 ∧ x1 ≤ x + 1 ∧ y ≤ y1 ∧ y1 ≤ y + 1 := by omega
    obtain ⟨i1, i2, i3, i4⟩ := hb1
    have EX1 : Hid (t + (cntS 0 (b + 1) l : Int) = t + x1) := Lib.hid (by rw [hx1]); have EY1 : Hid (t + (cntA 0 (b + 1) l : Int) = t + y1) := Lib.hid (by rw [hy1])
    clear hx1 hy1 sA sS wv1 wv2
    have EX2 : Hid (t + 1 + (cntS 0 b l : Int) = t + x + 1) := Lib.hid (by rw [HX.out]; omega); have EY2 : Hid (t + 1 + (cntA 0 b l : Int) = t + y + 1) := Lib.hid (by rw [HY.out]; omega)
    by_cases cq : b + 1 ≤ 30000
    · have HO1 := Lib.hid (show ageOk l t (b + 1) = true from ageOk_iff.2 ⟨HR.out, by omega, cq, t4, t5⟩)
      clear cq
      go_wp2_with fail
      refine (ageI_yes R.out HO1.out EX1.out EY1.out).mono ?_
      rintro e wv5 ⟨rfl, b9⟩
      replace R := Lib.hid (R.out.grow b9)
      replace BB := Lib.hid (BB.out.trans (b9.mono BB.out.size))
      clear b9
      by_cases ct : t + 1 ≤ 400000
      · have HO2 := Lib.hid (show ageOk l (t + 1) b = true from ageOk_iff.2 ⟨HR.out, b0, b3, by omega, ct⟩)
        clear ct
        go_wp2_with fail
        refine (ageI_yes R.out HO2.out EX2.out EY2.out).mono ?_
        rintro e wv6 ⟨rfl, b9⟩
        replace R := Lib.hid (R.out.grow b9)
        replace BB := Lib.hid (BB.out.trans (b9.mono BB.out.size))
        clear b9
        go_wp2_with fail
        go_ret
        exact ⟨by first | rfl | (simp; done) | (simp; omega), BB.out⟩
      · have HO2 := Lib.hid (show ageOk l (t + 1) b = false from by
          cases e : ageOk l (t + 1) b
          · rfl
          · exact absurd (ageOk_iff.1 e).2.2.2.2 ct)
        clear ct
        go_wp2_with fail
        refine (ageI_no R.out HO2.out).mono ?_
        rintro e wv6 ⟨rfl, b9⟩
        replace R := Lib.hid (R.out.grow b9)
        replace BB := Lib.hid (BB.out.trans (b9.mono BB.out.size))
        clear b9
        go_wp2_with fail
        go_ret
        exact ⟨by first | rfl | (simp; done) | (simp; omega), BB.out⟩
    · have HO1 := Lib.hid (show ageOk l t (b + 1) = false from by
        cases e : ageOk l t (b + 1)
        · rfl
        · exact absurd (ageOk_iff.1 e).2.2.1 cq)
      clear cq
      go_wp2_with fail
      refine (ageI_no R.out HO1.out).mono ?_
      rintro e wv5 ⟨rfl, b9⟩
      replace R := Lib.hid (R.out.grow b9)
      replace BB := Lib.hid (BB.out.trans (b9.mono BB.out.size))
      clear b9
      by_cases ct : t + 1 ≤ 400000
      · have HO2 := Lib.hid (show ageOk l (t + 1) b = true from ageOk_iff.2 ⟨HR.out, b0, b3, by omega, ct⟩)
        clear ct
        go_wp2_with fail
        refine (ageI_yes R.out HO2.out EX2.out EY2.out).mono ?_
        rintro e wv6 ⟨rfl, b9⟩
        replace R := Lib.hid (R.out.grow b9)
        replace BB := Lib.hid (BB.out.trans (b9.mono BB.out.size))
        clear b9
        go_wp2_with fail
        go_ret
        exact ⟨by first | rfl | (simp; done) | (simp; omega), BB.out⟩
      · have HO2 := Lib.hid (show ageOk l (t + 1) b = false from by
          cases e : ageOk l (t + 1) b
          · rfl
          · exact absurd (ageOk_iff.1 e).2.2.2.2 ct)
        clear ct
        go_wp2_with fail
        refine (ageI_no R.out HO2.out).mono ?_
        rintro e wv6 ⟨rfl, b9⟩
        replace R := Lib.hid (R.out.grow b9)
        replace BB := Lib.hid (BB.out.trans (b9.mono BB.out.size))
        clear b9
        go_wp2_with fail
        go_ret
        exact ⟨by first | rfl | (simp; done) | (simp; omega), BB.out⟩

set_option maxRecDepth 100000 in
theorem lifted (os : Os) (started : os.Started) (H : Type) (enc : TypeId × Value → H) :
    ReturnsInHanded {} Try.checked os 7 .any (Rows.fnAgeSpec.pre6 enc Try.prog Try.f7 Rows.fnAgeRow.domain false) (Rows.fnAgeSpec.post enc Try.prog Try.f7 false true false false) := by
  refine returnsInHanded_of_change (C := Try.checked) own started (by kernel_rfl) Try.func7
    (ChangeSpec.witness6 (enc := enc) (C := Try.checked) false ⟨#[], #[.slice none 0 0], []⟩ 8 (by kernel_rfl) (by kernel_rfl) (by kernel_rfl) (by kernel_rfl)) ?_
  intro W base args ds gs before hval0 hW hcnd _
  have hval : ∀ (j : Nat) t v, Try.f7.params[j]? = some t → args[j]? = some v → Value.okWide Try.prog W .any base t v := hval0
  have hW' := hW
  obtain ⟨p, q, hA0, hV, rfl, hfz, hnd⟩ := hW
  have hA : DataW.TrodAll enc Try.prog W 0 (fun _ => true) true Try.f7.params.toList args.toList ds p := hA0
  rw [Try.params7] at hA hval
  obtain ⟨v0, vs0, d0, ds0, p0, q0, hargs, rfl, rfl, h0, r0⟩ := trodAll_cons hA
  obtain ⟨rfl, rfl, rfl⟩ := trodAll_nil r0
  obtain rfl : args = #[v0] := by cases args; simp_all
  obtain ⟨rfl, rfl⟩ := trodVars_none hV
  obtain ⟨a0, len0, cap0, rfl⟩ := okWide_slice Try.underlying22 (hval 0 22 v0 rfl rfl)
  have k0 := h0
  have lt0 : ∀ x ∈ p0, x.block < W.heap.size := by obtain ⟨m, hm⟩ := k0; exact DataW.trod_lt m _ _ _ hm
  obtain ⟨z0, w0⟩ : ∃ zs, IsRow .u8 W a0 len0 cap0 zs := by
    obtain ⟨fuel, hf⟩ := h0
    rcases open_ints Try.underlying22 Try.underlying5 (by kernel_rfl) hf with ⟨hcs, _⟩ | ⟨x, l, c, zs, hcs, _, hl, hm, hz, _, hcell, hwz⟩
    · simp [Value.cells] at hcs
      obtain ⟨rfl, rfl, rfl⟩ := hcs
      exact ⟨[], .inl ⟨rfl, rfl, rfl, rfl⟩⟩
    · simp [Value.cells] at hcs
      obtain ⟨rfl, rfl, rfl⟩ := hcs
      exact ⟨zs, .inr ⟨_, rfl, hl, hm, by simpa using hz, hcell, hwz⟩⟩
  clear hA0 hval0
  refine (walk a0 len0 cap0 z0 W w0).mono fun e W' ⟨he, bel⟩ => ?_
  subst he
  exact ⟨_, rfl, _, _, _, [], _, [], hW', trodAll_mk1 (shut_bool Try.underlying4 _), (trodAll_cons_mk (Below.trod laidOut (by kernel_rfl) (of_decide_eq_true (by kernel_rfl)) k0 bel lt0) trodAll_mk0), rfl, bel.frame _, fun h => by cases h⟩

theorem over : Rows.fnAgeRow.holds Try.pinned (OpenSpec.ofChange Rows.fnAgeSpec) :=
  OpenClaim.holds_of_wide 7 Try.f7 rfl rfl rfl rfl rfl rfl rfl ⟨rfl, rfl, rfl, rfl, rfl⟩ rfl rfl rfl rfl rfl (by kernel_rfl) Try.func7 (by kernel_rfl)
    (of_decide_eq_true (by kernel_rfl)) (by unfold Func.isWrapper; first | (rw [if_pos (by decide +kernel)]; kernel_rfl) | (rw [if_neg (by decide +kernel)]; exact ⟨rfl, rfl⟩))
    (fun os started H enc _ => lifted os started H enc)

/-- ████ THE STATEMENT ████ -/
theorem proved : Rows.FnAgeSaid := over
#print axioms proved
end Go.Proofs.Ytbjeedeapioljaa.fnAge
