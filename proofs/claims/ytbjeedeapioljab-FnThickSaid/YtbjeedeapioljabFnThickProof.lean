/- For every input, the law FnThick of the given statements returns true over the program at this commit, and its arguments read afterwards as before: no condition. -/
import Derived.Test.YtbjeedeapioljabRows
import Derived.Test.YtbjeedeapioljabLawL2
import Derived.WalkKit
import Derived.ProofKit
import Derived.OpenShut
import Derived.ShutString
import Derived.ChangeOld
import Derived.Below
namespace Go.Proofs.Ytbjeedeapioljab.fnThick
open Go.ChangeShapes Go.WideShapes Go.ChangeAt Go.RowKit
open Go.ChangeMaps (open_string shut_string)
set_option linter.unusedVariables false

theorem own : ownKnob Try.prog.godebug = none := by kernel_rfl
theorem laidOut : laidOutB Try.prog = true := by kernel_rfl

/-- WHAT THE WALK IS TOLD OF A SLICE OF INTEGERS THAT CAME IN: it is nil; or it leads to a row of 'cap' cells, the numbers 'zs' (the first 'len' are its elements, the rest its spare room), each fitting its kind. -/
def IsRow (k : IntKind) (w : World) (a : Option Addr) (len cap : Nat) (zs : List Int) : Prop :=
  (a = none ∧ len = 0 ∧ cap = 0 ∧ zs = []) ∨
  ∃ x, a = some x ∧ len ≤ cap ∧ cap ≤ maxLen ∧ zs.length = cap ∧ (∀ i, i < zs.length → w.cell? (x.add i) = some (.int k (zs.getD i 0))) ∧ ∀ n ∈ zs, (Lit.int k n).wf = true

set_option maxRecDepth 100000 in
set_option maxHeartbeats 3200000 in
theorem walk (a0 : Option Addr) (len0 cap0 : Nat) (z0 : List Int) (w : World) (w0 : IsRow .u8 w a0 len0 cap0 z0) :
    Calls Try.prog 5 #[.slice a0 len0 cap0] w fun e w' => e = .returned (.bool true) ∧ Below w.heap.size w w' := by
  have hB := bytes_of w0
  by_cases hl : 1048576 < len0
  · have hdec : decide (1048576 < len0) = true := by simpa using hl
    go_enter Try.func5, Try.ntmps5
    go_wp2_with fail
    go_ret
    exact ⟨rfl, Below.refl _ _⟩
  have hdec : decide (1048576 < len0) = false := by simpa using hl
  have hm : len0 ≤ 1048576 := by omega
  go_enter Try.func5, Try.ntmps5
  go_wp2_with fail
  refine (DrawLayersThick_any hB).mono ?_
  rintro e wv1 ⟨v, l, rfl, r0, b1⟩
  clear w0 hB
  have BB := Lib.hid b1
  clear b1
  have R := Lib.hid r0
  clear r0
  go_wp2_with fail
  refine (implThick_any R.out).mono ?_
  rintro e wv2 ⟨vP, rfl, o9, b9⟩
  replace R := Lib.hid (R.out.grow b9)
  replace BB := Lib.hid (BB.out.trans (b9.mono BB.out.size))
  clear b9
  have P := Lib.hid o9
  clear o9
  go_wp2_with fail
  refine (specThick_any R.out).mono ?_
  rintro e wv3 ⟨vY, rfl, o9, b9⟩
  replace R := Lib.hid (R.out.grow b9)
  replace P := Lib.hid (P.out.grow b9)
  replace BB := Lib.hid (BB.out.trans (b9.mono BB.out.size))
  clear b9
  have Y := Lib.hid o9
  clear o9
  go_wp2_with fail
  refine (isame_yes P.out.row Y.out.row rfl).mono ?_
  rintro e wv4 ⟨rfl, b9⟩
  replace R := Lib.hid (R.out.grow b9)
  replace P := Lib.hid (P.out.grow b9)
  replace Y := Lib.hid (Y.out.grow b9)
  replace BB := Lib.hid (BB.out.trans (b9.mono BB.out.size))
  clear b9
  by_cases em : thk l = []
  · have E0 : Hid ((thk l).length = 0) := Lib.hid (by rw [em]; rfl)
    obtain ⟨aP, cP, rfl, kP, mP⟩ := islice P.out.row E0.out
    go_wp2_with fail
    refine (isame_yes P.out.row Y.out.row rfl).mono ?_
    rintro e wv5 ⟨rfl, b9⟩
    replace R := Lib.hid (R.out.grow b9)
    replace P := Lib.hid (P.out.grow b9)
    replace Y := Lib.hid (Y.out.grow b9)
    replace BB := Lib.hid (BB.out.trans (b9.mono BB.out.size))
    clear b9
    go_wp2_with fail
    go_ret
    exact ⟨by first | rfl | (simp; done) | (simp; omega), BB.out⟩
  · obtain ⟨fa, fb, hfa, hfb, hsum, hpos, hr, hsl⟩ := thk_sum em
    obtain ⟨m, hm⟩ : ∃ m, (thk l).length = m + 1 := ⟨(thk l).length - 1, by have := List.length_pos_iff.2 em; omega⟩
    have t40 := thk_len hr
    have TS := Lib.hid (thk_small hr)
    rw [hm] at hfb hsl t40
    have EM := Lib.hid em; have HR := Lib.hid hr; have HP := Lib.hid hm; have FA := Lib.hid hfa; have FB := Lib.hid hfb; have SU := Lib.hid hsum; have PO := Lib.hid hpos; have SL := Lib.hid hsl
    have l40 := lay_len hr
    clear em hfa hfb hsum hpos hr hm hsl
    clear Y
    obtain ⟨gP, pP, cP, rfl, kP, mP⟩ := iknown P.out.row HP.out (by omega)
    have i7 : (((m : Int) + 1) == 0) = false := by simp; omega
    obtain ⟨x, hx⟩ : ∃ x : Nat, cntS 0 30000 l = x := ⟨_, rfl⟩
    obtain ⟨y, hy⟩ : ∃ x : Nat, cntA 0 30000 l = x := ⟨_, rfl⟩
    have ca := cntS_all l 0 30000
    rw [hx, SL.out] at ca
    have HX := Lib.hid hx; have HY := Lib.hid hy
    clear hx hy
    have HO1 := Lib.hid (cntOk_iff.2 ⟨HR.out, by omega, by omega, by omega⟩ : cntOk l 0 30000 = true)
    obtain ⟨_, _, _, fa0, fa3, _, _⟩ := dth_cnt FA.out
    obtain ⟨_, _, _, fb0, fb3, _, _⟩ := dth_cnt FB.out
    replace FB : Hid (dthOk l ((m : Int) + 1 + 1) = some fb) := Lib.hid (by have := FB.out; simpa using this)
    have z1 : IntKind.i64.wrap ((m : Int) + 1 + 1) = (m : Int) + 1 + 1 := IntWalk.i64_in _ (by omega)
    have z2 : IntKind.i64.wrap (fb - fa) = fb - fa := IntWalk.i64_in _ (by omega)
    go_wp2_with fail
    refine (cntI_yes R.out HO1.out HX.out HY.out).mono ?_
    rintro e wv5 ⟨rfl, b9⟩
    replace R := Lib.hid (R.out.grow b9)
    replace P := Lib.hid (P.out.grow b9)
    replace BB := Lib.hid (BB.out.trans (b9.mono BB.out.size))
    clear b9
    go_wp2_with fail
    refine (dthI_yes R.out FA.out).mono ?_
    rintro e wv6 ⟨rfl, b9⟩
    replace R := Lib.hid (R.out.grow b9)
    replace P := Lib.hid (P.out.grow b9)
    replace BB := Lib.hid (BB.out.trans (b9.mono BB.out.size))
    clear b9
    go_wp2_with fail
    refine (dthI_yes R.out FB.out).mono ?_
    rintro e wv7 ⟨rfl, b9⟩
    replace R := Lib.hid (R.out.grow b9)
    replace P := Lib.hid (P.out.grow b9)
    replace BB := Lib.hid (BB.out.trans (b9.mono BB.out.size))
    clear b9
    go_wp2_with fail
    go_loopg [13] (m + 1) (fun k x wr => ∃ j : Nat, x = .int .i64 j ∧ j + k = (m + 1) ∧ Below wv7.heap.size wv7 wr)
    case atStart => exact ⟨0, rfl, by omega, Below.refl _ _⟩
    case round =>
      obtain ⟨wv8, rfl⟩ : ∃ x, x = wr := ⟨wr, rfl⟩
      obtain ⟨j, rfl, hk, hb⟩ := hrel
      have K := Lib.hid hk; have B := Lib.hid hb
      have hjn : j ≤ (m + 1) := by omega
      clear hk hb
      replace R := Lib.hid (R.out.grow B.out)
      replace P := Lib.hid (P.out.grow B.out)
      replace BB := Lib.hid (BB.out.trans (B.out.mono BB.out.size))
      by_cases hlt : j < (m + 1)
      · have i1 : (j : Int) < ((m + 1) : Int) := by omega
        have i2 : (0 : Int) ≤ (j : Int) := by omega
        have hjt : j < (thk l).length := by rw [HP.out]; exact hlt
        have cq := P.out.row.cells j hjt
        have pe := PO.out _ (List.getElem_mem hjt)
        obtain ⟨q, hq⟩ : ∃ x : Int, (thk l)[j]'hjt = x := ⟨_, rfl⟩
        rw [hq] at cq pe
        clear hq hjt
        have t1 : decide (q < 1) = false := by simp; omega
        have i3 : (j : Int) < (m : Int) + 1 := by omega
        go_wp2_with fail
        go_roundg (gk - 1)
        case measure => have := K.out; omega
        case rel => exact ⟨j + 1, by go_num, by have := K.out; omega, B.out⟩
      · have hj : j = (m + 1) := by omega
        have nlt : ¬ (j : Int) < ((m + 1) : Int) := by omega
        clear hlt
        have i3 : ¬ (j : Int) < (m : Int) + 1 := by omega
        have i4 : (x : Int) ≤ (m : Int) + 1 + 1 := by omega
        go_wp2_with fail
        refine (sumOf_any P.out.row TS.out (by rw [HP.out]; omega)).mono ?_
        rintro e wv9 ⟨rfl, b9⟩
        replace R := Lib.hid (R.out.grow b9)
        replace P := Lib.hid (P.out.grow b9)
        replace BB := Lib.hid (BB.out.trans (b9.mono BB.out.size))
        clear b9
        rw [SU.out]
        go_wp2_with fail
        go_ret
        exact ⟨by first | rfl | (simp; done) | (simp; omega), BB.out⟩

set_option maxRecDepth 100000 in
theorem lifted (os : Os) (started : os.Started) (H : Type) (enc : TypeId × Value → H) :
    ReturnsInHanded {} Try.checked os 5 .any (Rows.fnThickSpec.pre6 enc Try.prog Try.f5 Rows.fnThickRow.domain false) (Rows.fnThickSpec.post enc Try.prog Try.f5 false true false false) := by
  refine returnsInHanded_of_change (C := Try.checked) own started (by kernel_rfl) Try.func5
    (ChangeSpec.witness6 (enc := enc) (C := Try.checked) false ⟨#[], #[.slice none 0 0], []⟩ 8 (by kernel_rfl) (by kernel_rfl) (by kernel_rfl) (by kernel_rfl)) ?_
  intro W base args ds gs before hval0 hW hcnd _
  have hval : ∀ (j : Nat) t v, Try.f5.params[j]? = some t → args[j]? = some v → Value.okWide Try.prog W .any base t v := hval0
  have hW' := hW
  obtain ⟨p, q, hA0, hV, rfl, hfz, hnd⟩ := hW
  have hA : DataW.TrodAll enc Try.prog W 0 (fun _ => true) true Try.f5.params.toList args.toList ds p := hA0
  rw [Try.params5] at hA hval
  obtain ⟨v0, vs0, d0, ds0, p0, q0, hargs, rfl, rfl, h0, r0⟩ := trodAll_cons hA
  obtain ⟨rfl, rfl, rfl⟩ := trodAll_nil r0
  obtain rfl : args = #[v0] := by cases args; simp_all
  obtain ⟨rfl, rfl⟩ := trodVars_none hV
  obtain ⟨a0, len0, cap0, rfl⟩ := okWide_slice Try.underlying22 (hval 0 22 v0 rfl rfl)
  have k0 := h0
  have lt0 : ∀ x ∈ p0, x.block < W.heap.size := by obtain ⟨m, hm⟩ := k0; exact DataW.trod_lt m _ _ _ hm
  obtain ⟨z0, w0⟩ : ∃ zs, IsRow .u8 W a0 len0 cap0 zs := by
    obtain ⟨fuel, hf⟩ := h0
    rcases open_ints Try.underlying22 Try.underlying5 (by kernel_rfl) hf with ⟨hcs, _⟩ | ⟨x, l, c, zs, hcs, _, hl, hm, hz, _, hcell, hwz⟩
    · simp [Value.cells] at hcs
      obtain ⟨rfl, rfl, rfl⟩ := hcs
      exact ⟨[], .inl ⟨rfl, rfl, rfl, rfl⟩⟩
    · simp [Value.cells] at hcs
      obtain ⟨rfl, rfl, rfl⟩ := hcs
      exact ⟨zs, .inr ⟨_, rfl, hl, hm, by simpa using hz, hcell, hwz⟩⟩
  clear hA0 hval0
  refine (walk a0 len0 cap0 z0 W w0).mono fun e W' ⟨he, bel⟩ => ?_
  subst he
  exact ⟨_, rfl, _, _, _, [], _, [], hW', trodAll_mk1 (shut_bool Try.underlying4 _), (trodAll_cons_mk (Below.trod laidOut (by kernel_rfl) (of_decide_eq_true (by kernel_rfl)) k0 bel lt0) trodAll_mk0), rfl, bel.frame _, fun h => by cases h⟩

theorem over : Rows.fnThickRow.holds Try.pinned (OpenSpec.ofChange Rows.fnThickSpec) :=
  OpenClaim.holds_of_wide 5 Try.f5 rfl rfl rfl rfl rfl rfl rfl ⟨rfl, rfl, rfl, rfl, rfl⟩ rfl rfl rfl rfl rfl (by kernel_rfl) Try.func5 (by kernel_rfl)
    (of_decide_eq_true (by kernel_rfl)) (by unfold Func.isWrapper; first | (rw [if_pos (by decide +kernel)]; kernel_rfl) | (rw [if_neg (by decide +kernel)]; exact ⟨rfl, rfl⟩))
    (fun os started H enc _ => lifted os started H enc)

/-- ████ THE STATEMENT ████ -/
theorem proved : Rows.FnThickSaid := over
#print axioms proved
end Go.Proofs.Ytbjeedeapioljab.fnThick
