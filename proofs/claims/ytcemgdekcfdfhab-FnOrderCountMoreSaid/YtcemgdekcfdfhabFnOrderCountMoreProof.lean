/- For every input, the law FnOrderCountMore of the given statements returns true over the program at this commit, and its arguments read afterwards as before: no condition. -/
import Derived.Test.YtcemgdekcfdfhabRows
import Derived.Test.YtcemgdekcfdfhabLawP
import Derived.WalkKit
import Derived.ProofKit
import Derived.OpenShut
import Derived.ShutString
import Derived.ChangeOld
import Derived.Below
namespace Go.Proofs.Ytcemgdekcfdfhab.fnOrderCountMore
open Go.ChangeShapes Go.WideShapes Go.ChangeAt Go.RowKit
open Go.ChangeMaps (open_string shut_string)
set_option linter.unusedVariables false

theorem own : ownKnob Try.prog.godebug = none := by kernel_rfl
theorem laidOut : laidOutB Try.prog = true := by kernel_rfl

/-- WHAT THE WALK IS TOLD OF A SLICE OF INTEGERS THAT CAME IN: it is nil; or it leads to a row of 'cap' cells, the numbers 'zs' (the first 'len' are its elements, the rest its spare room), each fitting its kind. -/
def IsRow (k : IntKind) (w : World) (a : Option Addr) (len cap : Nat) (zs : List Int) : Prop :=
  (a = none ∧ len = 0 ∧ cap = 0 ∧ zs = []) ∨
  ∃ x, a = some x ∧ len ≤ cap ∧ cap ≤ maxLen ∧ zs.length = cap ∧ (∀ i, i < zs.length → w.cell? (x.add i) = some (.int k (zs.getD i 0))) ∧ ∀ n ∈ zs, (Lit.int k n).wf = true

set_option maxRecDepth 100000 in
set_option maxHeartbeats 3200000 in
theorem walk (a0 : Option Addr) (len0 cap0 : Nat) (z0 : List Int) (a1 : Option Addr) (len1 cap1 : Nat) (z1 : List Int) (w : World) (w0 : IsRow .u8 w a0 len0 cap0 z0) (w1 : IsRow .u8 w a1 len1 cap1 z1) :
    Calls Try.prog 5 #[.slice a0 len0 cap0, .slice a1 len1 cap1] w fun e w' => e = .returned (.bool true) ∧ Below w.heap.size w w' := by
  have hB := bytes_of w0
  have hB1 := bytes_len (bytes_of w1)
  unfold maxLen at hB1
  by_cases hl : 1048576 < len0
  · have hdec : decide (1048576 < len0) = true := by simpa using hl
    go_enter Try.func5, Try.ntmps5
    go_wp2_with fail
    go_ret
    exact ⟨rfl, Below.refl _ _⟩
  have hdec : decide (1048576 < len0) = false := by simpa using hl
  by_cases hl1 : 1048576 < len1
  · go_enter Try.func5, Try.ntmps5
    go_wp2_with fail
    go_ret
    exact ⟨rfl, Below.refl _ _⟩
  have hm : len0 ≤ 1048576 := by omega
  have hm1 : len1 ≤ 1048576 := by omega
  clear hB1
  go_enter Try.func5, Try.ntmps5
  go_wp2_with fail
  refine (DrawOrderCount_any hB).mono ?_
  rintro e wv1 ⟨v, u, l, s, rfl, ⟨r0, r1, l1, l3, s1, s4, bl, bs⟩, b1⟩
  clear w0 w1 hB
  have BB := Lib.hid b1
  clear b1
  have R := Lib.hid r0
  clear r0
  have U := Lib.hid r1
  clear r1
  replace R := Lib.hid R.out.row
  replace U := Lib.hid U.out.row
  obtain ⟨aR, cR, rfl, kR, mR⟩ := plen_n R.out
  obtain ⟨aU, cU, rfl, kU, mU⟩ := plen_n U.out
  rcases count_cases l s with hc | ⟨hw, hc, hp, hq⟩
  · have HC := Lib.hid hc
    clear hc
    go_wp2_with fail
    refine (cntI_is R.out U.out HC.out).mono ?_
    rintro e wv2 ⟨rfl, b9⟩
    replace R := Lib.hid (R.out.grow b9)
    replace U := Lib.hid (U.out.grow b9)
    replace BB := Lib.hid (BB.out.trans (b9.mono BB.out.size))
    clear b9
    go_wp2_with fail
    refine (cntS_is R.out U.out HC.out).mono ?_
    rintro e wv3 ⟨rfl, b9⟩
    replace R := Lib.hid (R.out.grow b9)
    replace U := Lib.hid (U.out.grow b9)
    replace BB := Lib.hid (BB.out.trans (b9.mono BB.out.size))
    clear b9
    go_wp2_with fail
    go_ret
    exact ⟨by first | rfl | (simp; done) | (simp; omega), BB.out⟩
  obtain ⟨z, hz⟩ : ∃ z, cnt (par l s) = z := ⟨_, rfl⟩
  rw [hz] at hc hp hq
  have CZ := Lib.hid hc; have CN := Lib.hid hz; have W := Lib.hid hw
  have g0 : ¬ (z : Int) < 0 := by omega
  clear hc hz hw
  go_wp2_with fail
  refine (cntI_is R.out U.out CZ.out).mono ?_
  rintro e wv2 ⟨rfl, b9⟩
  replace R := Lib.hid (R.out.grow b9)
  replace U := Lib.hid (U.out.grow b9)
  replace BB := Lib.hid (BB.out.trans (b9.mono BB.out.size))
  clear b9
  go_wp2_with fail
  refine (cntS_is R.out U.out CZ.out).mono ?_
  rintro e wv3 ⟨rfl, b9⟩
  replace R := Lib.hid (R.out.grow b9)
  replace U := Lib.hid (U.out.grow b9)
  replace BB := Lib.hid (BB.out.trans (b9.mono BB.out.size))
  clear b9
  obtain ⟨q, hq⟩ : ∃ j : Nat, len1 % l.length = j := ⟨_, rfl⟩
  have qn : q < l.length := by rw [← hq]; exact Nat.mod_lt _ (by omega)
  have qe : (len1 : Int) % (l.length : Int) = (q : Int) := by rw [← hq, Int.natCast_emod]
  have qt : IntKind.i64.wrap ((len1 : Int).tmod (l.length : Int)) = (q : Int) := by rw [Int.tmod_eq_emod_of_nonneg (by omega), qe]; exact IntWalk.i64_in _ (by omega)
  have qz : ((l.length : Int) == 0) = false := beq_eq_false_iff_ne.2 (by omega)
  have q3 : IntKind.i64.wrap (q : Int) = (q : Int) := IntWalk.i64_in _ (by omega)
  clear hq
  have x6 := W.out.a6 q qn
  obtain ⟨x, hx⟩ : ∃ x, l[q] = x := ⟨_, rfl⟩
  rw [hx] at x6
  have w1 : IntKind.i64.wrap (x + 1) = x + 1 := IntWalk.i64_in _ (by omega)
  have HX := Lib.hid hx
  obtain ⟨m, hmc, hcase⟩ := count_more W.out CN.out qn hx
  have MC := Lib.hid hmc; have CA := Lib.hid hcase
  have qi0 : (0 : Int) ≤ (q : Int) := by omega
  have qi1 : (q : Int) < (l.length : Int) := by omega
  clear hx hmc hcase
  obtain ⟨gR, oR, qR, eR, _, _⟩ := R.out.known (by omega)
  simp only [Value.slice.injEq, true_and] at eR
  obtain ⟨rfl, rfl⟩ := eR
  have EA := Lib.hid (iown_new (Nat.le_refl wv3.heap.size))
  have BA := Lib.hid ((Below.refl wv3.heap.size wv3).alloc (Nat.le_refl _) (.cells #[] 3))
  have XA := Lib.hid (R.out.grow BA.out)
  go_wp2_with (at_builtin; refine iappend_list inP rfl _ _ rfl (B := wv3.heap.size) _ [] rfl EA.out ⟨gR, oR, none⟩ l.length cR l rfl rfl (ilies_news fun i hi => XA.out.cells i hi) (by simp; omega) (by simp) ?_)
  intro v5 wv4 hown5 hg5
  obtain ⟨gC, pC, rfl, k5, k6, k7, k8, hp'⟩ := hown5.at (by omega)
  have d0 := (hp' q qn).cell
  have f0 := (hp' q qn).froz
  have ST := Lib.hid ((hp' q qn).set (x + 1)).row
  rw [HX.out] at d0
  have B5 := Lib.hid (BA.out.trans (EA.out.below hg5 (by simp)))
  have BS := Lib.hid (B5.out.setCell (p := ⟨gC, q, none⟩) k7 (.int .i64 (x + 1)))
  unfold maxLen at k6
  clear hp' hown5 hg5 k7 k8
  replace R := Lib.hid (R.out.grow BS.out)
  replace U := Lib.hid (U.out.grow BS.out)
  replace BB := Lib.hid (BB.out.trans (BS.out.mono BB.out.size))
  go_wp2_with fail
  refine (cntI_is ST.out U.out MC.out).mono ?_
  rintro e wv5 ⟨rfl, b9⟩
  replace R := Lib.hid (R.out.grow b9)
  replace U := Lib.hid (U.out.grow b9)
  replace ST := Lib.hid (ST.out.grow b9)
  replace BB := Lib.hid (BB.out.trans (b9.mono BB.out.size))
  clear b9
  have e1 := ST.out.cells q (by rw [List.length_set]; exact qn)
  rw [List.getElem_set_self, Nat.zero_add] at e1
  by_cases hmz : (z : Int) ≤ m
  · go_wp2_with fail
    go_ret
    exact ⟨by first | rfl | (simp; done) | (simp; omega), BB.out⟩
  · obtain ⟨rfl, rfl⟩ := CA.out.resolve_right hmz
    go_wp2_with fail
    go_ret
    exact ⟨by first | rfl | (simp; done) | (simp; omega), BB.out⟩

set_option maxRecDepth 100000 in
theorem lifted (os : Os) (started : os.Started) (H : Type) (enc : TypeId × Value → H) :
    ReturnsInHanded {} Try.checked os 5 .any (Rows.fnOrderCountMoreSpec.pre6 enc Try.prog Try.f5 Rows.fnOrderCountMoreRow.domain false) (Rows.fnOrderCountMoreSpec.post enc Try.prog Try.f5 false true false false) := by
  refine returnsInHanded_of_change (C := Try.checked) own started (by kernel_rfl) Try.func5
    (ChangeSpec.witness6 (enc := enc) (C := Try.checked) false ⟨#[], #[.slice none 0 0, .slice none 0 0], []⟩ 8 (by kernel_rfl) (by kernel_rfl) (by kernel_rfl) (by kernel_rfl)) ?_
  intro W base args ds gs before hval0 hW hcnd _
  have hval : ∀ (j : Nat) t v, Try.f5.params[j]? = some t → args[j]? = some v → Value.okWide Try.prog W .any base t v := hval0
  have hW' := hW
  obtain ⟨p, q, hA0, hV, rfl, hfz, hnd⟩ := hW
  have hA : DataW.TrodAll enc Try.prog W 0 (fun _ => true) true Try.f5.params.toList args.toList ds p := hA0
  rw [Try.params5] at hA hval
  obtain ⟨v0, vs0, d0, ds0, p0, q0, hargs, rfl, rfl, h0, r0⟩ := trodAll_cons hA
  obtain ⟨v1, vs1, d1, ds1, p1, q1, rfl, rfl, rfl, h1, r1⟩ := trodAll_cons r0
  obtain ⟨rfl, rfl, rfl⟩ := trodAll_nil r1
  obtain rfl : args = #[v0, v1] := by cases args; simp_all
  obtain ⟨rfl, rfl⟩ := trodVars_none hV
  obtain ⟨a0, len0, cap0, rfl⟩ := okWide_slice Try.underlying22 (hval 0 22 v0 rfl rfl)
  have k0 := h0
  have lt0 : ∀ x ∈ p0, x.block < W.heap.size := by obtain ⟨m, hm⟩ := k0; exact DataW.trod_lt m _ _ _ hm
  obtain ⟨z0, w0⟩ : ∃ zs, IsRow .u8 W a0 len0 cap0 zs := by
    obtain ⟨fuel, hf⟩ := h0
    rcases open_ints Try.underlying22 Try.underlying5 (by kernel_rfl) hf with ⟨hcs, _⟩ | ⟨x, l, c, zs, hcs, _, hl, hm, hz, _, hcell, hwz⟩
    · simp [Value.cells] at hcs
      obtain ⟨rfl, rfl, rfl⟩ := hcs
      exact ⟨[], .inl ⟨rfl, rfl, rfl, rfl⟩⟩
    · simp [Value.cells] at hcs
      obtain ⟨rfl, rfl, rfl⟩ := hcs
      exact ⟨zs, .inr ⟨_, rfl, hl, hm, by simpa using hz, hcell, hwz⟩⟩
  obtain ⟨a1, len1, cap1, rfl⟩ := okWide_slice Try.underlying22 (hval 1 22 v1 rfl rfl)
  have k1 := h1
  have lt1 : ∀ x ∈ p1, x.block < W.heap.size := by obtain ⟨m, hm⟩ := k1; exact DataW.trod_lt m _ _ _ hm
  obtain ⟨z1, w1⟩ : ∃ zs, IsRow .u8 W a1 len1 cap1 zs := by
    obtain ⟨fuel, hf⟩ := h1
    rcases open_ints Try.underlying22 Try.underlying5 (by kernel_rfl) hf with ⟨hcs, _⟩ | ⟨x, l, c, zs, hcs, _, hl, hm, hz, _, hcell, hwz⟩
    · simp [Value.cells] at hcs
      obtain ⟨rfl, rfl, rfl⟩ := hcs
      exact ⟨[], .inl ⟨rfl, rfl, rfl, rfl⟩⟩
    · simp [Value.cells] at hcs
      obtain ⟨rfl, rfl, rfl⟩ := hcs
      exact ⟨zs, .inr ⟨_, rfl, hl, hm, by simpa using hz, hcell, hwz⟩⟩
  clear hA0 hval0
  refine (walk a0 len0 cap0 z0 a1 len1 cap1 z1 W w0 w1).mono fun e W' ⟨he, bel⟩ => ?_
  subst he
  exact ⟨_, rfl, _, _, _, [], _, [], hW', trodAll_mk1 (shut_bool Try.underlying4 _), (trodAll_cons_mk (Below.trod laidOut (by kernel_rfl) (of_decide_eq_true (by kernel_rfl)) k0 bel lt0) (trodAll_cons_mk (Below.trod laidOut (by kernel_rfl) (of_decide_eq_true (by kernel_rfl)) k1 bel lt1) trodAll_mk0)), rfl, bel.frame _, fun h => by cases h⟩

theorem over : Rows.fnOrderCountMoreRow.holds Try.pinned (OpenSpec.ofChange Rows.fnOrderCountMoreSpec) :=
  OpenClaim.holds_of_wide 5 Try.f5 rfl rfl rfl rfl rfl rfl rfl ⟨rfl, rfl, rfl, rfl, rfl⟩ rfl rfl rfl rfl rfl (by kernel_rfl) Try.func5 (by kernel_rfl)
    (of_decide_eq_true (by kernel_rfl)) (by unfold Func.isWrapper; first | (rw [if_pos (by decide +kernel)]; kernel_rfl) | (rw [if_neg (by decide +kernel)]; exact ⟨rfl, rfl⟩))
    (fun os started H enc _ => lifted os started H enc)

/-- ████ THE STATEMENT ████ -/
theorem proved : Rows.FnOrderCountMoreSaid := over
#print axioms proved
end Go.Proofs.Ytcemgdekcfdfhab.fnOrderCountMore
