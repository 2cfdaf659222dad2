/- For every input, the law FnRoughPass of the given statements returns true over the program at this commit, and its arguments read afterwards as before: no condition. -/
import Derived.Test.YtdnalkppligodabRows
import Derived.Test.YtdnalkppligodabLawS2
import Derived.WalkKit
import Derived.ProofKit
import Derived.OpenShut
import Derived.ShutString
import Derived.ChangeOld
import Derived.Below
namespace Go.Proofs.Ytdnalkppligodab.fnRoughPass
open Go.ChangeShapes Go.WideShapes Go.ChangeAt Go.RowKit
open Go.ChangeMaps (open_string shut_string)
set_option linter.unusedVariables false

theorem own : ownKnob Try.prog.godebug = none := by kernel_rfl
theorem laidOut : laidOutB Try.prog = true := by kernel_rfl

/-- WHAT THE WALK IS TOLD OF A SLICE OF INTEGERS THAT CAME IN: it is nil; or it leads to a row of 'cap' cells, the numbers 'zs' (the first 'len' are its elements, the rest its spare room), each fitting its kind. -/
def IsRow (k : IntKind) (w : World) (a : Option Addr) (len cap : Nat) (zs : List Int) : Prop :=
  (a = none ∧ len = 0 ∧ cap = 0 ∧ zs = []) ∨
  ∃ x, a = some x ∧ len ≤ cap ∧ cap ≤ maxLen ∧ zs.length = cap ∧ (∀ i, i < zs.length → w.cell? (x.add i) = some (.int k (zs.getD i 0))) ∧ ∀ n ∈ zs, (Lit.int k n).wf = true

set_option maxRecDepth 100000 in
set_option maxHeartbeats 3200000 in
theorem walk (a0 : Option Addr) (len0 cap0 : Nat) (z0 : List Int) (w : World) (w0 : IsRow .u8 w a0 len0 cap0 z0) :
    Calls Try.prog 9 #[.slice a0 len0 cap0] w fun e w' => e = .returned (.bool true) ∧ Below w.heap.size w w' := by
  have hB := bytes_of w0
  by_cases hl : 1048576 < len0
  · have hdec : decide (1048576 < len0) = true := by simpa using hl
    go_enter Try.func9, Try.ntmps9
    go_wp2_with fail
    go_ret
    exact ⟨rfl, Below.refl _ _⟩
  have hdec : decide (1048576 < len0) = false := by simpa using hl
  have hm : len0 ≤ 1048576 := by omega
  go_enter Try.func9, Try.ntmps9
  go_wp2_with fail
  refine (DrawSmoothRough_any hB).mono ?_
  rintro e wv1 ⟨v, l, rfl, r0, b1⟩
  clear w0 hB
  have BB := Lib.hid b1
  clear b1
  have R := Lib.hid r0
  clear r0
  cases hr : isRow l
  · have HR := Lib.hid (roughOk_no hr)
    clear hr
    go_wp2_with fail
    refine (roughI_is R.out HR.out).mono ?_
    rintro e wv2 ⟨rfl, b9⟩
    replace R := Lib.hid (R.out.grow b9)
    replace BB := Lib.hid (BB.out.trans (b9.mono BB.out.size))
    clear b9
    go_wp2_with fail
    refine (roughS_is R.out HR.out).mono ?_
    rintro e wv3 ⟨rfl, b9⟩
    replace R := Lib.hid (R.out.grow b9)
    replace BB := Lib.hid (BB.out.trans (b9.mono BB.out.size))
    clear b9
    go_wp2_with fail
    go_ret
    exact ⟨by first | rfl | (simp; done) | (simp; omega), BB.out⟩
  · have HR := Lib.hid hr
    clear hr
    obtain ⟨b, hb⟩ : ∃ x : Int, roughL l = x := ⟨_, rfl⟩
    have yb := rough_all_bound HR.out
    rw [hb] at yb
    obtain ⟨yb1, yb2⟩ := yb
    have d0 : decide (b < 0) = false := by simp; omega
    have HBB := Lib.hid hb
    clear hb
    go_wp2_with fail
    refine (roughI_is R.out ((roughOk_yes HR.out).trans HBB.out)).mono ?_
    rintro e wv2 ⟨rfl, b9⟩
    replace R := Lib.hid (R.out.grow b9)
    replace BB := Lib.hid (BB.out.trans (b9.mono BB.out.size))
    clear b9
    go_wp2_with fail
    refine (roughS_is R.out ((roughOk_yes HR.out).trans HBB.out)).mono ?_
    rintro e wv3 ⟨rfl, b9⟩
    replace R := Lib.hid (R.out.grow b9)
    replace BB := Lib.hid (BB.out.trans (b9.mono BB.out.size))
    clear b9
    have h1 := (isRow_iff.1 HR.out).1
    have h20 := (isRow_iff.1 HR.out).2.1
    obtain ⟨n, hn⟩ : ∃ n, l.length = n := ⟨_, rfl⟩
    rw [hn] at h1 h20
    have HN := Lib.hid hn
    clear hn
    obtain ⟨gR, pR, cR, rfl, kR, mR⟩ := known_n R.out HN.out (by omega)
    by_cases four : n < 4
    · have d4 : decide ((n : Int) < 4) = true := by simp; omega
      clear four
      go_wp2_with fail
      go_ret
      exact ⟨by first | rfl | (simp; done) | (simp; omega), BB.out⟩
    · have d4 : decide ((n : Int) < 4) = false := by simp; omega
      have fb : 4 ≤ n := by omega
      clear four
      have e2 : (n : Int).tdiv 2 = ((n / 2 : Nat) : Int) := by rw [Int.tdiv_eq_ediv_of_nonneg (by omega)]; omega
      obtain ⟨h, hh⟩ : ∃ h : Nat, n / 2 = h := ⟨_, rfl⟩
      rw [hh] at e2
      have z0 : IntKind.i64.wrap (h : Int) = (h : Int) := IntWalk.i64_in _ (by omega)
      have e3 : (n : Int) / 2 = (h : Int) := by omega
      have HH := Lib.hid hh
      clear hh
      have O9 := Lib.hid (iown_new (w := wv3) (Nat.le_refl wv3.heap.size))
      have A9 := Lib.hid ((Below.refl wv3.heap.size wv3).alloc (Nat.le_refl _) (.cells #[] 3))
      go_wp2_with fail
      go_loopg [6, 7] n (fun k y x wr => ∃ j : Nat, x = .int .i64 j ∧ j + k = n ∧ IOwn wr wv3.heap.size y (((List.range j).map fun i => if i < h then (3 : Int) else 10)) ∧ Below wv3.heap.size wv3 wr)
      case atStart => exact ⟨0, rfl, by omega, by rw [show ((List.range 0).map fun i => if i < h then (3 : Int) else 10) = [] from rfl]; exact O9.out, A9.out⟩
      case round =>
        obtain ⟨wv4, rfl⟩ : ∃ x, x = wr := ⟨wr, rfl⟩
        obtain ⟨j, rfl, hk, ho, hb⟩ := hrel
        have K := Lib.hid hk; have O := Lib.hid ho; have B := Lib.hid hb
        have hjn : j ≤ n := by omega
        have hz7 := hb.size
        clear hk ho hb O9 A9
        replace R := Lib.hid (R.out.grow B.out)
        replace BB := Lib.hid (BB.out.trans (B.out.mono BB.out.size))
        by_cases hlt : j < n
        · have i1 : (j : Int) < (n : Int) := by omega
          have i2 : (0 : Int) ≤ (j : Int) := by omega
          by_cases c : j < h
          · have d5 : decide ((j : Int) < (h : Int)) = true := by simp; omega
            skip
            have n1 := new_one wv4 (.int .i64 (3)) 3
            have N1 := Lib.hid n1
            have BW := Lib.hid ((Below.refl wv4.heap.size wv4).alloc (Nat.le_refl _) (.cells #[.int .i64 (3)] 3))
            have ST : Hid (((List.range j).map fun i => if i < h then (3 : Int) else 10) ++ [3] = ((List.range (j + 1)).map fun i => if i < h then (3 : Int) else 10)) := Lib.hid (by rw [List.range_succ, List.map_append]; simp [c])
            clear n1
            go_wp2_with (at_builtin; refine iappend_one intT rfl _ _ rfl (B := wv3.heap.size) _ _ rfl (O.out.grow BW.out) ⟨wv4.heap.size, 0, none⟩ (3) rfl N1.out (by rw [show ((List.range j).map fun i => if i < h then (3 : Int) else 10).length = j by simp]; omega) (by simp; omega) ?_; intro v8 w8 hown8 hg8)
            rw [ST.out] at hown8
            have O8 := Lib.hid hown8
            have B8 := Lib.hid (B.out.trans ((BW.out.mono hz7).trans ((O.out.grow BW.out).below hg8 (by simp; omega))))
            clear hown8 hg8
            go_wp2_with fail
            go_roundg (gk - 1)
            case measure => have := K.out; omega
            case rel => exact ⟨j + 1, by go_num, by have := K.out; omega, O8.out, B8.out⟩
          · have d5 : decide ((j : Int) < (h : Int)) = false := by simp; omega
            skip
            have n1 := new_one wv4 (.int .i64 (10)) 3
            have N1 := Lib.hid n1
            have BW := Lib.hid ((Below.refl wv4.heap.size wv4).alloc (Nat.le_refl _) (.cells #[.int .i64 (10)] 3))
            have ST : Hid (((List.range j).map fun i => if i < h then (3 : Int) else 10) ++ [10] = ((List.range (j + 1)).map fun i => if i < h then (3 : Int) else 10)) := Lib.hid (by rw [List.range_succ, List.map_append]; simp [c])
            clear n1
            go_wp2_with (at_builtin; refine iappend_one intT rfl _ _ rfl (B := wv3.heap.size) _ _ rfl (O.out.grow BW.out) ⟨wv4.heap.size, 0, none⟩ (10) rfl N1.out (by rw [show ((List.range j).map fun i => if i < h then (3 : Int) else 10).length = j by simp]; omega) (by simp; omega) ?_; intro v8 w8 hown8 hg8)
            rw [ST.out] at hown8
            have O8 := Lib.hid hown8
            have B8 := Lib.hid (B.out.trans ((BW.out.mono hz7).trans ((O.out.grow BW.out).below hg8 (by simp; omega))))
            clear hown8 hg8
            go_wp2_with fail
            go_roundg (gk - 1)
            case measure => have := K.out; omega
            case rel => exact ⟨j + 1, by go_num, by have := K.out; omega, O8.out, B8.out⟩
        · have hj : j = n := by omega
          have hd := O.out
          rw [hj] at hd
          clear hlt hz7
          have nlt : ¬ (j : Int) < (n : Int) := by omega
          have X := Lib.hid hd
          clear hd
          clear O
          replace X := Lib.hid (show IOwn _ _ _ (stepL n) by have := X.out; unfold stepL; rw [HH.out]; exact this)
          have LX : Hid ((stepL n).length = n) := Lib.hid (by simp [stepL])
          obtain ⟨gX, pX, cX, rfl, kX, mX⟩ := known_n X.out.row LX.out (by omega)
          have SS := Lib.hid (step_is fb h20)
          go_wp2_with fail
          refine (passI_yes X.out.row SS.out.1).mono ?_
          rintro e wv5 ⟨vY, rfl, o9, b9⟩
          replace R := Lib.hid (R.out.grow b9)
          replace X := Lib.hid (X.out.grow b9)
          replace BB := Lib.hid (BB.out.trans (b9.mono BB.out.size))
          clear b9
          have Y := Lib.hid o9
          clear o9
          go_wp2_with fail
          refine (roughOf_is Y.out.row (pass_small SS.out.1) (by rw [pass_length, LX.out]; omega) (by rw [pass_length, LX.out]; omega) SS.out.2.2).mono ?_
          rintro e wv6 ⟨rfl, b9⟩
          replace R := Lib.hid (R.out.grow b9)
          replace X := Lib.hid (X.out.grow b9)
          replace Y := Lib.hid (Y.out.grow b9)
          replace BB := Lib.hid (BB.out.trans (b9.mono BB.out.size))
          clear b9
          go_wp2_with fail
          refine (roughI_is X.out.row ((roughOk_yes SS.out.1).trans SS.out.2.1)).mono ?_
          rintro e wv7 ⟨rfl, b9⟩
          replace R := Lib.hid (R.out.grow b9)
          replace X := Lib.hid (X.out.grow b9)
          replace Y := Lib.hid (Y.out.grow b9)
          replace BB := Lib.hid (BB.out.trans (b9.mono BB.out.size))
          clear b9
          go_wp2_with fail
          go_ret
          exact ⟨by first | rfl | (simp; done) | (simp; omega), BB.out⟩

set_option maxRecDepth 100000 in
theorem lifted (os : Os) (started : os.Started) (H : Type) (enc : TypeId × Value → H) :
    ReturnsInHanded {} Try.checked os 9 .any (Rows.fnRoughPassSpec.pre6 enc Try.prog Try.f9 Rows.fnRoughPassRow.domain false) (Rows.fnRoughPassSpec.post enc Try.prog Try.f9 false true false false) := by
  refine returnsInHanded_of_change (C := Try.checked) own started (by kernel_rfl) Try.func9
    (ChangeSpec.witness6 (enc := enc) (C := Try.checked) false ⟨#[], #[.slice none 0 0], []⟩ 8 (by kernel_rfl) (by kernel_rfl) (by kernel_rfl) (by kernel_rfl)) ?_
  intro W base args ds gs before hval0 hW hcnd _
  have hval : ∀ (j : Nat) t v, Try.f9.params[j]? = some t → args[j]? = some v → Value.okWide Try.prog W .any base t v := hval0
  have hW' := hW
  obtain ⟨p, q, hA0, hV, rfl, hfz, hnd⟩ := hW
  have hA : DataW.TrodAll enc Try.prog W 0 (fun _ => true) true Try.f9.params.toList args.toList ds p := hA0
  rw [Try.params9] at hA hval
  obtain ⟨v0, vs0, d0, ds0, p0, q0, hargs, rfl, rfl, h0, r0⟩ := trodAll_cons hA
  obtain ⟨rfl, rfl, rfl⟩ := trodAll_nil r0
  obtain rfl : args = #[v0] := by cases args; simp_all
  obtain ⟨rfl, rfl⟩ := trodVars_none hV
  obtain ⟨a0, len0, cap0, rfl⟩ := okWide_slice Try.underlying22 (hval 0 22 v0 rfl rfl)
  have k0 := h0
  have lt0 : ∀ x ∈ p0, x.block < W.heap.size := by obtain ⟨m, hm⟩ := k0; exact DataW.trod_lt m _ _ _ hm
  obtain ⟨z0, w0⟩ : ∃ zs, IsRow .u8 W a0 len0 cap0 zs := by
    obtain ⟨fuel, hf⟩ := h0
    rcases open_ints Try.underlying22 Try.underlying5 (by kernel_rfl) hf with ⟨hcs, _⟩ | ⟨x, l, c, zs, hcs, _, hl, hm, hz, _, hcell, hwz⟩
    · simp [Value.cells] at hcs
      obtain ⟨rfl, rfl, rfl⟩ := hcs
      exact ⟨[], .inl ⟨rfl, rfl, rfl, rfl⟩⟩
    · simp [Value.cells] at hcs
      obtain ⟨rfl, rfl, rfl⟩ := hcs
      exact ⟨zs, .inr ⟨_, rfl, hl, hm, by simpa using hz, hcell, hwz⟩⟩
  clear hA0 hval0
  refine (walk a0 len0 cap0 z0 W w0).mono fun e W' ⟨he, bel⟩ => ?_
  subst he
  exact ⟨_, rfl, _, _, _, [], _, [], hW', trodAll_mk1 (shut_bool Try.underlying4 _), (trodAll_cons_mk (Below.trod laidOut (by kernel_rfl) (of_decide_eq_true (by kernel_rfl)) k0 bel lt0) trodAll_mk0), rfl, bel.frame _, fun h => by cases h⟩

theorem over : Rows.fnRoughPassRow.holds Try.pinned (OpenSpec.ofChange Rows.fnRoughPassSpec) :=
  OpenClaim.holds_of_wide 9 Try.f9 rfl rfl rfl rfl rfl rfl rfl ⟨rfl, rfl, rfl, rfl, rfl⟩ rfl rfl rfl rfl rfl (by kernel_rfl) Try.func9 (by kernel_rfl)
    (of_decide_eq_true (by kernel_rfl)) (by unfold Func.isWrapper; first | (rw [if_pos (by decide +kernel)]; kernel_rfl) | (rw [if_neg (by decide +kernel)]; exact ⟨rfl, rfl⟩))
    (fun os started H enc _ => lifted os started H enc)

/-- ████ THE STATEMENT ████ -/
theorem proved : Rows.FnRoughPassSaid := over
#print axioms proved
end Go.Proofs.Ytdnalkppligodab.fnRoughPass
