/- For every input, the law FnAllowedEach of the given statements returns true over the program at this commit, and its arguments read afterwards as before: no condition. -/
import Derived.Test.YtihgfhddljicaabRows
import Derived.Test.YtihgfhddljicaabLawC
import Derived.WalkKit
import Derived.ProofKit
import Derived.OpenShut
import Derived.ShutString
import Derived.ChangeOld
import Derived.Below
namespace Go.Proofs.Ytihgfhddljicaab.fnAllowedEach
open Go.ChangeShapes Go.WideShapes Go.ChangeAt Go.RowKit
open Go.ChangeMaps (open_string shut_string)
set_option linter.unusedVariables false

theorem own : ownKnob Try.prog.godebug = none := by kernel_rfl
theorem laidOut : laidOutB Try.prog = true := by kernel_rfl

/-- WHAT THE WALK IS TOLD OF A SLICE OF INTEGERS THAT CAME IN: it is nil; or it leads to a row of 'cap' cells, the numbers 'zs' (the first 'len' are its elements, the rest its spare room), each fitting its kind. -/
def IsRow (k : IntKind) (w : World) (a : Option Addr) (len cap : Nat) (zs : List Int) : Prop :=
  (a = none ∧ len = 0 ∧ cap = 0 ∧ zs = []) ∨
  ∃ x, a = some x ∧ len ≤ cap ∧ cap ≤ maxLen ∧ zs.length = cap ∧ (∀ i, i < zs.length → w.cell? (x.add i) = some (.int k (zs.getD i 0))) ∧ ∀ n ∈ zs, (Lit.int k n).wf = true

set_option maxRecDepth 100000 in
set_option maxHeartbeats 3200000 in
theorem walk (a0 : Option Addr) (len0 cap0 : Nat) (z0 : List Int) (w : World) (w0 : IsRow .u8 w a0 len0 cap0 z0) :
    Calls Try.prog 10 #[.slice a0 len0 cap0] w fun e w' => e = .returned (.bool true) ∧ Below w.heap.size w w' := by
  have hB := bytes_of w0
  by_cases hl : 1048576 < len0
  · have hdec : decide (1048576 < len0) = true := by simpa using hl
    go_enter Try.func10, Try.ntmps10
    go_wp2_with fail
    go_ret
    exact ⟨rfl, Below.refl _ _⟩
  have hdec : decide (1048576 < len0) = false := by simpa using hl
  have hm : len0 ≤ 1048576 := by omega
  go_enter Try.func10, Try.ntmps10
  go_wp2_with fail
  refine (DrawCutsAllowed_any hB).mono ?_
  rintro e wv1 ⟨v, u, c, l, lo, mo, rfl, r0, r1, hc20, hl100, b1⟩
  clear w0 hB
  have BB := Lib.hid b1
  clear b1
  have R := Lib.hid r0
  clear r0
  have U := Lib.hid r1
  clear r1
  obtain ⟨aR, cR, rfl, kR, mR⟩ := len_n R.out
  obtain ⟨aU, cU, rfl, kU, mU⟩ := len_n U.out
  cases hb : allowedB c lo mo l
  · have HB := Lib.hid hb
    clear hb
    go_wp2_with fail
    refine (allowI_is R.out U.out (by omega) HB.out).mono ?_
    rintro e wv2 ⟨rfl, b9⟩
    replace R := Lib.hid (R.out.grow b9)
    replace U := Lib.hid (U.out.grow b9)
    replace BB := Lib.hid (BB.out.trans (b9.mono BB.out.size))
    clear b9
    go_wp2_with fail
    refine (allowSB R.out U.out (by omega) HB.out).mono ?_
    rintro e wv3 ⟨rfl, b9⟩
    replace R := Lib.hid (R.out.grow b9)
    replace U := Lib.hid (U.out.grow b9)
    replace BB := Lib.hid (BB.out.trans (b9.mono BB.out.size))
    clear b9
    go_wp2_with fail
    go_ret
    exact ⟨by first | rfl | (simp; done) | (simp; omega), BB.out⟩
  · have HB := Lib.hid hb
    obtain ⟨a, b, rfl, rfl, hal⟩ := allowed_is hb
    have AL := Lib.hid hal
    obtain ⟨l1, ln⟩ := hal.size
    obtain ⟨n1, n16⟩ := hal.len
    clear hb hal
    go_wp2_with fail
    refine (allowI_is R.out U.out (by omega) HB.out).mono ?_
    rintro e wv2 ⟨rfl, b9⟩
    replace R := Lib.hid (R.out.grow b9)
    replace U := Lib.hid (U.out.grow b9)
    replace BB := Lib.hid (BB.out.trans (b9.mono BB.out.size))
    clear b9
    go_wp2_with fail
    refine (allowSB R.out U.out (by omega) HB.out).mono ?_
    rintro e wv3 ⟨rfl, b9⟩
    replace R := Lib.hid (R.out.grow b9)
    replace U := Lib.hid (U.out.grow b9)
    replace BB := Lib.hid (BB.out.trans (b9.mono BB.out.size))
    clear b9
    have HE := Lib.hid (each_allowed AL.out.sig); have HO := Lib.hid (one_allowed AL.out.sig)
    obtain ⟨n, hn⟩ : ∃ n, c.length = n := ⟨_, rfl⟩
    have HN := Lib.hid hn
    rw [hn] at HE HO n1 n16 ln R kR ⊢
    clear hn
    have O9 := Lib.hid (iown_new (w := wv3) (Nat.le_refl wv3.heap.size))
    have A9 := Lib.hid ((Below.refl wv3.heap.size wv3).alloc (Nat.le_refl _) (.cells #[] 3))
    go_wp2_with fail
    go_loopg [10, 11] n (fun k y x wr => ∃ j : Nat, x = .int .i64 j ∧ j + k = n ∧ IOwn wr wv3.heap.size y (eachL j) ∧ Below wv3.heap.size wv3 wr)
    case atStart => exact ⟨0, rfl, by omega, by rw [show eachL 0 = [] from rfl]; exact O9.out, A9.out⟩
    case round =>
      obtain ⟨wv4, rfl⟩ : ∃ x, x = wr := ⟨wr, rfl⟩
      obtain ⟨j, rfl, hk, ho, hb⟩ := hrel
      have K := Lib.hid hk; have O := Lib.hid ho; have B := Lib.hid hb
      have hjn : j ≤ n := by omega
      have hz7 := hb.size
      clear hk ho hb O9 A9
      replace R := Lib.hid (R.out.grow B.out)
      replace U := Lib.hid (U.out.grow B.out)
      replace BB := Lib.hid (BB.out.trans (B.out.mono BB.out.size))
      by_cases hlt : j < n
      · have i1 : (j : Int) < (n : Int) := by omega
        have i2 : (0 : Int) ≤ (j : Int) := by omega

        have n1 := new_one wv4 (.int .i64 ((j : Int))) 3
        have N1 := Lib.hid n1
        have BW := Lib.hid ((Below.refl wv4.heap.size wv4).alloc (Nat.le_refl _) (.cells #[.int .i64 ((j : Int))] 3))
        have ST : Hid (eachL j ++ [(j : Int)] = eachL (j + 1)) := Lib.hid (eachL_next j)
        clear n1
        go_wp2_with (at_builtin; refine iappend_one intT rfl _ _ rfl (B := wv3.heap.size) _ _ rfl (O.out.grow BW.out) ⟨wv4.heap.size, 0, none⟩ ((j : Int)) rfl N1.out (by rw [eachL_length j]; omega) (by simp; omega) ?_; intro v8 w8 hown8 hg8)
        rw [ST.out] at hown8
        have O8 := Lib.hid hown8
        have B8 := Lib.hid (B.out.trans ((BW.out.mono hz7).trans ((O.out.grow BW.out).below hg8 (by simp; omega))))
        clear hown8 hg8
        go_wp2_with fail
        go_roundg (gk - 1)
        case measure => have := K.out; omega
        case rel => exact ⟨j + 1, by go_num, by have := K.out; omega, O8.out, B8.out⟩
      · have hj : j = n := by omega
        have hd := O.out
        rw [hj] at hd
        clear hlt hz7
        have nlt : ¬ (j : Int) < (n : Int) := by omega
        have X := Lib.hid hd
        clear hd
        clear O
        go_wp2_with fail
        refine (allowI_is (lo := 1) (mo := 1) R.out X.out.row (by rw [eachL_length]; omega) HE.out).mono ?_
        rintro e wv5 ⟨rfl, b9⟩
        replace R := Lib.hid (R.out.grow b9)
        replace U := Lib.hid (U.out.grow b9)
        replace X := Lib.hid (X.out.grow b9)
        replace BB := Lib.hid (BB.out.trans (b9.mono BB.out.size))
        clear b9
        have e1 : IntKind.i64.wrap ((n : Int) - 1) = (n : Int) - 1 := IntWalk.i64_in _ (by omega)
        have O1 := Lib.hid (iown_one (w := wv5) (Nat.le_refl _) ((n : Int) - 1))
        have B1 := Lib.hid ((Below.refl wv5.heap.size wv5).alloc (Nat.le_refl _) (.cells #[.int .i64 ((n : Int) - 1)] 3))
        have i9 : (l.length : Int) ≤ (n : Int) := by omega
        go_wp2_with fail
        refine (allowI_is (R.out.grow B1.out) O1.out.row (by simp) HO.out).mono ?_
        rintro e w9 ⟨rfl, b9⟩
        have B9 := Lib.hid (BB.out.trans ((B1.out.trans (b9.mono B1.out.size)).mono BB.out.size))
        clear b9
        go_wp2_with fail
        go_ret
        exact ⟨by first | rfl | (simp; done) | (simp; omega), B9.out⟩

set_option maxRecDepth 100000 in
theorem lifted (os : Os) (started : os.Started) (H : Type) (enc : TypeId × Value → H) :
    ReturnsInHanded {} Try.checked os 10 .any (Rows.fnAllowedEachSpec.pre6 enc Try.prog Try.f10 Rows.fnAllowedEachRow.domain false) (Rows.fnAllowedEachSpec.post enc Try.prog Try.f10 false true false false) := by
  refine returnsInHanded_of_change (C := Try.checked) own started (by kernel_rfl) Try.func10
    (ChangeSpec.witness6 (enc := enc) (C := Try.checked) false ⟨#[], #[.slice none 0 0], []⟩ 8 (by kernel_rfl) (by kernel_rfl) (by kernel_rfl) (by kernel_rfl)) ?_
  intro W base args ds gs before hval0 hW hcnd _
  have hval : ∀ (j : Nat) t v, Try.f10.params[j]? = some t → args[j]? = some v → Value.okWide Try.prog W .any base t v := hval0
  have hW' := hW
  obtain ⟨p, q, hA0, hV, rfl, hfz, hnd⟩ := hW
  have hA : DataW.TrodAll enc Try.prog W 0 (fun _ => true) true Try.f10.params.toList args.toList ds p := hA0
  rw [Try.params10] at hA hval
  obtain ⟨v0, vs0, d0, ds0, p0, q0, hargs, rfl, rfl, h0, r0⟩ := trodAll_cons hA
  obtain ⟨rfl, rfl, rfl⟩ := trodAll_nil r0
  obtain rfl : args = #[v0] := by cases args; simp_all
  obtain ⟨rfl, rfl⟩ := trodVars_none hV
  obtain ⟨a0, len0, cap0, rfl⟩ := okWide_slice Try.underlying22 (hval 0 22 v0 rfl rfl)
  have k0 := h0
  have lt0 : ∀ x ∈ p0, x.block < W.heap.size := by obtain ⟨m, hm⟩ := k0; exact DataW.trod_lt m _ _ _ hm
  obtain ⟨z0, w0⟩ : ∃ zs, IsRow .u8 W a0 len0 cap0 zs := by
    obtain ⟨fuel, hf⟩ := h0
    rcases open_ints Try.underlying22 Try.underlying5 (by kernel_rfl) hf with ⟨hcs, _⟩ | ⟨x, l, c, zs, hcs, _, hl, hm, hz, _, hcell, hwz⟩
    · simp [Value.cells] at hcs
      obtain ⟨rfl, rfl, rfl⟩ := hcs
      exact ⟨[], .inl ⟨rfl, rfl, rfl, rfl⟩⟩
    · simp [Value.cells] at hcs
      obtain ⟨rfl, rfl, rfl⟩ := hcs
      exact ⟨zs, .inr ⟨_, rfl, hl, hm, by simpa using hz, hcell, hwz⟩⟩
  clear hA0 hval0
  refine (walk a0 len0 cap0 z0 W w0).mono fun e W' ⟨he, bel⟩ => ?_
  subst he
  exact ⟨_, rfl, _, _, _, [], _, [], hW', trodAll_mk1 (shut_bool Try.underlying4 _), (trodAll_cons_mk (Below.trod laidOut (by kernel_rfl) (of_decide_eq_true (by kernel_rfl)) k0 bel lt0) trodAll_mk0), rfl, bel.frame _, fun h => by cases h⟩

theorem over : Rows.fnAllowedEachRow.holds Try.pinned (OpenSpec.ofChange Rows.fnAllowedEachSpec) :=
  OpenClaim.holds_of_wide 10 Try.f10 rfl rfl rfl rfl rfl rfl rfl ⟨rfl, rfl, rfl, rfl, rfl⟩ rfl rfl rfl rfl rfl (by kernel_rfl) Try.func10 (by kernel_rfl)
    (of_decide_eq_true (by kernel_rfl)) (by unfold Func.isWrapper; first | (rw [if_pos (by decide +kernel)]; kernel_rfl) | (rw [if_neg (by decide +kernel)]; exact ⟨rfl, rfl⟩))
    (fun os started H enc _ => lifted os started H enc)

/-- ████ THE STATEMENT ████ -/
theorem proved : Rows.FnAllowedEachSaid := over
#print axioms proved
end Go.Proofs.Ytihgfhddljicaab.fnAllowedEach
