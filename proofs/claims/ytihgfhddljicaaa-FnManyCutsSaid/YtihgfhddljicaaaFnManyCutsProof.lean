/- For every input, the law FnManyCuts of the given statements returns true over the program at this commit, and its arguments read afterwards as before: no condition. -/
import Derived.Test.YtihgfhddljicaaaRows
import Derived.Test.YtihgfhddljicaaaLawC
import Derived.WalkKit
import Derived.ProofKit
import Derived.OpenShut
import Derived.ShutString
import Derived.ChangeOld
import Derived.Below
namespace Go.Proofs.Ytihgfhddljicaaa.fnManyCuts
open Go.ChangeShapes Go.WideShapes Go.ChangeAt Go.RowKit
open Go.ChangeMaps (open_string shut_string)
set_option linter.unusedVariables false

theorem own : ownKnob Try.prog.godebug = none := by kernel_rfl
theorem laidOut : laidOutB Try.prog = true := by kernel_rfl

/-- WHAT THE WALK IS TOLD OF A SLICE OF INTEGERS THAT CAME IN: it is nil; or it leads to a row of 'cap' cells, the numbers 'zs' (the first 'len' are its elements, the rest its spare room), each fitting its kind. -/
def IsRow (k : IntKind) (w : World) (a : Option Addr) (len cap : Nat) (zs : List Int) : Prop :=
  (a = none ∧ len = 0 ∧ cap = 0 ∧ zs = []) ∨
  ∃ x, a = some x ∧ len ≤ cap ∧ cap ≤ maxLen ∧ zs.length = cap ∧ (∀ i, i < zs.length → w.cell? (x.add i) = some (.int k (zs.getD i 0))) ∧ ∀ n ∈ zs, (Lit.int k n).wf = true

set_option maxRecDepth 100000 in
set_option maxHeartbeats 3200000 in
theorem walk (a0 : Option Addr) (len0 cap0 : Nat) (z0 : List Int) (w : World) (w0 : IsRow .u8 w a0 len0 cap0 z0) :
    Calls Try.prog 7 #[.slice a0 len0 cap0] w fun e w' => e = .returned (.bool true) ∧ Below w.heap.size w w' := by
  have hB := bytes_of w0
  by_cases hl : 1048576 < len0
  · have hdec : decide (1048576 < len0) = true := by simpa using hl
    go_enter Try.func7, Try.ntmps7
    go_wp2_with fail
    go_ret
    exact ⟨rfl, Below.refl _ _⟩
  have hdec : decide (1048576 < len0) = false := by simpa using hl
  have hm : len0 ≤ 1048576 := by omega
  go_enter Try.func7, Try.ntmps7
  go_wp2_with fail
  refine (DrawCutsMany_any hB).mono ?_
  rintro e wv1 ⟨n, lo, mo, rfl, b1⟩
  clear w0 hB
  have BB := Lib.hid b1
  clear b1
  obtain ⟨z, hz⟩ : ∃ x : Int, manyB n lo mo = x := ⟨_, rfl⟩
  have HZ := Lib.hid hz
  by_cases hneg : z < 0
  · clear hz
    go_wp2_with fail
    refine (manyI_is HZ.out _).mono ?_
    rintro e wv2 ⟨rfl, b9⟩
    replace BB := Lib.hid (BB.out.trans (b9.mono BB.out.size))
    clear b9
    go_wp2_with fail
    refine (manyS_is HZ.out _).mono ?_
    rintro e wv3 ⟨rfl, b9⟩
    replace BB := Lib.hid (BB.out.trans (b9.mono BB.out.size))
    clear b9
    go_wp2_with fail
    go_ret
    exact ⟨by first | rfl | (simp; done) | (simp; omega), BB.out⟩
  · obtain ⟨n, a, b, rfl, rfl, rfl, n1, n16, a1, ab, b16⟩ := many_nat (n := n) (lo := lo) (mo := mo) (by omega)
    have hzw := manyB_yes n1 n16 a1 ab b16
    rw [hz] at hzw
    have HZW := Lib.hid hzw
    have g0 : decide (z < 0) = false := by simpa using hneg
    clear hz hneg hzw
    go_wp2_with fail
    refine (manyI_is HZ.out _).mono ?_
    rintro e wv2 ⟨rfl, b9⟩
    replace BB := Lib.hid (BB.out.trans (b9.mono BB.out.size))
    clear b9
    go_wp2_with fail
    refine (manyS_is HZ.out _).mono ?_
    rintro e wv3 ⟨rfl, b9⟩
    replace BB := Lib.hid (BB.out.trans (b9.mono BB.out.size))
    clear b9
    go_wp2_with fail
    go_loopg [8, 9] (dists a b n) (fun k x y wr => ∃ j : Nat, x = .int .i64 ((waysP a b n j : Nat) : Int) ∧ y = .int .i64 ((a : Int) + (j : Int)) ∧ j + k = dists a b n ∧ Below wv3.heap.size wv3 wr)
    case atStart => exact ⟨0, rfl, by simp, by omega, Below.refl _ _⟩
    case round =>
      obtain ⟨wv4, rfl⟩ : ∃ x, x = wr := ⟨wr, rfl⟩
      obtain ⟨j, rfl, rfl, hk, hb⟩ := hrel
      have K := Lib.hid hk; have B := Lib.hid hb
      have hjn : j ≤ dists a b n := by omega
      clear hk hb
      by_cases hlt : j < dists a b n
      · obtain ⟨p1, p2, p3⟩ := many_next hlt
        have pb := waysP_bound a1 b16 n1 n16 (show j + 1 ≤ dists a b n by omega)
        have i1 : (a : Int) + (j : Int) ≤ (b : Int) := by omega
        have i2 : (a : Int) + (j : Int) ≤ (n : Int) := by omega
        have e3 : IntKind.i64.wrap ((a : Int) + (j : Int) + 1) = (a : Int) + ((j + 1 : Nat) : Int) := by rw [show (a : Int) + (j : Int) + 1 = (a : Int) + ((j + 1 : Nat) : Int) by omega]; exact IntWalk.i64_in _ (by omega)
        by_cases hend : (a : Int) + (j : Int) = (n : Int)
        · have he : ((a : Int) + (j : Int) == (n : Int)) = true := by simpa using hend
          have p4 : IntKind.i64.wrap (((waysP a b n j : Nat) : Int) + 1) = ((waysP a b n (j + 1) : Nat) : Int) := by
            rw [show n - (a + j) = 0 by omega, ways_zero] at p1
            rw [p1]; rw [Int.natCast_add]; exact IntWalk.i64_in _ (by omega)
          clear hend p1
          go_wp2_with fail
          go_roundg (gk - 1)
          case measure => have := K.out; omega
          case rel => exact ⟨j + 1, by first | rfl | (rw [p4]), by first | rfl | (rw [e3]), by have := K.out; omega, B.out⟩
        · have he : ((a : Int) + (j : Int) == (n : Int)) = false := by simpa using hend
          obtain ⟨q, hq⟩ : ∃ q : Nat, n - (a + j) = q := ⟨_, rfl⟩
          rw [hq] at p1
          have e4 : IntKind.i64.wrap ((n : Int) - ((a : Int) + (j : Int))) = (q : Int) := by rw [show (n : Int) - ((a : Int) + (j : Int)) = (q : Int) by omega]; exact IntWalk.i64_in _ (by omega)
          have HQ := Lib.hid (manyB_yes (n := q) (by omega) (by omega) a1 ab b16)
          have p4 : IntKind.i64.wrap (((waysP a b n j : Nat) : Int) + ((ways a b q : Nat) : Int)) = ((waysP a b n (j + 1) : Nat) : Int) := by
            rw [p1]; rw [Int.natCast_add]; exact IntWalk.i64_in _ (by omega)
          clear hend p1 hq
          go_wp2_with fail
          refine (manyI_is HQ.out _).mono ?_
          rintro e w8 ⟨rfl, b8⟩
          have B8 := Lib.hid (B.out.trans (b8.mono B.out.size))
          clear b8
          go_wp2_with fail
          go_roundg (gk - 1)
          case measure => have := K.out; omega
          case rel => exact ⟨j + 1, by first | rfl | (rw [p4]), by first | rfl | (rw [e3]), by have := K.out; omega, B8.out⟩
      · have hj : j = dists a b n := by omega
        have stop : ¬ (a : Int) + (j : Int) ≤ (b : Int) ∨ ((a : Int) + (j : Int) ≤ (b : Int) ∧ ¬ (a : Int) + (j : Int) ≤ (n : Int)) := by unfold dists at hj; omega
        have hw : ((waysP a b n j : Nat) : Int) = z := by rw [hj, many_all a1 n1]; exact HZW.out.symm
        rw [hw]
        clear hw hj hlt
        have BX := Lib.hid (BB.out.trans (B.out.mono BB.out.size))
        rcases stop with s1 | ⟨s1, s2⟩
        all_goals
          go_wp2_with fail
          go_ret
          exact ⟨by first | rfl | (simp; done) | (simp; omega), BX.out⟩

set_option maxRecDepth 100000 in
theorem lifted (os : Os) (started : os.Started) (H : Type) (enc : TypeId × Value → H) :
    ReturnsInHanded {} Try.checked os 7 .any (Rows.fnManyCutsSpec.pre6 enc Try.prog Try.f7 Rows.fnManyCutsRow.domain false) (Rows.fnManyCutsSpec.post enc Try.prog Try.f7 false true false false) := by
  refine returnsInHanded_of_change (C := Try.checked) own started (by kernel_rfl) Try.func7
    (ChangeSpec.witness6 (enc := enc) (C := Try.checked) false ⟨#[], #[.slice none 0 0], []⟩ 8 (by kernel_rfl) (by kernel_rfl) (by kernel_rfl) (by kernel_rfl)) ?_
  intro W base args ds gs before hval0 hW hcnd _
  have hval : ∀ (j : Nat) t v, Try.f7.params[j]? = some t → args[j]? = some v → Value.okWide Try.prog W .any base t v := hval0
  have hW' := hW
  obtain ⟨p, q, hA0, hV, rfl, hfz, hnd⟩ := hW
  have hA : DataW.TrodAll enc Try.prog W 0 (fun _ => true) true Try.f7.params.toList args.toList ds p := hA0
  rw [Try.params7] at hA hval
  obtain ⟨v0, vs0, d0, ds0, p0, q0, hargs, rfl, rfl, h0, r0⟩ := trodAll_cons hA
  obtain ⟨rfl, rfl, rfl⟩ := trodAll_nil r0
  obtain rfl : args = #[v0] := by cases args; simp_all
  obtain ⟨rfl, rfl⟩ := trodVars_none hV
  obtain ⟨a0, len0, cap0, rfl⟩ := okWide_slice Try.underlying22 (hval 0 22 v0 rfl rfl)
  have k0 := h0
  have lt0 : ∀ x ∈ p0, x.block < W.heap.size := by obtain ⟨m, hm⟩ := k0; exact DataW.trod_lt m _ _ _ hm
  obtain ⟨z0, w0⟩ : ∃ zs, IsRow .u8 W a0 len0 cap0 zs := by
    obtain ⟨fuel, hf⟩ := h0
    rcases open_ints Try.underlying22 Try.underlying5 (by kernel_rfl) hf with ⟨hcs, _⟩ | ⟨x, l, c, zs, hcs, _, hl, hm, hz, _, hcell, hwz⟩
    · simp [Value.cells] at hcs
      obtain ⟨rfl, rfl, rfl⟩ := hcs
      exact ⟨[], .inl ⟨rfl, rfl, rfl, rfl⟩⟩
    · simp [Value.cells] at hcs
      obtain ⟨rfl, rfl, rfl⟩ := hcs
      exact ⟨zs, .inr ⟨_, rfl, hl, hm, by simpa using hz, hcell, hwz⟩⟩
  clear hA0 hval0
  refine (walk a0 len0 cap0 z0 W w0).mono fun e W' ⟨he, bel⟩ => ?_
  subst he
  exact ⟨_, rfl, _, _, _, [], _, [], hW', trodAll_mk1 (shut_bool Try.underlying4 _), (trodAll_cons_mk (Below.trod laidOut (by kernel_rfl) (of_decide_eq_true (by kernel_rfl)) k0 bel lt0) trodAll_mk0), rfl, bel.frame _, fun h => by cases h⟩

theorem over : Rows.fnManyCutsRow.holds Try.pinned (OpenSpec.ofChange Rows.fnManyCutsSpec) :=
  OpenClaim.holds_of_wide 7 Try.f7 rfl rfl rfl rfl rfl rfl rfl ⟨rfl, rfl, rfl, rfl, rfl⟩ rfl rfl rfl rfl rfl (by kernel_rfl) Try.func7 (by kernel_rfl)
    (of_decide_eq_true (by kernel_rfl)) (by unfold Func.isWrapper; first | (rw [if_pos (by decide +kernel)]; kernel_rfl) | (rw [if_neg (by decide +kernel)]; exact ⟨rfl, rfl⟩))
    (fun os started H enc _ => lifted os started H enc)

/-- ████ THE STATEMENT ████ -/
theorem proved : Rows.FnManyCutsSaid := over
#print axioms proved
end Go.Proofs.Ytihgfhddljicaaa.fnManyCuts
