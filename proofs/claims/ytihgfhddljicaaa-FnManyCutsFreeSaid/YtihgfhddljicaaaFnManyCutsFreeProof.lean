/- For every input, the law FnManyCutsFree of the given statements returns true over the program at this commit, and its arguments read afterwards as before: no condition. -/
import Derived.Test.YtihgfhddljicaaaRows
import Derived.Test.YtihgfhddljicaaaLawC
import Derived.WalkKit
import Derived.ProofKit
import Derived.OpenShut
import Derived.ShutString
import Derived.ChangeOld
import Derived.Below
namespace Go.Proofs.Ytihgfhddljicaaa.fnManyCutsFree
open Go.ChangeShapes Go.WideShapes Go.ChangeAt Go.RowKit
open Go.ChangeMaps (open_string shut_string)
set_option linter.unusedVariables false

theorem own : ownKnob Try.prog.godebug = none := by kernel_rfl
theorem laidOut : laidOutB Try.prog = true := by kernel_rfl

/-- WHAT THE WALK IS TOLD OF A SLICE OF INTEGERS THAT CAME IN: it is nil; or it leads to a row of 'cap' cells, the numbers 'zs' (the first 'len' are its elements, the rest its spare room), each fitting its kind. -/
def IsRow (k : IntKind) (w : World) (a : Option Addr) (len cap : Nat) (zs : List Int) : Prop :=
  (a = none ∧ len = 0 ∧ cap = 0 ∧ zs = []) ∨
  ∃ x, a = some x ∧ len ≤ cap ∧ cap ≤ maxLen ∧ zs.length = cap ∧ (∀ i, i < zs.length → w.cell? (x.add i) = some (.int k (zs.getD i 0))) ∧ ∀ n ∈ zs, (Lit.int k n).wf = true

set_option maxRecDepth 100000 in
set_option maxHeartbeats 3200000 in
theorem walk (a0 : Option Addr) (len0 cap0 : Nat) (z0 : List Int) (w : World) (w0 : IsRow .u8 w a0 len0 cap0 z0) :
    Calls Try.prog 8 #[.slice a0 len0 cap0] w fun e w' => e = .returned (.bool true) ∧ Below w.heap.size w w' := by
  have hB := bytes_of w0
  by_cases hl : 1048576 < len0
  · have hdec : decide (1048576 < len0) = true := by simpa using hl
    go_enter Try.func8, Try.ntmps8
    go_wp2_with fail
    go_ret
    exact ⟨rfl, Below.refl _ _⟩
  have hdec : decide (1048576 < len0) = false := by simpa using hl
  have hm : len0 ≤ 1048576 := by omega
  go_enter Try.func8, Try.ntmps8
  go_wp2_with fail
  refine (DrawCutsMany_any hB).mono ?_
  rintro e wv1 ⟨n, lo, mo, rfl, b1⟩
  clear w0 hB
  have BB := Lib.hid b1
  clear b1
  obtain ⟨z, hz⟩ : ∃ x : Int, manyB n lo mo = x := ⟨_, rfl⟩
  have HZ := Lib.hid hz
  by_cases hneg : z < 0
  · clear hz
    go_wp2_with fail
    refine (manyI_is HZ.out _).mono ?_
    rintro e wv2 ⟨rfl, b9⟩
    replace BB := Lib.hid (BB.out.trans (b9.mono BB.out.size))
    clear b9
    go_wp2_with fail
    refine (manyS_is HZ.out _).mono ?_
    rintro e wv3 ⟨rfl, b9⟩
    replace BB := Lib.hid (BB.out.trans (b9.mono BB.out.size))
    clear b9
    go_wp2_with fail
    go_ret
    exact ⟨by first | rfl | (simp; done) | (simp; omega), BB.out⟩
  · obtain ⟨n, a, b, rfl, rfl, rfl, n1, n16, a1, ab, b16⟩ := many_nat (n := n) (lo := lo) (mo := mo) (by omega)
    have hzw := manyB_yes n1 n16 a1 ab b16
    rw [hz] at hzw
    have HZW := Lib.hid hzw
    have g0 : decide (z < 0) = false := by simpa using hneg
    clear hz hneg hzw
    go_wp2_with fail
    refine (manyI_is HZ.out _).mono ?_
    rintro e wv2 ⟨rfl, b9⟩
    replace BB := Lib.hid (BB.out.trans (b9.mono BB.out.size))
    clear b9
    go_wp2_with fail
    refine (manyS_is HZ.out _).mono ?_
    rintro e wv3 ⟨rfl, b9⟩
    replace BB := Lib.hid (BB.out.trans (b9.mono BB.out.size))
    clear b9
    go_wp2_with fail
    go_loopg [8, 9] (n - 1) (fun k x y wr => ∃ j : Nat, x = .int .i64 ((2 ^ j : Nat) : Int) ∧ y = .int .i64 ((j + 1 : Nat) : Int) ∧ j + 1 + k = n ∧ wv3 = wr)
    case atStart => exact ⟨0, rfl, rfl, by omega, rfl⟩
    case round =>
      obtain ⟨j, rfl, rfl, hk, rfl⟩ := hrel
      have K := Lib.hid hk
      have hjn : j + 1 ≤ n := by omega
      have pw : 2 ^ (j + 1) ≤ 2 ^ 16 := Nat.pow_le_pow_right (by omega) (by omega)
      have pn : 2 ^ (j + 1) = 2 * 2 ^ j := by rw [Nat.pow_succ, Nat.mul_comm]
      obtain ⟨p, hp⟩ : ∃ p : Nat, 2 ^ j = p := ⟨_, rfl⟩
      rw [hp]
      clear hk
      by_cases hlt : j + 1 < n
      · have i1 : ((j + 1 : Nat) : Int) < (n : Int) := by omega
        have e1 : IntKind.i64.wrap (2 * (p : Int)) = 2 * (p : Int) := IntWalk.i64_in _ (by omega)
        have PE : Hid ((2 * (p : Int)) = ((2 ^ (j + 1) : Nat) : Int)) := Lib.hid (by rw [pn, hp]; omega)
        have e2 : IntKind.i64.wrap (((j + 1 : Nat) : Int) + 1) = ((j + 1 + 1 : Nat) : Int) := by rw [show ((j + 1 : Nat) : Int) + 1 = ((j + 1 + 1 : Nat) : Int) by omega]; exact IntWalk.i64_in _ (by omega)
        clear pw pn hp
        go_wp2_with fail
        go_roundg (gk - 1)
        case measure => have := K.out; omega
        case rel => exact ⟨j + 1, by rw [← PE.out], by first | rfl | (rw [e2]), by have := K.out; omega, rfl⟩
      · have hj : j + 1 = n := by omega
        have i1 : ¬ ((j + 1 : Nat) : Int) < (n : Int) := by omega
        have HF : Hid (manyB n 1 16 = (p : Int)) := Lib.hid (by rw [many_free n1 n16, ← hp, show n - 1 = j by omega]; rfl)
        have ha := many_alone n1 n16 a1 (show a ≤ 16 by omega)
        have b1 : IntKind.i64.wrap ((b : Int) + 1) = (b : Int) + 1 := IntWalk.i64_in _ (by omega)
        have ta : IntKind.i64.wrap ((n : Int).tmod (a : Int)) = ((n % a : Nat) : Int) := by
          have := Nat.mod_lt n (show 0 < a by omega)
          rw [Int.tmod_eq_emod_of_nonneg (by omega), ← Int.natCast_emod]; exact IntWalk.i64_in _ (by omega)
        have az : ((a : Int) == 0) = false := by simp; omega
        obtain ⟨o1, ho1⟩ : ∃ x : Int, manyB n a a = x := ⟨_, rfl⟩
        obtain ⟨y, hy⟩ : ∃ x : Int, manyB n a ((b : Int) + 1) = x := ⟨_, rfl⟩
        have HO := Lib.hid ho1; have HY := Lib.hid hy
        rw [ho1] at ha
        have yb : (b = 16 ∧ y < z) ∨ (b < 16 ∧ z ≤ y) := by
          by_cases c : b = 16
          · left
            refine ⟨c, ?_⟩
            have el : isLim (a : Int) (((16 : Nat) : Int) + 1) = false := lim_no (by omega)
            have : y = -1 := by rw [← hy, c]; exact manyB_no (.inr el)
            have q0 := HZ.out
            have q : 0 ≤ manyB n a b := manyB_iff.2 ⟨isPlace_iff.2 (by omega), lim_yes a1 ab b16⟩
            rw [q0] at q; omega
          · right
            have := many_wider (b := b) n1 n16 a1 ab (by omega)
            rw [hy, HZ.out] at this; omega
        obtain ⟨r, hr⟩ : ∃ r : Nat, n % a = r := ⟨_, rfl⟩
        rw [hr] at ta ha
        have RM : Hid ((n : Int) % (a : Int) = (r : Int)) := Lib.hid (by rw [← hr, Int.natCast_emod])
        clear pw pn hp hj hlt ho1 hy hr
        have RY := Lib.hid yb
        clear yb
        by_cases r0 : r = 0
        · rw [if_pos r0] at ha
          subst ha
          have rm : (n : Int) % (a : Int) = 0 := by have := RM.out; omega
          clear ta
          rcases RY.out with ⟨y1, y2⟩ | ⟨y1, y2⟩
          · subst y1
            go_wp2_with fail
            refine (manyI_is HO.out _).mono ?_
            rintro e w8 ⟨rfl, b8⟩
            go_wp2_with fail
            refine (manyI_is HY.out _).mono ?_
            rintro e w9 ⟨rfl, b9⟩
            have B9 := Lib.hid (BB.out.trans ((b8.trans (b9.mono b8.size)).mono BB.out.size))
            clear b8 b9
            go_wp2_with fail
            refine (manyI_is HF.out _).mono ?_
            rintro e w10 ⟨rfl, b10⟩
            have B10 := Lib.hid (B9.out.trans (b10.mono B9.out.size))
            clear b10
            go_wp2_with fail
            go_ret
            exact ⟨by first | rfl | (simp; done) | (simp; omega), B10.out⟩
          · skip
            go_wp2_with fail
            refine (manyI_is HO.out _).mono ?_
            rintro e w8 ⟨rfl, b8⟩
            go_wp2_with fail
            refine (manyI_is HY.out _).mono ?_
            rintro e w9 ⟨rfl, b9⟩
            have B9 := Lib.hid (BB.out.trans ((b8.trans (b9.mono b8.size)).mono BB.out.size))
            clear b8 b9
            go_wp2_with fail
            refine (manyI_is HF.out _).mono ?_
            rintro e w10 ⟨rfl, b10⟩
            have B10 := Lib.hid (B9.out.trans (b10.mono B9.out.size))
            clear b10
            go_wp2_with fail
            go_ret
            exact ⟨by first | rfl | (simp; done) | (simp; omega), B10.out⟩
        · rw [if_neg r0] at ha
          subst ha
          have rm : ¬ (n : Int) % (a : Int) = 0 := by have := RM.out; omega
          clear ta
          rcases RY.out with ⟨y1, y2⟩ | ⟨y1, y2⟩
          · subst y1
            go_wp2_with fail
            refine (manyI_is HO.out _).mono ?_
            rintro e w8 ⟨rfl, b8⟩
            go_wp2_with fail
            refine (manyI_is HY.out _).mono ?_
            rintro e w9 ⟨rfl, b9⟩
            have B9 := Lib.hid (BB.out.trans ((b8.trans (b9.mono b8.size)).mono BB.out.size))
            clear b8 b9
            go_wp2_with fail
            refine (manyI_is HF.out _).mono ?_
            rintro e w10 ⟨rfl, b10⟩
            have B10 := Lib.hid (B9.out.trans (b10.mono B9.out.size))
            clear b10
            go_wp2_with fail
            go_ret
            exact ⟨by first | rfl | (simp; done) | (simp; omega), B10.out⟩
          · skip
            go_wp2_with fail
            refine (manyI_is HO.out _).mono ?_
            rintro e w8 ⟨rfl, b8⟩
            go_wp2_with fail
            refine (manyI_is HY.out _).mono ?_
            rintro e w9 ⟨rfl, b9⟩
            have B9 := Lib.hid (BB.out.trans ((b8.trans (b9.mono b8.size)).mono BB.out.size))
            clear b8 b9
            go_wp2_with fail
            refine (manyI_is HF.out _).mono ?_
            rintro e w10 ⟨rfl, b10⟩
            have B10 := Lib.hid (B9.out.trans (b10.mono B9.out.size))
            clear b10
            go_wp2_with fail
            go_ret
            exact ⟨by first | rfl | (simp; done) | (simp; omega), B10.out⟩

set_option maxRecDepth 100000 in
theorem lifted (os : Os) (started : os.Started) (H : Type) (enc : TypeId × Value → H) :
    ReturnsInHanded {} Try.checked os 8 .any (Rows.fnManyCutsFreeSpec.pre6 enc Try.prog Try.f8 Rows.fnManyCutsFreeRow.domain false) (Rows.fnManyCutsFreeSpec.post enc Try.prog Try.f8 false true false false) := by
  refine returnsInHanded_of_change (C := Try.checked) own started (by kernel_rfl) Try.func8
    (ChangeSpec.witness6 (enc := enc) (C := Try.checked) false ⟨#[], #[.slice none 0 0], []⟩ 8 (by kernel_rfl) (by kernel_rfl) (by kernel_rfl) (by kernel_rfl)) ?_
  intro W base args ds gs before hval0 hW hcnd _
  have hval : ∀ (j : Nat) t v, Try.f8.params[j]? = some t → args[j]? = some v → Value.okWide Try.prog W .any base t v := hval0
  have hW' := hW
  obtain ⟨p, q, hA0, hV, rfl, hfz, hnd⟩ := hW
  have hA : DataW.TrodAll enc Try.prog W 0 (fun _ => true) true Try.f8.params.toList args.toList ds p := hA0
  rw [Try.params8] at hA hval
  obtain ⟨v0, vs0, d0, ds0, p0, q0, hargs, rfl, rfl, h0, r0⟩ := trodAll_cons hA
  obtain ⟨rfl, rfl, rfl⟩ := trodAll_nil r0
  obtain rfl : args = #[v0] := by cases args; simp_all
  obtain ⟨rfl, rfl⟩ := trodVars_none hV
  obtain ⟨a0, len0, cap0, rfl⟩ := okWide_slice Try.underlying22 (hval 0 22 v0 rfl rfl)
  have k0 := h0
  have lt0 : ∀ x ∈ p0, x.block < W.heap.size := by obtain ⟨m, hm⟩ := k0; exact DataW.trod_lt m _ _ _ hm
  obtain ⟨z0, w0⟩ : ∃ zs, IsRow .u8 W a0 len0 cap0 zs := by
    obtain ⟨fuel, hf⟩ := h0
    rcases open_ints Try.underlying22 Try.underlying5 (by kernel_rfl) hf with ⟨hcs, _⟩ | ⟨x, l, c, zs, hcs, _, hl, hm, hz, _, hcell, hwz⟩
    · simp [Value.cells] at hcs
      obtain ⟨rfl, rfl, rfl⟩ := hcs
      exact ⟨[], .inl ⟨rfl, rfl, rfl, rfl⟩⟩
    · simp [Value.cells] at hcs
      obtain ⟨rfl, rfl, rfl⟩ := hcs
      exact ⟨zs, .inr ⟨_, rfl, hl, hm, by simpa using hz, hcell, hwz⟩⟩
  clear hA0 hval0
  refine (walk a0 len0 cap0 z0 W w0).mono fun e W' ⟨he, bel⟩ => ?_
  subst he
  exact ⟨_, rfl, _, _, _, [], _, [], hW', trodAll_mk1 (shut_bool Try.underlying4 _), (trodAll_cons_mk (Below.trod laidOut (by kernel_rfl) (of_decide_eq_true (by kernel_rfl)) k0 bel lt0) trodAll_mk0), rfl, bel.frame _, fun h => by cases h⟩

theorem over : Rows.fnManyCutsFreeRow.holds Try.pinned (OpenSpec.ofChange Rows.fnManyCutsFreeSpec) :=
  OpenClaim.holds_of_wide 8 Try.f8 rfl rfl rfl rfl rfl rfl rfl ⟨rfl, rfl, rfl, rfl, rfl⟩ rfl rfl rfl rfl rfl (by kernel_rfl) Try.func8 (by kernel_rfl)
    (of_decide_eq_true (by kernel_rfl)) (by unfold Func.isWrapper; first | (rw [if_pos (by decide +kernel)]; kernel_rfl) | (rw [if_neg (by decide +kernel)]; exact ⟨rfl, rfl⟩))
    (fun os started H enc _ => lifted os started H enc)

/-- ████ THE STATEMENT ████ -/
theorem proved : Rows.FnManyCutsFreeSaid := over
#print axioms proved
end Go.Proofs.Ytihgfhddljicaaa.fnManyCutsFree
