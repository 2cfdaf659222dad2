/- For every input, the law FnCost of the given statements returns true over the program at this commit, and its arguments read afterwards as before: no condition. -/
import Derived.Test.YtihgfhddljicaaaRows
import Derived.Test.YtihgfhddljicaaaLawC
import Derived.WalkKit
import Derived.ProofKit
import Derived.OpenShut
import Derived.ShutString
import Derived.ChangeOld
import Derived.Below
namespace Go.Proofs.Ytihgfhddljicaaa.fnCost
open Go.ChangeShapes Go.WideShapes Go.ChangeAt Go.RowKit
open Go.ChangeMaps (open_string shut_string)
set_option linter.unusedVariables false

theorem own : ownKnob Try.prog.godebug = none := by kernel_rfl
theorem laidOut : laidOutB Try.prog = true := by kernel_rfl

/-- WHAT THE WALK IS TOLD OF A SLICE OF INTEGERS THAT CAME IN: it is nil; or it leads to a row of 'cap' cells, the numbers 'zs' (the first 'len' are its elements, the rest its spare room), each fitting its kind. -/
def IsRow (k : IntKind) (w : World) (a : Option Addr) (len cap : Nat) (zs : List Int) : Prop :=
  (a = none ∧ len = 0 ∧ cap = 0 ∧ zs = []) ∨
  ∃ x, a = some x ∧ len ≤ cap ∧ cap ≤ maxLen ∧ zs.length = cap ∧ (∀ i, i < zs.length → w.cell? (x.add i) = some (.int k (zs.getD i 0))) ∧ ∀ n ∈ zs, (Lit.int k n).wf = true

set_option maxRecDepth 100000 in
set_option maxHeartbeats 3200000 in
theorem walk (a0 : Option Addr) (len0 cap0 : Nat) (z0 : List Int) (w : World) (w0 : IsRow .u8 w a0 len0 cap0 z0) :
    Calls Try.prog 5 #[.slice a0 len0 cap0] w fun e w' => e = .returned (.bool true) ∧ Below w.heap.size w w' := by
  have hB := bytes_of w0
  by_cases hl : 1048576 < len0
  · have hdec : decide (1048576 < len0) = true := by simpa using hl
    go_enter Try.func5, Try.ntmps5
    go_wp2_with fail
    go_ret
    exact ⟨rfl, Below.refl _ _⟩
  have hdec : decide (1048576 < len0) = false := by simpa using hl
  have hm : len0 ≤ 1048576 := by omega
  go_enter Try.func5, Try.ntmps5
  go_wp2_with fail
  refine (DrawCutsCost_any hB).mono ?_
  rintro e wv1 ⟨v, u, c, l, lo, mo, rfl, r0, r1, hc20, hl100, b1⟩
  clear w0 hB
  have BB := Lib.hid b1
  clear b1
  have R := Lib.hid r0
  clear r0
  have U := Lib.hid r1
  clear r1
  obtain ⟨aR, cR, rfl, kR, mR⟩ := len_n R.out
  obtain ⟨aU, cU, rfl, kU, mU⟩ := len_n U.out
  obtain ⟨z, hz⟩ : ∃ x : Int, costB c lo mo l = x := ⟨_, rfl⟩
  have HZ := Lib.hid hz
  by_cases hneg : z < 0
  · clear hz
    go_wp2_with fail
    refine (costI_is R.out U.out (by omega) HZ.out).mono ?_
    rintro e wv2 ⟨rfl, b9⟩
    replace R := Lib.hid (R.out.grow b9)
    replace U := Lib.hid (U.out.grow b9)
    replace BB := Lib.hid (BB.out.trans (b9.mono BB.out.size))
    clear b9
    go_wp2_with fail
    refine (costSB R.out U.out (by omega) HZ.out).mono ?_
    rintro e wv3 ⟨rfl, b9⟩
    replace R := Lib.hid (R.out.grow b9)
    replace U := Lib.hid (U.out.grow b9)
    replace BB := Lib.hid (BB.out.trans (b9.mono BB.out.size))
    clear b9
    go_wp2_with fail
    go_ret
    exact ⟨by first | rfl | (simp; done) | (simp; omega), BB.out⟩
  · have hb := costB_nonneg (c := c) (lo := lo) (mo := mo) (l := l) (by omega)
    obtain ⟨a, b, rfl, rfl, hal⟩ := allowed_is hb
    have AL := Lib.hid hal
    have HC : Hid (costAt c l = z) := Lib.hid (by rw [← hal.cost]; exact hz)
    obtain ⟨l1, ln⟩ := hal.size
    obtain ⟨n1, n16⟩ := hal.len
    have hzb := hal.bound
    rw [HC.out] at hzb
    have g0 : decide (z < 0) = false := by simpa using hneg
    clear hb hal hz hneg
    go_wp2_with fail
    refine (costI_is R.out U.out (by omega) HZ.out).mono ?_
    rintro e wv2 ⟨rfl, b9⟩
    replace R := Lib.hid (R.out.grow b9)
    replace U := Lib.hid (U.out.grow b9)
    replace BB := Lib.hid (BB.out.trans (b9.mono BB.out.size))
    clear b9
    go_wp2_with fail
    refine (costSB R.out U.out (by omega) HZ.out).mono ?_
    rintro e wv3 ⟨rfl, b9⟩
    replace R := Lib.hid (R.out.grow b9)
    replace U := Lib.hid (U.out.grow b9)
    replace BB := Lib.hid (BB.out.trans (b9.mono BB.out.size))
    clear b9
    go_wp2_with fail
    go_loopg [9, 10] l.length (fun k x y wr => ∃ j : Nat, x = .int .i64 (costAt c (l.take j)) ∧ y = .int .i64 j ∧ j + k = l.length ∧ wv3 = wr)
    case atStart => exact ⟨0, rfl, rfl, by omega, rfl⟩
    case round =>
      obtain ⟨j, rfl, rfl, hk, rfl⟩ := hrel
      have K := Lib.hid hk
      have hjn : j ≤ l.length := by omega
      clear hk
      by_cases hlt : j < l.length
      · skip
        obtain ⟨gx, px, qx, ex, k1x, k2x⟩ := known_n R.out rfl (by omega)
        simp only [Value.slice.injEq, true_and] at ex
        obtain ⟨rfl, rfl⟩ := ex
        obtain ⟨gy, py, qy, ey, k1y, k2y⟩ := known_n U.out rfl (by omega)
        simp only [Value.slice.injEq, true_and] at ey
        obtain ⟨rfl, rfl⟩ := ey
        have d1 := U.out.cells j hlt
        have pl := AL.out.places _ (List.getElem_mem hlt)
        have st := cost_step (c := c) hlt
        have b1 := AL.out.part j
        have b2 := AL.out.part (j + 1)
        obtain ⟨q, hq⟩ : ∃ q : Nat, l[j] = (q : Int) := ⟨l[j].toNat, by omega⟩
        rw [hq] at d1 pl st
        have hqc : q < c.length := by omega
        have d2 := R.out.cells q hqc
        rw [getD_in pl.1 pl.2] at st
        simp only [Int.toNat_natCast] at st
        obtain ⟨x, hx⟩ : ∃ x : Int, c[q] = x := ⟨_, rfl⟩
        rw [hx] at d2 st
        have i0 : (0 : Int) ≤ (j : Int) := by omega
        have i1 : (j : Int) < (l.length : Int) := by omega
        have i2 : (0 : Int) ≤ (q : Int) := by omega
        have i3 : (q : Int) < (c.length : Int) := by omega
        have e1 : IntKind.i64.wrap (costAt c (l.take j) + x) = costAt c (l.take (j + 1)) := by rw [← st]; exact IntWalk.i64_in _ (by omega)
        clear st hx hq
        go_wp2_with fail
        go_roundg (gk - 1)
        case measure => have := K.out; omega
        case rel => exact ⟨j + 1, by first | rfl | (rw [e1]), by go_num, by have := K.out; omega, rfl⟩
      · have hj : j = l.length := by omega
        have e1 : costAt c (l.take j) = z := by rw [hj, List.take_length]; exact HC.out
        have i1 : ¬ (j : Int) < (l.length : Int) := by omega
        rw [e1]
        clear e1 hj hlt
        have O9 := Lib.hid (iown_new (w := wv3) (Nat.le_refl wv3.heap.size))
        have A9 := Lib.hid ((Below.refl wv3.heap.size wv3).alloc (Nat.le_refl _) (.cells #[] 3))
        go_wp2_with fail
        go_loopg [11, 12] c.length (fun k y x wr => ∃ j : Nat, x = .int .i64 j ∧ j + k = c.length ∧ IOwn wr wv3.heap.size y ((plus1 c).take j) ∧ Below wv3.heap.size wv3 wr)
        case atStart => exact ⟨0, rfl, by omega, by rw [show (plus1 c).take 0 = [] from rfl]; exact O9.out, A9.out⟩
        case round =>
          obtain ⟨wv4, rfl⟩ : ∃ x, x = wr := ⟨wr, rfl⟩
          obtain ⟨j, rfl, hk, ho, hb⟩ := hrel
          have K := Lib.hid hk; have O := Lib.hid ho; have B := Lib.hid hb
          have hjn : j ≤ c.length := by omega
          have hz7 := hb.size
          clear hk ho hb O9 A9
          replace R := Lib.hid (R.out.grow B.out)
          replace U := Lib.hid (U.out.grow B.out)
          replace BB := Lib.hid (BB.out.trans (B.out.mono BB.out.size))
          by_cases hlt : j < c.length
          · have i1 : (j : Int) < (c.length : Int) := by omega
            have i2 : (0 : Int) ≤ (j : Int) := by omega
            obtain ⟨gx, px, qx, ex, k1x, k2x⟩ := known_n R.out rfl (by omega)
            simp only [Value.slice.injEq, true_and] at ex
            obtain ⟨rfl, rfl⟩ := ex
            have d1 := R.out.cells j hlt
            have cb := (isSig_iff.1 AL.out.sig).2.2 _ (List.getElem_mem hlt)
            have e1 : IntKind.i64.wrap (c[j] + 1) = c[j] + 1 := IntWalk.i64_in _ (by omega)
            have n1 := new_one wv4 (.int .i64 (c[j] + 1)) 3
            have N1 := Lib.hid n1
            have BW := Lib.hid ((Below.refl wv4.heap.size wv4).alloc (Nat.le_refl _) (.cells #[.int .i64 (c[j] + 1)] 3))
            have ST : Hid ((plus1 c).take j ++ [c[j] + 1] = (plus1 c).take (j + 1)) := Lib.hid ((List.take_succ_eq_append_getElem (l := plus1 c) (i := j) (by rw [plus1_length]; exact hlt)).symm ▸ (by simp [plus1]))
            clear n1
            go_wp2_with (at_builtin; refine iappend_one intT rfl _ _ rfl (B := wv3.heap.size) _ _ rfl (O.out.grow BW.out) ⟨wv4.heap.size, 0, none⟩ (c[j] + 1) rfl N1.out (by rw [show ((plus1 c).take j).length = j by rw [List.length_take, plus1_length]; omega]; omega) (by simp; omega) ?_; intro v8 w8 hown8 hg8)
            rw [ST.out] at hown8
            have O8 := Lib.hid hown8
            have B8 := Lib.hid (B.out.trans ((BW.out.mono hz7).trans ((O.out.grow BW.out).below hg8 (by simp; omega))))
            clear hown8 hg8
            go_wp2_with fail
            go_roundg (gk - 1)
            case measure => have := K.out; omega
            case rel => exact ⟨j + 1, by go_num, by have := K.out; omega, O8.out, B8.out⟩
          · have hj : j = c.length := by omega
            have hd := O.out
            rw [hj] at hd
            clear hlt hz7
            have nlt : ¬ (j : Int) < (c.length : Int) := by omega
            have X := Lib.hid hd
            clear hd
            clear O
            have X2 : Hid (IOwn wv4 _ _ (plus1 c)) := Lib.hid (by have := X.out; rw [List.take_of_length_le (by rw [plus1_length]; exact Nat.le_refl _)] at this; exact this)
            clear X
            have hp := AL.out.plus
            rw [HC.out] at hp
            obtain ⟨y, hy⟩ : ∃ x : Int, costB (plus1 c) a b l = x := ⟨_, rfl⟩
            rw [hy] at hp
            have HY := Lib.hid hy
            have HP := Lib.hid hp
            have e9 : IntKind.i64.wrap (z + (l.length : Int)) = z + (l.length : Int) := IntWalk.i64_in _ (by omega)
            clear hy hp
            go_wp2_with fail
            refine (costI_is X2.out.row U.out (by omega) HY.out).mono ?_
            rintro e wv5 ⟨rfl, b9⟩
            replace R := Lib.hid (R.out.grow b9)
            replace U := Lib.hid (U.out.grow b9)
            replace X2 := Lib.hid (X2.out.grow b9)
            replace BB := Lib.hid (BB.out.trans (b9.mono BB.out.size))
            clear b9
            have hp := HP.out
            rcases hp with h | h
            · rw [h]
              clear h HY HP
              go_wp2_with fail
              go_ret
              exact ⟨by first | rfl | (simp; done) | (simp; omega), BB.out⟩
            · by_cases h2 : y = z + (l.length : Int)
              · rw [h2]
                clear h h2 HY HP
                go_wp2_with fail
                go_ret
                exact ⟨by first | rfl | (simp; done) | (simp; omega), BB.out⟩
              · have n1 : (y == z + (l.length : Int)) = false := by simpa using h2
                rw [h]
                rw [h] at n1
                clear h h2 HY HP
                go_wp2_with fail
                go_ret
                exact ⟨by first | rfl | (simp; done) | (simp; omega), BB.out⟩

set_option maxRecDepth 100000 in
theorem lifted (os : Os) (started : os.Started) (H : Type) (enc : TypeId × Value → H) :
    ReturnsInHanded {} Try.checked os 5 .any (Rows.fnCostSpec.pre6 enc Try.prog Try.f5 Rows.fnCostRow.domain false) (Rows.fnCostSpec.post enc Try.prog Try.f5 false true false false) := by
  refine returnsInHanded_of_change (C := Try.checked) own started (by kernel_rfl) Try.func5
    (ChangeSpec.witness6 (enc := enc) (C := Try.checked) false ⟨#[], #[.slice none 0 0], []⟩ 8 (by kernel_rfl) (by kernel_rfl) (by kernel_rfl) (by kernel_rfl)) ?_
  intro W base args ds gs before hval0 hW hcnd _
  have hval : ∀ (j : Nat) t v, Try.f5.params[j]? = some t → args[j]? = some v → Value.okWide Try.prog W .any base t v := hval0
  have hW' := hW
  obtain ⟨p, q, hA0, hV, rfl, hfz, hnd⟩ := hW
  have hA : DataW.TrodAll enc Try.prog W 0 (fun _ => true) true Try.f5.params.toList args.toList ds p := hA0
  rw [Try.params5] at hA hval
  obtain ⟨v0, vs0, d0, ds0, p0, q0, hargs, rfl, rfl, h0, r0⟩ := trodAll_cons hA
  obtain ⟨rfl, rfl, rfl⟩ := trodAll_nil r0
  obtain rfl : args = #[v0] := by cases args; simp_all
  obtain ⟨rfl, rfl⟩ := trodVars_none hV
  obtain ⟨a0, len0, cap0, rfl⟩ := okWide_slice Try.underlying22 (hval 0 22 v0 rfl rfl)
  have k0 := h0
  have lt0 : ∀ x ∈ p0, x.block < W.heap.size := by obtain ⟨m, hm⟩ := k0; exact DataW.trod_lt m _ _ _ hm
  obtain ⟨z0, w0⟩ : ∃ zs, IsRow .u8 W a0 len0 cap0 zs := by
    obtain ⟨fuel, hf⟩ := h0
    rcases open_ints Try.underlying22 Try.underlying5 (by kernel_rfl) hf with ⟨hcs, _⟩ | ⟨x, l, c, zs, hcs, _, hl, hm, hz, _, hcell, hwz⟩
    · simp [Value.cells] at hcs
      obtain ⟨rfl, rfl, rfl⟩ := hcs
      exact ⟨[], .inl ⟨rfl, rfl, rfl, rfl⟩⟩
    · simp [Value.cells] at hcs
      obtain ⟨rfl, rfl, rfl⟩ := hcs
      exact ⟨zs, .inr ⟨_, rfl, hl, hm, by simpa using hz, hcell, hwz⟩⟩
  clear hA0 hval0
  refine (walk a0 len0 cap0 z0 W w0).mono fun e W' ⟨he, bel⟩ => ?_
  subst he
  exact ⟨_, rfl, _, _, _, [], _, [], hW', trodAll_mk1 (shut_bool Try.underlying4 _), (trodAll_cons_mk (Below.trod laidOut (by kernel_rfl) (of_decide_eq_true (by kernel_rfl)) k0 bel lt0) trodAll_mk0), rfl, bel.frame _, fun h => by cases h⟩

theorem over : Rows.fnCostRow.holds Try.pinned (OpenSpec.ofChange Rows.fnCostSpec) :=
  OpenClaim.holds_of_wide 5 Try.f5 rfl rfl rfl rfl rfl rfl rfl ⟨rfl, rfl, rfl, rfl, rfl⟩ rfl rfl rfl rfl rfl (by kernel_rfl) Try.func5 (by kernel_rfl)
    (of_decide_eq_true (by kernel_rfl)) (by unfold Func.isWrapper; first | (rw [if_pos (by decide +kernel)]; kernel_rfl) | (rw [if_neg (by decide +kernel)]; exact ⟨rfl, rfl⟩))
    (fun os started H enc _ => lifted os started H enc)

/-- ████ THE STATEMENT ████ -/
theorem proved : Rows.FnCostSaid := over
#print axioms proved
end Go.Proofs.Ytihgfhddljicaaa.fnCost
