/- For every input, the law FnBetweenParts of the given statements returns true over the program at this commit, and its arguments read afterwards as before: no condition. -/
import Derived.Test.YtcemgdekcfdfhabRows
import Derived.Test.YtcemgdekcfdfhabLawQ
import Derived.WalkKit
import Derived.ProofKit
import Derived.OpenShut
import Derived.ShutString
import Derived.ChangeOld
import Derived.Below
namespace Go.Proofs.Ytcemgdekcfdfhab.fnBetweenParts
open Go.ChangeShapes Go.WideShapes Go.ChangeAt Go.RowKit
open Go.ChangeMaps (open_string shut_string)
set_option linter.unusedVariables false

theorem own : ownKnob Try.prog.godebug = none := by kernel_rfl
theorem laidOut : laidOutB Try.prog = true := by kernel_rfl

/-- WHAT THE WALK IS TOLD OF A SLICE OF INTEGERS THAT CAME IN: it is nil; or it leads to a row of 'cap' cells, the numbers 'zs' (the first 'len' are its elements, the rest its spare room), each fitting its kind. -/
def IsRow (k : IntKind) (w : World) (a : Option Addr) (len cap : Nat) (zs : List Int) : Prop :=
  (a = none ∧ len = 0 ∧ cap = 0 ∧ zs = []) ∨
  ∃ x, a = some x ∧ len ≤ cap ∧ cap ≤ maxLen ∧ zs.length = cap ∧ (∀ i, i < zs.length → w.cell? (x.add i) = some (.int k (zs.getD i 0))) ∧ ∀ n ∈ zs, (Lit.int k n).wf = true

set_option maxRecDepth 100000 in
set_option maxHeartbeats 3200000 in
theorem walk (a0 : Option Addr) (len0 cap0 : Nat) (z0 : List Int) (w : World) (w0 : IsRow .u8 w a0 len0 cap0 z0) :
    Calls Try.prog 6 #[.slice a0 len0 cap0] w fun e w' => e = .returned (.bool true) ∧ Below w.heap.size w w' := by
  have hB := bytes_of w0
  by_cases hl : 1048576 < len0
  · have hdec : decide (1048576 < len0) = true := by simpa using hl
    go_enter Try.func6, Try.ntmps6
    go_wp2_with fail
    go_ret
    exact ⟨rfl, Below.refl _ _⟩
  have hdec : decide (1048576 < len0) = false := by simpa using hl
  have hm : len0 ≤ 1048576 := by omega
  go_enter Try.func6, Try.ntmps6
  go_wp2_with fail
  refine (DrawOrderBetween_any hB).mono ?_
  rintro e wv1 ⟨v, u, l, s, i, k, rfl, ⟨r0, r1, l1, l3, s1, s4, bl, bs⟩, i0, i5, k0, k5, b1⟩
  clear w0 hB
  have BB := Lib.hid b1
  clear b1
  have R := Lib.hid r0
  clear r0
  have U := Lib.hid r1
  clear r1
  replace R := Lib.hid R.out.row
  replace U := Lib.hid U.out.row
  obtain ⟨aR, cR, rfl, kR, mR⟩ := plen_n R.out
  obtain ⟨aU, cU, rfl, kU, mU⟩ := plen_n U.out
  have i63 : I63 i := by unfold I63; omega
  have k63 : I63 k := by unfold I63; omega
  rcases between_cases l s i k with hc | ⟨hw, hi, hk, hi2, hk2, hc⟩
  · have HC := Lib.hid hc
    clear hc
    go_wp2_with fail
    refine (btwI_is R.out U.out i63 k63 HC.out).mono ?_
    rintro e wv2 ⟨rfl, b9⟩
    replace R := Lib.hid (R.out.grow b9)
    replace U := Lib.hid (U.out.grow b9)
    replace BB := Lib.hid (BB.out.trans (b9.mono BB.out.size))
    clear b9
    go_wp2_with fail
    refine (btwS_is R.out U.out i63 k63 HC.out).mono ?_
    rintro e wv3 ⟨rfl, b9⟩
    replace R := Lib.hid (R.out.grow b9)
    replace U := Lib.hid (U.out.grow b9)
    replace BB := Lib.hid (BB.out.trans (b9.mono BB.out.size))
    clear b9
    go_wp2_with fail
    go_ret
    exact ⟨by first | rfl | (simp; done) | (simp; omega), BB.out⟩
  obtain ⟨x, rfl⟩ := Int.eq_ofNat_of_zero_le hi
  obtain ⟨y, rfl⟩ := Int.eq_ofNat_of_zero_le hk
  simp only [Int.toNat_natCast] at hi2 hk2 hc
  obtain ⟨z, hz⟩ : ∃ z, betOf (par l s) x y = z := ⟨_, rfl⟩
  obtain ⟨c, hcn⟩ : ∃ c, cnt (par l s) = c := ⟨_, rfl⟩
  have zc := betOf_le (par l s) hw.small x y
  rw [hz, hcn] at zc
  rw [hz] at hc
  have c9 := cnt_four hw.small (by rw [par_length l s hw.len]; exact hw.most)
  rw [hcn] at c9
  have CZ := Lib.hid hc; have HZ := Lib.hid hz; have CN := Lib.hid hcn; have W := Lib.hid hw
  have XI := Lib.hid hi2; have YK := Lib.hid hk2
  have CC : Hid (countOf l s = (c : Int)) := Lib.hid (by rw [count_of hw, hcn])
  have g0 : ¬ (z : Int) < 0 := by omega
  have x9 : x ≤ 5 := by omega
  have y9 : y ≤ 5 := by omega
  clear hc hz hcn hw hi2 hk2
  go_wp2_with fail
  refine (btwI_is R.out U.out i63 k63 CZ.out).mono ?_
  rintro e wv2 ⟨rfl, b9⟩
  replace R := Lib.hid (R.out.grow b9)
  replace U := Lib.hid (U.out.grow b9)
  replace BB := Lib.hid (BB.out.trans (b9.mono BB.out.size))
  clear b9
  go_wp2_with fail
  refine (btwS_is R.out U.out i63 k63 CZ.out).mono ?_
  rintro e wv3 ⟨rfl, b9⟩
  replace R := Lib.hid (R.out.grow b9)
  replace U := Lib.hid (U.out.grow b9)
  replace BB := Lib.hid (BB.out.trans (b9.mono BB.out.size))
  clear b9
  have A6 := Lib.hid (all_nn W.out.a6); have B6 := Lib.hid (all_nn W.out.b6)
  have SX : Hid ((x : Int) < l.sum) := Lib.hid (by rw [sum_a W.out]; have := XI.out; omega)
  have SY : Hid ((y : Int) < s.sum) := Lib.hid (by rw [sum_b W.out]; have := YK.out; omega)
  obtain ⟨gR, oR, qR, eR, _, _⟩ := R.out.known (by omega)
  simp only [Value.slice.injEq, true_and] at eR
  obtain ⟨rfl, rfl⟩ := eR
  obtain ⟨gU, oU, qU, eU, _, _⟩ := U.out.known (by have := W.out.len; omega)
  simp only [Value.slice.injEq, true_and] at eU
  obtain ⟨rfl, rfl⟩ := eU
  go_wp2_with fail
  go_loopg [9] l.length (fun g v wr => ∃ j : Nat, v = .int .i64 j ∧ j + g = l.length ∧ j < l.length ∧ (l.take j).sum ≤ (x : Int) ∧ Below wv3.heap.size wv3 wr)
  case atStart => exact ⟨0, rfl, by omega, by omega, by simp, Below.refl _ _⟩
  case round =>
    obtain ⟨wv4, rfl⟩ : ∃ x, x = wr := ⟨wr, rfl⟩
    obtain ⟨j, rfl, hk, hj, hs, hb⟩ := hrel
    obtain ⟨gjPA, rfl⟩ : ∃ g, g = gk := ⟨_, rfl⟩
    have K := Lib.hid hk; have B := Lib.hid hb
    clear hk hb
    replace R := Lib.hid (R.out.grow B.out)
    replace U := Lib.hid (U.out.grow B.out)
    replace BB := Lib.hid (BB.out.trans (B.out.mono BB.out.size))
    have j1 : IntKind.i64.wrap ((j : Int) + 1) = (j : Int) + 1 := IntWalk.i64_in _ (by omega)
    have j2 : (0 : Int) ≤ (j : Int) + 1 := by omega
    have j3 : (j : Int) + 1 ≤ (l.length : Int) := by omega
    have j4 : (j : Int) + 1 ≤ (cR : Int) := by omega
    have j5 : ((j : Int) + 1).toNat = j + 1 := by omega
    have qc1 : j + 1 ≤ cR := by omega
    have TK := Lib.hid (R.out.take (j + 1) (by omega))
    have T6 := Lib.hid (fun y (hy : y ∈ l.take (j + 1)) => A6.out y (List.mem_of_mem_take hy))
    obtain ⟨m, hm⟩ : ∃ m, (l.take (j + 1)).sum = m := ⟨_, rfl⟩
    have HM := Lib.hid hm
    clear hm
    go_wp2_with fail
    refine (sumP_is TK.out T6.out (by rw [List.length_take]; omega) HM.out).mono ?_
    rintro e wv5 ⟨rfl, b9⟩
    replace B := Lib.hid (B.out.trans (b9.mono B.out.size))
    replace R := Lib.hid (R.out.grow b9)
    replace U := Lib.hid (U.out.grow b9)
    replace TK := Lib.hid (TK.out.grow b9)
    replace BB := Lib.hid (BB.out.trans (b9.mono BB.out.size))
    clear b9
    clear TK
    by_cases hle : m ≤ (x : Int)
    · have hj9 : j + 1 < l.length := by
        rcases Nat.lt_or_ge (j + 1) l.length with h | h
        · exact h
        · exfalso
          have h9 := HM.out
          rw [List.take_of_length_le h] at h9
          have := SX.out
          omega
      have hs2 : Hid ((l.take (j + 1)).sum ≤ (x : Int)) := Lib.hid (by rw [HM.out]; exact hle)
      go_wp2_with fail
      go_roundg (gjPA - 1)
      case measure => have := K.out; omega
      case rel => exact ⟨j + 1, by go_num, by have := K.out; omega, hj9, hs2.out, B.out⟩
    have PA : Hid ((l.take j).sum ≤ (x : Int) ∧ (x : Int) < (l.take (j + 1)).sum) := Lib.hid ⟨hs, by rw [HM.out]; omega⟩
    obtain ⟨pa, rfl⟩ : ∃ p, p = j := ⟨_, rfl⟩
    have hltPA : decide (m ≤ (x : Int)) = false := decide_eq_false hle
    obtain ⟨mPA, rfl⟩ : ∃ p, p = m := ⟨_, rfl⟩
    clear K B T6 HM hs j1 j2 j3 j4 j5 qc1 hj hle
    go_wp2_with fail
    go_loopg [10] s.length (fun g v wr => ∃ j : Nat, v = .int .i64 j ∧ j + g = s.length ∧ j < s.length ∧ (s.take j).sum ≤ (y : Int) ∧ Below wv5.heap.size wv5 wr)
    case atStart => exact ⟨0, rfl, by omega, by have := W.out.len; omega, by simp, Below.refl _ _⟩
    case round =>
      obtain ⟨wv6, rfl⟩ : ∃ x, x = wr := ⟨wr, rfl⟩
      obtain ⟨j, rfl, hk, hj, hs, hb⟩ := hrel
      obtain ⟨gjPB, rfl⟩ : ∃ g, g = gk := ⟨_, rfl⟩
      have K := Lib.hid hk; have B := Lib.hid hb
      clear hk hb
      replace R := Lib.hid (R.out.grow B.out)
      replace U := Lib.hid (U.out.grow B.out)
      replace BB := Lib.hid (BB.out.trans (B.out.mono BB.out.size))
      have j1 : IntKind.i64.wrap ((j : Int) + 1) = (j : Int) + 1 := IntWalk.i64_in _ (by omega)
      have j2 : (0 : Int) ≤ (j : Int) + 1 := by omega
      have j3 : (j : Int) + 1 ≤ (s.length : Int) := by omega
      have j4 : (j : Int) + 1 ≤ (cU : Int) := by omega
      have j5 : ((j : Int) + 1).toNat = j + 1 := by omega
      have qc1 : j + 1 ≤ cU := by omega
      have TK := Lib.hid (U.out.take (j + 1) (by omega))
      have T6 := Lib.hid (fun y (hy : y ∈ s.take (j + 1)) => B6.out y (List.mem_of_mem_take hy))
      obtain ⟨m, hm⟩ : ∃ m, (s.take (j + 1)).sum = m := ⟨_, rfl⟩
      have HM := Lib.hid hm
      clear hm
      go_wp2_with fail
      refine (sumP_is TK.out T6.out (by rw [List.length_take]; omega) HM.out).mono ?_
      rintro e wv7 ⟨rfl, b9⟩
      replace B := Lib.hid (B.out.trans (b9.mono B.out.size))
      replace R := Lib.hid (R.out.grow b9)
      replace U := Lib.hid (U.out.grow b9)
      replace TK := Lib.hid (TK.out.grow b9)
      replace BB := Lib.hid (BB.out.trans (b9.mono BB.out.size))
      clear b9
      clear TK
      by_cases hle : m ≤ (y : Int)
      · have hj9 : j + 1 < s.length := by
          rcases Nat.lt_or_ge (j + 1) s.length with h | h
          · exact h
          · exfalso
            have h9 := HM.out
            rw [List.take_of_length_le h] at h9
            have := SY.out
            omega
        have hs2 : Hid ((s.take (j + 1)).sum ≤ (y : Int)) := Lib.hid (by rw [HM.out]; exact hle)
        go_wp2_with fail
        go_roundg (gjPB - 1)
        case measure => have := K.out; omega
        case rel => exact ⟨j + 1, by go_num, by have := K.out; omega, hj9, hs2.out, B.out⟩
      have PB : Hid ((s.take j).sum ≤ (y : Int) ∧ (y : Int) < (s.take (j + 1)).sum) := Lib.hid ⟨hs, by rw [HM.out]; omega⟩
      obtain ⟨pb, rfl⟩ : ∃ p, p = j := ⟨_, rfl⟩
      have hltPB : decide (m ≤ (y : Int)) = false := decide_eq_false hle
      obtain ⟨mPB, rfl⟩ : ∃ p, p = m := ⟨_, rfl⟩
      clear K B T6 HM hs j1 j2 j3 j4 j5 qc1 hj hle
      go_wp2_with fail
      refine (cntI_is R.out U.out CC.out).mono ?_
      rintro e wv8 ⟨rfl, b9⟩
      replace R := Lib.hid (R.out.grow b9)
      replace U := Lib.hid (U.out.grow b9)
      replace BB := Lib.hid (BB.out.trans (b9.mono BB.out.size))
      clear b9
      obtain ⟨f1, f2, f3⟩ := bet_parts W.out XI.out YK.out PA.out PB.out
      rw [HZ.out, CN.out] at f1 f3
      rw [HZ.out] at f2
      rcases Nat.lt_trichotomy pa pb with h | h | h
      · obtain rfl := f1 h
        have h1 : (pa : Int) < (pb : Int) := by omega
        clear f1 f2 f3
        go_wp2_with fail
        go_ret
        exact ⟨by first | rfl | (simp; done) | (simp; omega), BB.out⟩
      · obtain ⟨h1, h2⟩ := f3 h
        subst h
        have h3 : ¬ z = c := by omega
        have h4 : ¬ z = 0 := by omega
        clear f1 f2 f3
        go_wp2_with fail
        go_ret
        exact ⟨by first | rfl | (simp; done) | (simp; omega), BB.out⟩
      · obtain rfl := f2 h
        have h1 : decide ((pa : Int) < (pb : Int)) = false := decide_eq_false (by omega)
        have h2 : ¬ pa < pb := by omega
        clear f1 f2 f3
        go_wp2_with fail
        go_ret
        exact ⟨by first | rfl | (simp; done) | (simp; omega), BB.out⟩

set_option maxRecDepth 100000 in
theorem lifted (os : Os) (started : os.Started) (H : Type) (enc : TypeId × Value → H) :
    ReturnsInHanded {} Try.checked os 6 .any (Rows.fnBetweenPartsSpec.pre6 enc Try.prog Try.f6 Rows.fnBetweenPartsRow.domain false) (Rows.fnBetweenPartsSpec.post enc Try.prog Try.f6 false true false false) := by
  refine returnsInHanded_of_change (C := Try.checked) own started (by kernel_rfl) Try.func6
    (ChangeSpec.witness6 (enc := enc) (C := Try.checked) false ⟨#[], #[.slice none 0 0], []⟩ 8 (by kernel_rfl) (by kernel_rfl) (by kernel_rfl) (by kernel_rfl)) ?_
  intro W base args ds gs before hval0 hW hcnd _
  have hval : ∀ (j : Nat) t v, Try.f6.params[j]? = some t → args[j]? = some v → Value.okWide Try.prog W .any base t v := hval0
  have hW' := hW
  obtain ⟨p, q, hA0, hV, rfl, hfz, hnd⟩ := hW
  have hA : DataW.TrodAll enc Try.prog W 0 (fun _ => true) true Try.f6.params.toList args.toList ds p := hA0
  rw [Try.params6] at hA hval
  obtain ⟨v0, vs0, d0, ds0, p0, q0, hargs, rfl, rfl, h0, r0⟩ := trodAll_cons hA
  obtain ⟨rfl, rfl, rfl⟩ := trodAll_nil r0
  obtain rfl : args = #[v0] := by cases args; simp_all
  obtain ⟨rfl, rfl⟩ := trodVars_none hV
  obtain ⟨a0, len0, cap0, rfl⟩ := okWide_slice Try.underlying22 (hval 0 22 v0 rfl rfl)
  have k0 := h0
  have lt0 : ∀ x ∈ p0, x.block < W.heap.size := by obtain ⟨m, hm⟩ := k0; exact DataW.trod_lt m _ _ _ hm
  obtain ⟨z0, w0⟩ : ∃ zs, IsRow .u8 W a0 len0 cap0 zs := by
    obtain ⟨fuel, hf⟩ := h0
    rcases open_ints Try.underlying22 Try.underlying5 (by kernel_rfl) hf with ⟨hcs, _⟩ | ⟨x, l, c, zs, hcs, _, hl, hm, hz, _, hcell, hwz⟩
    · simp [Value.cells] at hcs
      obtain ⟨rfl, rfl, rfl⟩ := hcs
      exact ⟨[], .inl ⟨rfl, rfl, rfl, rfl⟩⟩
    · simp [Value.cells] at hcs
      obtain ⟨rfl, rfl, rfl⟩ := hcs
      exact ⟨zs, .inr ⟨_, rfl, hl, hm, by simpa using hz, hcell, hwz⟩⟩
  clear hA0 hval0
  refine (walk a0 len0 cap0 z0 W w0).mono fun e W' ⟨he, bel⟩ => ?_
  subst he
  exact ⟨_, rfl, _, _, _, [], _, [], hW', trodAll_mk1 (shut_bool Try.underlying4 _), (trodAll_cons_mk (Below.trod laidOut (by kernel_rfl) (of_decide_eq_true (by kernel_rfl)) k0 bel lt0) trodAll_mk0), rfl, bel.frame _, fun h => by cases h⟩

theorem over : Rows.fnBetweenPartsRow.holds Try.pinned (OpenSpec.ofChange Rows.fnBetweenPartsSpec) :=
  OpenClaim.holds_of_wide 6 Try.f6 rfl rfl rfl rfl rfl rfl rfl ⟨rfl, rfl, rfl, rfl, rfl⟩ rfl rfl rfl rfl rfl (by kernel_rfl) Try.func6 (by kernel_rfl)
    (of_decide_eq_true (by kernel_rfl)) (by unfold Func.isWrapper; first | (rw [if_pos (by decide +kernel)]; kernel_rfl) | (rw [if_neg (by decide +kernel)]; exact ⟨rfl, rfl⟩))
    (fun os started H enc _ => lifted os started H enc)

/-- ████ THE STATEMENT ████ -/
theorem proved : Rows.FnBetweenPartsSaid := over
#print axioms proved
end Go.Proofs.Ytcemgdekcfdfhab.fnBetweenParts
