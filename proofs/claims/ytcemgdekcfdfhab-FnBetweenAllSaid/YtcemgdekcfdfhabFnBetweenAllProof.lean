/- For every input, the law FnBetweenAll of the given statements returns true over the program at this commit, and its arguments read afterwards as before: no condition. -/
import Derived.Test.YtcemgdekcfdfhabRows
import Derived.Test.YtcemgdekcfdfhabLawA
import Derived.WalkKit
import Derived.ProofKit
import Derived.OpenShut
import Derived.ShutString
import Derived.ChangeOld
import Derived.Below
namespace Go.Proofs.Ytcemgdekcfdfhab.fnBetweenAll
open Go.ChangeShapes Go.WideShapes Go.ChangeAt Go.RowKit
open Go.ChangeMaps (open_string shut_string)
set_option linter.unusedVariables false

theorem own : ownKnob Try.prog.godebug = none := by kernel_rfl
theorem laidOut : laidOutB Try.prog = true := by kernel_rfl

/-- WHAT THE WALK IS TOLD OF A SLICE OF INTEGERS THAT CAME IN: it is nil; or it leads to a row of 'cap' cells, the numbers 'zs' (the first 'len' are its elements, the rest its spare room), each fitting its kind. -/
def IsRow (k : IntKind) (w : World) (a : Option Addr) (len cap : Nat) (zs : List Int) : Prop :=
  (a = none ∧ len = 0 ∧ cap = 0 ∧ zs = []) ∨
  ∃ x, a = some x ∧ len ≤ cap ∧ cap ≤ maxLen ∧ zs.length = cap ∧ (∀ i, i < zs.length → w.cell? (x.add i) = some (.int k (zs.getD i 0))) ∧ ∀ n ∈ zs, (Lit.int k n).wf = true

set_option maxRecDepth 100000 in
set_option maxHeartbeats 3200000 in
theorem walk (a0 : Option Addr) (len0 cap0 : Nat) (z0 : List Int) (w : World) (w0 : IsRow .u8 w a0 len0 cap0 z0) :
    Calls Try.prog 4 #[.slice a0 len0 cap0] w fun e w' => e = .returned (.bool true) ∧ Below w.heap.size w w' := by
  have hB := bytes_of w0
  by_cases hl : 1048576 < len0
  · have hdec : decide (1048576 < len0) = true := by simpa using hl
    go_enter Try.func4, Try.ntmps4
    go_wp2_with fail
    go_ret
    exact ⟨rfl, Below.refl _ _⟩
  have hdec : decide (1048576 < len0) = false := by simpa using hl
  have hm : len0 ≤ 1048576 := by omega
  go_enter Try.func4, Try.ntmps4
  go_wp2_with fail
  refine (DrawOrderBetween_any hB).mono ?_
  rintro e wv1 ⟨v, u, l, s, i, k, rfl, ⟨r0, r1, l1, l3, s1, s4, bl, bs⟩, i0, i5, k0, k5, b1⟩
  clear w0 hB
  have BB := Lib.hid b1
  clear b1
  have R := Lib.hid r0
  clear r0
  have U := Lib.hid r1
  clear r1
  replace R := Lib.hid R.out.row
  replace U := Lib.hid U.out.row
  obtain ⟨aR, cR, rfl, kR, mR⟩ := plen_n R.out
  obtain ⟨aU, cU, rfl, kU, mU⟩ := plen_n U.out
  have i63 : I63 i := by unfold I63; omega
  have k63 : I63 k := by unfold I63; omega
  rcases between_cases l s i k with hc | ⟨hw, hi, hk, hi2, hk2, hc⟩
  · have HC := Lib.hid hc
    clear hc
    go_wp2_with fail
    refine (btwI_is R.out U.out i63 k63 HC.out).mono ?_
    rintro e wv2 ⟨rfl, b9⟩
    replace R := Lib.hid (R.out.grow b9)
    replace U := Lib.hid (U.out.grow b9)
    replace BB := Lib.hid (BB.out.trans (b9.mono BB.out.size))
    clear b9
    go_wp2_with fail
    refine (btwS_is R.out U.out i63 k63 HC.out).mono ?_
    rintro e wv3 ⟨rfl, b9⟩
    replace R := Lib.hid (R.out.grow b9)
    replace U := Lib.hid (U.out.grow b9)
    replace BB := Lib.hid (BB.out.trans (b9.mono BB.out.size))
    clear b9
    go_wp2_with fail
    go_ret
    exact ⟨by first | rfl | (simp; done) | (simp; omega), BB.out⟩
  obtain ⟨x, rfl⟩ := Int.eq_ofNat_of_zero_le hi
  obtain ⟨y, rfl⟩ := Int.eq_ofNat_of_zero_le hk
  simp only [Int.toNat_natCast] at hi2 hk2 hc
  obtain ⟨z, hz⟩ : ∃ z, betOf (par l s) x y = z := ⟨_, rfl⟩
  obtain ⟨c, hcn⟩ : ∃ c, cnt (par l s) = c := ⟨_, rfl⟩
  have zc := betOf_le (par l s) hw.small x y
  rw [hz, hcn] at zc
  rw [hz] at hc
  have c9 := cnt_four hw.small (by rw [par_length l s hw.len]; exact hw.most)
  rw [hcn] at c9
  have CZ := Lib.hid hc; have HZ := Lib.hid hz; have CN := Lib.hid hcn; have W := Lib.hid hw
  have XI := Lib.hid hi2; have YK := Lib.hid hk2
  have CC : Hid (countOf l s = (c : Int)) := Lib.hid (by rw [count_of hw, hcn])
  have g0 : ¬ (z : Int) < 0 := by omega
  have x9 : x ≤ 5 := by omega
  have y9 : y ≤ 5 := by omega
  clear hc hz hcn hw hi2 hk2
  go_wp2_with fail
  refine (btwI_is R.out U.out i63 k63 CZ.out).mono ?_
  rintro e wv2 ⟨rfl, b9⟩
  replace R := Lib.hid (R.out.grow b9)
  replace U := Lib.hid (U.out.grow b9)
  replace BB := Lib.hid (BB.out.trans (b9.mono BB.out.size))
  clear b9
  go_wp2_with fail
  refine (btwS_is R.out U.out i63 k63 CZ.out).mono ?_
  rintro e wv3 ⟨rfl, b9⟩
  replace R := Lib.hid (R.out.grow b9)
  replace U := Lib.hid (U.out.grow b9)
  replace BB := Lib.hid (BB.out.trans (b9.mono BB.out.size))
  clear b9
  go_wp2_with fail
  refine (cntI_is R.out U.out CC.out).mono ?_
  rintro e wv4 ⟨rfl, b9⟩
  replace R := Lib.hid (R.out.grow b9)
  replace U := Lib.hid (U.out.grow b9)
  replace BB := Lib.hid (BB.out.trans (b9.mono BB.out.size))
  clear b9
  by_cases c40 : 40 < c
  · have c4 : (40 : Int) < (c : Int) := by omega
    go_wp2_with fail
    go_ret
    exact ⟨by first | rfl | (simp; done) | (simp; omega), BB.out⟩
  have c4 : decide ((40 : Int) < (c : Int)) = false := decide_eq_false (by omega)
  have C4 : Hid (c ≤ 40) := Lib.hid (by omega)
  clear c40
  go_wp2_with fail
  go_loopg [10, 11] c (fun g v r wr => ∃ n : Nat, r = .int .i64 n ∧ n + g = c ∧ v = .int .i64 (manyN (par l s) x y n : Nat) ∧ Below wv4.heap.size wv4 wr)
  case atStart => exact ⟨0, rfl, by omega, rfl, Below.refl _ _⟩
  case round =>
    obtain ⟨wv5, rfl⟩ : ∃ x, x = wr := ⟨wr, rfl⟩
    obtain ⟨n, rfl, hk, rfl, hb⟩ := hrel
    obtain ⟨gj, rfl⟩ : ∃ g, g = gk := ⟨_, rfl⟩
    have K := Lib.hid hk; have B := Lib.hid hb
    have hnc : n ≤ c := by omega
    have ml := manyN_le (par l s) x y n
    clear hk hb
    replace R := Lib.hid (R.out.grow B.out)
    replace U := Lib.hid (U.out.grow B.out)
    replace BB := Lib.hid (BB.out.trans (B.out.mono BB.out.size))
    have c40' := C4.out
    by_cases hlt : n < c
    · have n1 : (n : Int) < (c : Int) := by omega
      have n9 : IntKind.i64.wrap ((n : Int) + 1) = (n : Int) + 1 := IntWalk.i64_in _ (by omega)
      obtain ⟨T, hT⟩ : ∃ T, jn (txs (par l s) n) = T := ⟨_, rfl⟩
      have TT : Hid (nthOf l s (n : Int) = some T) := Lib.hid (by rw [nth_of W.out (by rw [CN.out]; exact hlt), hT])
      have tl : T.length ≤ 52 := by rw [← hT]; exact nth_len W.out n
      have so : (str T).size = T.length := str_size T
      have MN := Lib.hid (manyN_next (par l s) x y n)
      rw [hT] at MN
      obtain ⟨m, hm⟩ : ∃ m, manyN (par l s) x y n = m := ⟨_, rfl⟩
      rw [hm] at ml MN ⊢
      clear hm hT
      go_wp2_with fail
      refine (nI_yes R.out U.out TT.out).mono ?_
      rintro e wv6 ⟨rfl, b9⟩
      replace B := Lib.hid (B.out.trans (b9.mono B.out.size))
      replace R := Lib.hid (R.out.grow b9)
      replace U := Lib.hid (U.out.grow b9)
      replace BB := Lib.hid (BB.out.trans (b9.mono BB.out.size))
      clear b9
      go_wp2_with fail
      go_loopg [14, 15, 16] T.length (fun g a b p wr => ∃ p9 x9 y9 : Nat, p = .int .i64 p9 ∧ a = .int .i64 x9 ∧ b = .int .i64 y9 ∧ p9 + g = T.length ∧ Scan x y T p9 x9 y9 ∧ wv6 = wr)
      case atStart => exact ⟨0, 0, 0, rfl, rfl, rfl, by omega, .inl ⟨Nat.zero_le _, Nat.zero_le _, rfl⟩, rfl⟩
      case round =>
        obtain ⟨p, a, b, rfl, rfl, rfl, hk, hsc, rfl⟩ := hrel
        obtain ⟨gi, rfl⟩ : ∃ g, g = gk := ⟨_, rfl⟩
        have K2 := Lib.hid hk; have SC := Lib.hid hsc
        have hpl : p ≤ T.length := by omega
        have abd : a ≤ x + 1 ∧ b ≤ y + 1 := by rcases hsc with h | h | h <;> omega
        clear hk
        by_cases hgo : p < T.length ∧ a ≤ x ∧ b ≤ y
        · obtain ⟨g1, g2, g3⟩ := hgo
          have hs : aheadB x y T = aheadB (x - a) (y - b) (T.drop p) := by
            rcases hsc with h | h | h
            · exact h.2.2
            · omega
            · omega
          have nx := scan_next hs g2 g3 g1
          have at9 := g1
          have a9 : IntKind.i64.wrap ((a : Int) + 1) = (a : Int) + 1 := IntWalk.i64_in _ (by omega)
          have b9 : IntKind.i64.wrap ((b : Int) + 1) = (b : Int) + 1 := IntWalk.i64_in _ (by omega)
          have p9 : IntKind.i64.wrap ((p : Int) + 1) = (p : Int) + 1 := IntWalk.i64_in _ (by omega)
          have g1' : (p : Int) < (T.length : Int) := by omega
          have g0 : (0 : Int) ≤ (p : Int) := by omega
          clear hs hsc
          obtain ⟨c', hc'⟩ : ∃ c', T[p] = c' := ⟨_, rfl⟩
          have i97 : ((((str T)[p]'(by rw [str_size]; exact g1)).toNat : Int) == 97) = decide (c' = 97) := str_is T p g1 hc' 97
          have i98 : ((((str T)[p]'(by rw [str_size]; exact g1)).toNat : Int) == 98) = decide (c' = 98) := str_is T p g1 hc' 98
          rw [hc'] at nx
          clear hc' at9
          by_cases ca : c' = 97
          · have nb : ¬ c' = 98 := by rw [ca]; decide
            rw [if_pos ca, if_neg nb] at nx
            rw [decide_eq_true ca] at i97
            rw [decide_eq_false nb] at i98
            have NX := Lib.hid nx
            clear nx
            go_wp2_with fail
            go_roundg (gi - 1)
            case measure => have := K2.out; omega
            case rel => exact ⟨p + 1, a + 1, b, by go_num, by first | rfl | go_num, by first | rfl | go_num, by have := K2.out; omega, NX.out, rfl⟩
          rw [if_neg ca] at nx
          rw [decide_eq_false ca] at i97
          by_cases cb : c' = 98
          · rw [if_pos cb] at nx
            rw [decide_eq_true cb] at i98
            have NX := Lib.hid nx
            clear nx
            go_wp2_with fail
            go_roundg (gi - 1)
            case measure => have := K2.out; omega
            case rel => exact ⟨p + 1, a, b + 1, by go_num, by first | rfl | go_num, by first | rfl | go_num, by have := K2.out; omega, NX.out, rfl⟩
          rw [if_neg cb] at nx
          rw [decide_eq_false cb] at i98
          have NX := Lib.hid nx
          clear nx
          go_wp2_with fail
          go_roundg (gi - 1)
          case measure => have := K2.out; omega
          case rel => exact ⟨p + 1, a, b, by go_num, by first | rfl | go_num, by first | rfl | go_num, by have := K2.out; omega, NX.out, rfl⟩
        have se := scan_end hsc (by omega)
        rw [se] at MN
        clear se hsc
        by_cases h1 : p < T.length
        · have h1' : (p : Int) < (T.length : Int) := by omega
          by_cases h2 : a ≤ x
          · have h3 : decide (b ≤ y) = false := decide_eq_false (by omega)
            have h4 : ¬ x < a := by omega
            have h5 : ¬ b ≤ y := by omega
            clear hgo h1
            by_cases xa : x < a
            · have x1 : (x : Int) < (a : Int) := by omega
              have m9 : IntKind.i64.wrap ((m : Int) + 1) = ((m + 1 : Nat) : Int) := by rw [show (m : Int) + 1 = ((m + 1 : Nat) : Int) by omega]; exact IntWalk.i64_in _ (by omega)
              rw [decide_eq_true xa] at MN
              have ND := Lib.hid MN.out
              go_wp2_with fail
              go_roundg (gj - 1)
              case measure => have := K.out; omega
              case rel => exact ⟨n + 1, by go_num, by have := K.out; omega, by rw [ND.out]; first | rfl | (simp [one]; done), B.out⟩
            have x2 : decide (x < a) = false := decide_eq_false xa
            rw [x2] at MN
            have ND := Lib.hid MN.out
            go_wp2_with fail
            go_roundg (gj - 1)
            case measure => have := K.out; omega
            case rel => exact ⟨n + 1, by go_num, by have := K.out; omega, by rw [ND.out]; first | rfl | (simp [one]; done), B.out⟩
          have h3 : decide (a ≤ x) = false := decide_eq_false h2
          clear hgo h1
          by_cases xa : x < a
          · have x1 : (x : Int) < (a : Int) := by omega
            have m9 : IntKind.i64.wrap ((m : Int) + 1) = ((m + 1 : Nat) : Int) := by rw [show (m : Int) + 1 = ((m + 1 : Nat) : Int) by omega]; exact IntWalk.i64_in _ (by omega)
            rw [decide_eq_true xa] at MN
            have ND := Lib.hid MN.out
            go_wp2_with fail
            go_roundg (gj - 1)
            case measure => have := K.out; omega
            case rel => exact ⟨n + 1, by go_num, by have := K.out; omega, by rw [ND.out]; first | rfl | (simp [one]; done), B.out⟩
          have x2 : decide (x < a) = false := decide_eq_false xa
          rw [x2] at MN
          have ND := Lib.hid MN.out
          go_wp2_with fail
          go_roundg (gj - 1)
          case measure => have := K.out; omega
          case rel => exact ⟨n + 1, by go_num, by have := K.out; omega, by rw [ND.out]; first | rfl | (simp [one]; done), B.out⟩
        have h3 : decide (p < T.length) = false := decide_eq_false h1
        clear hgo
        by_cases xa : x < a
        · have x1 : (x : Int) < (a : Int) := by omega
          have m9 : IntKind.i64.wrap ((m : Int) + 1) = ((m + 1 : Nat) : Int) := by rw [show (m : Int) + 1 = ((m + 1 : Nat) : Int) by omega]; exact IntWalk.i64_in _ (by omega)
          rw [decide_eq_true xa] at MN
          have ND := Lib.hid MN.out
          go_wp2_with fail
          go_roundg (gj - 1)
          case measure => have := K.out; omega
          case rel => exact ⟨n + 1, by go_num, by have := K.out; omega, by rw [ND.out]; first | rfl | (simp [one]; done), B.out⟩
        have x2 : decide (x < a) = false := decide_eq_false xa
        rw [x2] at MN
        have ND := Lib.hid MN.out
        go_wp2_with fail
        go_roundg (gj - 1)
        case measure => have := K.out; omega
        case rel => exact ⟨n + 1, by go_num, by have := K.out; omega, by rw [ND.out]; first | rfl | (simp [one]; done), B.out⟩
    obtain rfl : n = c := by omega
    have MA : Hid (manyN (par l s) x y n = z) := Lib.hid (by have := manyN_all W.out.small XI.out YK.out; rw [CN.out, HZ.out] at this; exact this)
    rw [MA.out]
    clear hlt K ml
    go_wp2_with fail
    go_ret
    exact ⟨by first | rfl | (simp; done) | (simp; omega), BB.out⟩

set_option maxRecDepth 100000 in
theorem lifted (os : Os) (started : os.Started) (H : Type) (enc : TypeId × Value → H) :
    ReturnsInHanded {} Try.checked os 4 .any (Rows.fnBetweenAllSpec.pre6 enc Try.prog Try.f4 Rows.fnBetweenAllRow.domain false) (Rows.fnBetweenAllSpec.post enc Try.prog Try.f4 false true false false) := by
  refine returnsInHanded_of_change (C := Try.checked) own started (by kernel_rfl) Try.func4
    (ChangeSpec.witness6 (enc := enc) (C := Try.checked) false ⟨#[], #[.slice none 0 0], []⟩ 8 (by kernel_rfl) (by kernel_rfl) (by kernel_rfl) (by kernel_rfl)) ?_
  intro W base args ds gs before hval0 hW hcnd _
  have hval : ∀ (j : Nat) t v, Try.f4.params[j]? = some t → args[j]? = some v → Value.okWide Try.prog W .any base t v := hval0
  have hW' := hW
  obtain ⟨p, q, hA0, hV, rfl, hfz, hnd⟩ := hW
  have hA : DataW.TrodAll enc Try.prog W 0 (fun _ => true) true Try.f4.params.toList args.toList ds p := hA0
  rw [Try.params4] at hA hval
  obtain ⟨v0, vs0, d0, ds0, p0, q0, hargs, rfl, rfl, h0, r0⟩ := trodAll_cons hA
  obtain ⟨rfl, rfl, rfl⟩ := trodAll_nil r0
  obtain rfl : args = #[v0] := by cases args; simp_all
  obtain ⟨rfl, rfl⟩ := trodVars_none hV
  obtain ⟨a0, len0, cap0, rfl⟩ := okWide_slice Try.underlying22 (hval 0 22 v0 rfl rfl)
  have k0 := h0
  have lt0 : ∀ x ∈ p0, x.block < W.heap.size := by obtain ⟨m, hm⟩ := k0; exact DataW.trod_lt m _ _ _ hm
  obtain ⟨z0, w0⟩ : ∃ zs, IsRow .u8 W a0 len0 cap0 zs := by
    obtain ⟨fuel, hf⟩ := h0
    rcases open_ints Try.underlying22 Try.underlying5 (by kernel_rfl) hf with ⟨hcs, _⟩ | ⟨x, l, c, zs, hcs, _, hl, hm, hz, _, hcell, hwz⟩
    · simp [Value.cells] at hcs
      obtain ⟨rfl, rfl, rfl⟩ := hcs
      exact ⟨[], .inl ⟨rfl, rfl, rfl, rfl⟩⟩
    · simp [Value.cells] at hcs
      obtain ⟨rfl, rfl, rfl⟩ := hcs
      exact ⟨zs, .inr ⟨_, rfl, hl, hm, by simpa using hz, hcell, hwz⟩⟩
  clear hA0 hval0
  refine (walk a0 len0 cap0 z0 W w0).mono fun e W' ⟨he, bel⟩ => ?_
  subst he
  exact ⟨_, rfl, _, _, _, [], _, [], hW', trodAll_mk1 (shut_bool Try.underlying4 _), (trodAll_cons_mk (Below.trod laidOut (by kernel_rfl) (of_decide_eq_true (by kernel_rfl)) k0 bel lt0) trodAll_mk0), rfl, bel.frame _, fun h => by cases h⟩

theorem over : Rows.fnBetweenAllRow.holds Try.pinned (OpenSpec.ofChange Rows.fnBetweenAllSpec) :=
  OpenClaim.holds_of_wide 4 Try.f4 rfl rfl rfl rfl rfl rfl rfl ⟨rfl, rfl, rfl, rfl, rfl⟩ rfl rfl rfl rfl rfl (by kernel_rfl) Try.func4 (by kernel_rfl)
    (of_decide_eq_true (by kernel_rfl)) (by unfold Func.isWrapper; first | (rw [if_pos (by decide +kernel)]; kernel_rfl) | (rw [if_neg (by decide +kernel)]; exact ⟨rfl, rfl⟩))
    (fun os started H enc _ => lifted os started H enc)

/-- ████ THE STATEMENT ████ -/
theorem proved : Rows.FnBetweenAllSaid := over
#print axioms proved
end Go.Proofs.Ytcemgdekcfdfhab.fnBetweenAll
