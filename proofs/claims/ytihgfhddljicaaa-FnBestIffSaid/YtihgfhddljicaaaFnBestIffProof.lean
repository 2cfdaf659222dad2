/- For every input, the law FnBestIff of the given statements returns true over the program at this commit, and its arguments read afterwards as before: no condition. -/
import Derived.Test.YtihgfhddljicaaaRows
import Derived.Test.YtihgfhddljicaaaLawC
import Derived.WalkKit
import Derived.ProofKit
import Derived.OpenShut
import Derived.ShutString
import Derived.ChangeOld
import Derived.Below
namespace Go.Proofs.Ytihgfhddljicaaa.fnBestIff
open Go.ChangeShapes Go.WideShapes Go.ChangeAt Go.RowKit
open Go.ChangeMaps (open_string shut_string)
set_option linter.unusedVariables false

theorem own : ownKnob Try.prog.godebug = none := by kernel_rfl
theorem laidOut : laidOutB Try.prog = true := by kernel_rfl

/-- WHAT THE WALK IS TOLD OF A SLICE OF INTEGERS THAT CAME IN: it is nil; or it leads to a row of 'cap' cells, the numbers 'zs' (the first 'len' are its elements, the rest its spare room), each fitting its kind. -/
def IsRow (k : IntKind) (w : World) (a : Option Addr) (len cap : Nat) (zs : List Int) : Prop :=
  (a = none ∧ len = 0 ∧ cap = 0 ∧ zs = []) ∨
  ∃ x, a = some x ∧ len ≤ cap ∧ cap ≤ maxLen ∧ zs.length = cap ∧ (∀ i, i < zs.length → w.cell? (x.add i) = some (.int k (zs.getD i 0))) ∧ ∀ n ∈ zs, (Lit.int k n).wf = true

set_option maxRecDepth 100000 in
set_option maxHeartbeats 3200000 in
theorem walk (a0 : Option Addr) (len0 cap0 : Nat) (z0 : List Int) (w : World) (w0 : IsRow .u8 w a0 len0 cap0 z0) :
    Calls Try.prog 10 #[.slice a0 len0 cap0] w fun e w' => e = .returned (.bool true) ∧ Below w.heap.size w w' := by
  have hB := bytes_of w0
  by_cases hl : 1048576 < len0
  · have hdec : decide (1048576 < len0) = true := by simpa using hl
    go_enter Try.func10, Try.ntmps10
    go_wp2_with fail
    go_ret
    exact ⟨rfl, Below.refl _ _⟩
  have hdec : decide (1048576 < len0) = false := by simpa using hl
  have hm : len0 ≤ 1048576 := by omega
  go_enter Try.func10, Try.ntmps10
  go_wp2_with fail
  refine (DrawCutsBest_any hB).mono ?_
  rintro e wv1 ⟨v, c, lo, mo, rfl, r0, hc20, b1⟩
  clear w0 hB
  have BB := Lib.hid b1
  clear b1
  have R := Lib.hid r0
  clear r0
  obtain ⟨aR, cR, rfl, kR, mR⟩ := len_n R.out
  obtain ⟨z, hz⟩ : ∃ x : Int, manyB c.length lo mo = x := ⟨_, rfl⟩
  have HZ := Lib.hid hz
  have ZB := manyB_bound c.length lo mo
  rw [hz] at ZB
  have SM := bestB_isSome (c := c) (lo := lo) (mo := mo)
  rw [hz] at SM
  have HS : Hid ((bestB c lo mo).isSome = (c.all costOk && decide (0 < z))) := Lib.hid (by
    rw [SM]
    unfold isSig
    cases hp : isPlace c.length
    · have : z = -1 := by rw [← hz]; exact manyB_no (.inl hp)
      subst this; simp
    · have e : decide (1 ≤ z) = decide (0 < z) := decide_eq_decide.2 (by omega)
      rw [e]; rfl)
  clear hz SM
  cases hb : bestB c lo mo with
  | none =>
    have HB := Lib.hid hb
    rw [hb] at HS
    clear hb
    go_wp2_with fail
    refine (bestI_no R.out HB.out).mono ?_
    rintro e wv2 ⟨vP, rfl, o9, b9⟩
    replace R := Lib.hid (R.out.grow b9)
    replace BB := Lib.hid (BB.out.trans (b9.mono BB.out.size))
    clear b9
    have P := Lib.hid o9
    clear o9
    go_wp2_with fail
    refine (bestS_no R.out HB.out).mono ?_
    rintro e wv3 ⟨vY, rfl, o9, b9⟩
    replace R := Lib.hid (R.out.grow b9)
    replace P := Lib.hid (P.out.grow b9)
    replace BB := Lib.hid (BB.out.trans (b9.mono BB.out.size))
    clear b9
    have Y := Lib.hid o9
    clear o9
    go_wp2_with fail
    refine (isame_yes P.out.row Y.out.row rfl).mono ?_
    rintro e wv4 ⟨rfl, b9⟩
    replace R := Lib.hid (R.out.grow b9)
    replace P := Lib.hid (P.out.grow b9)
    replace Y := Lib.hid (Y.out.grow b9)
    replace BB := Lib.hid (BB.out.trans (b9.mono BB.out.size))
    clear b9
    clear Y
    clear P
    go_wp2_with fail
    go_loopg [10, 11] c.length (fun k x y wr => ∃ j : Nat, x = .bool ((c.take j).all costOk) ∧ y = .int .i64 j ∧ j + k = c.length ∧ wv4 = wr)
    case atStart => exact ⟨0, by simp, rfl, by omega, rfl⟩
    case round =>
      obtain ⟨j, rfl, rfl, hk, rfl⟩ := hrel
      have K := Lib.hid hk
      have hjn : j ≤ c.length := by omega
      clear hk
      by_cases hlt : j < c.length
      · obtain ⟨gx, px, qx, ex, k1x, k2x⟩ := known_n R.out rfl (by omega)
        simp only [Value.slice.injEq, true_and] at ex
        obtain ⟨rfl, rfl⟩ := ex
        have d1 := R.out.cells j hlt
        have i1 : (j : Int) < (c.length : Int) := by omega
        have i2 : (0 : Int) ≤ (j : Int) := by omega
        have st : (c.take (j + 1)).all costOk = ((c.take j).all costOk && costOk c[j]) := by rw [List.take_succ_eq_append_getElem hlt, List.all_append]; simp
        obtain ⟨x, hx⟩ : ∃ x : Int, c[j] = x := ⟨_, rfl⟩
        rw [hx] at d1 st
        have ST := Lib.hid st
        clear st hx
        cases ha : (c.take j).all costOk
        · have HA := Lib.hid ha
          clear ha
          go_wp2_with fail
          go_roundg (gk - 1)
          case measure => have := K.out; omega
          case rel => exact ⟨j + 1, by rw [ST.out, HA.out]; rfl, by go_num, by have := K.out; omega, rfl⟩
        · have HA := Lib.hid ha
          clear ha
          by_cases x0 : 0 ≤ x
          · by_cases x1 : x ≤ 1000
            · have CO : Hid (costOk x = true) := Lib.hid (by simp [costOk, x0, x1])
              go_wp2_with fail
              go_roundg (gk - 1)
              case measure => have := K.out; omega
              case rel => exact ⟨j + 1, by rw [ST.out, HA.out]; rw [CO.out]; rfl, by go_num, by have := K.out; omega, rfl⟩
            · have CO : Hid (costOk x = false) := Lib.hid (by simp [costOk]; omega)
              go_wp2_with fail
              go_roundg (gk - 1)
              case measure => have := K.out; omega
              case rel => exact ⟨j + 1, by rw [ST.out, HA.out]; rw [CO.out]; rfl, by go_num, by have := K.out; omega, rfl⟩
          · have CO : Hid (costOk x = false) := Lib.hid (by simp [costOk]; omega)
            go_wp2_with fail
            go_roundg (gk - 1)
            case measure => have := K.out; omega
            case rel => exact ⟨j + 1, by rw [ST.out, HA.out]; rw [CO.out]; rfl, by go_num, by have := K.out; omega, rfl⟩
      · have hj : j = c.length := by omega
        have tl' : (c.take j).all costOk = c.all costOk := by rw [hj, List.take_length]
        rw [tl']
        obtain ⟨ok, hok⟩ : ∃ b, c.all costOk = b := ⟨_, rfl⟩
        rw [hok]
        rw [hok] at HS
        have i1 : ¬ (j : Int) < (c.length : Int) := by omega
        clear tl' hok hj hlt
        go_wp2_with fail
        refine (manyI_is HZ.out _).mono ?_
        rintro e wv5 ⟨rfl, b9⟩
        replace R := Lib.hid (R.out.grow b9)
        replace BB := Lib.hid (BB.out.trans (b9.mono BB.out.size))
        clear b9
        have hs := HS.out
        by_cases z0 : 0 < z
        · rw [decide_eq_true z0, Bool.and_true] at hs
          cases ok
          · skip
            first
              | (exfalso; simp at hs; done)
              | (clear hs
                 go_wp2_with fail
                 go_ret
                 exact ⟨by first | rfl | (simp; done) | (simp; omega), BB.out⟩)
          · skip
            first
              | (exfalso; simp at hs; done)
              | (clear hs
                 go_wp2_with fail
                 go_ret
                 exact ⟨by first | rfl | (simp; done) | (simp; omega), BB.out⟩)
        · rw [decide_eq_false z0, Bool.and_false] at hs
          cases ok
          · skip
            first
              | (exfalso; simp at hs; done)
              | (clear hs
                 go_wp2_with fail
                 go_ret
                 exact ⟨by first | rfl | (simp; done) | (simp; omega), BB.out⟩)
          · skip
            first
              | (exfalso; simp at hs; done)
              | (clear hs
                 go_wp2_with fail
                 go_ret
                 exact ⟨by first | rfl | (simp; done) | (simp; omega), BB.out⟩)
  | some m =>
    have HB := Lib.hid hb
    rw [hb] at HS
    clear hb
    go_wp2_with fail
    refine (bestI_yes R.out HB.out).mono ?_
    rintro e wv2 ⟨vP, rfl, o9, b9⟩
    replace R := Lib.hid (R.out.grow b9)
    replace BB := Lib.hid (BB.out.trans (b9.mono BB.out.size))
    clear b9
    have P := Lib.hid o9
    clear o9
    go_wp2_with fail
    refine (bestS_yes R.out HB.out).mono ?_
    rintro e wv3 ⟨vY, rfl, o9, b9⟩
    replace R := Lib.hid (R.out.grow b9)
    replace P := Lib.hid (P.out.grow b9)
    replace BB := Lib.hid (BB.out.trans (b9.mono BB.out.size))
    clear b9
    have Y := Lib.hid o9
    clear o9
    go_wp2_with fail
    refine (isame_yes P.out.row Y.out.row rfl).mono ?_
    rintro e wv4 ⟨rfl, b9⟩
    replace R := Lib.hid (R.out.grow b9)
    replace P := Lib.hid (P.out.grow b9)
    replace Y := Lib.hid (Y.out.grow b9)
    replace BB := Lib.hid (BB.out.trans (b9.mono BB.out.size))
    clear b9
    clear Y
    clear P
    go_wp2_with fail
    go_loopg [10, 11] c.length (fun k x y wr => ∃ j : Nat, x = .bool ((c.take j).all costOk) ∧ y = .int .i64 j ∧ j + k = c.length ∧ wv4 = wr)
    case atStart => exact ⟨0, by simp, rfl, by omega, rfl⟩
    case round =>
      obtain ⟨j, rfl, rfl, hk, rfl⟩ := hrel
      have K := Lib.hid hk
      have hjn : j ≤ c.length := by omega
      clear hk
      by_cases hlt : j < c.length
      · obtain ⟨gx, px, qx, ex, k1x, k2x⟩ := known_n R.out rfl (by omega)
        simp only [Value.slice.injEq, true_and] at ex
        obtain ⟨rfl, rfl⟩ := ex
        have d1 := R.out.cells j hlt
        have i1 : (j : Int) < (c.length : Int) := by omega
        have i2 : (0 : Int) ≤ (j : Int) := by omega
        have st : (c.take (j + 1)).all costOk = ((c.take j).all costOk && costOk c[j]) := by rw [List.take_succ_eq_append_getElem hlt, List.all_append]; simp
        obtain ⟨x, hx⟩ : ∃ x : Int, c[j] = x := ⟨_, rfl⟩
        rw [hx] at d1 st
        have ST := Lib.hid st
        clear st hx
        cases ha : (c.take j).all costOk
        · have HA := Lib.hid ha
          clear ha
          go_wp2_with fail
          go_roundg (gk - 1)
          case measure => have := K.out; omega
          case rel => exact ⟨j + 1, by rw [ST.out, HA.out]; rfl, by go_num, by have := K.out; omega, rfl⟩
        · have HA := Lib.hid ha
          clear ha
          by_cases x0 : 0 ≤ x
          · by_cases x1 : x ≤ 1000
            · have CO : Hid (costOk x = true) := Lib.hid (by simp [costOk, x0, x1])
              go_wp2_with fail
              go_roundg (gk - 1)
              case measure => have := K.out; omega
              case rel => exact ⟨j + 1, by rw [ST.out, HA.out]; rw [CO.out]; rfl, by go_num, by have := K.out; omega, rfl⟩
            · have CO : Hid (costOk x = false) := Lib.hid (by simp [costOk]; omega)
              go_wp2_with fail
              go_roundg (gk - 1)
              case measure => have := K.out; omega
              case rel => exact ⟨j + 1, by rw [ST.out, HA.out]; rw [CO.out]; rfl, by go_num, by have := K.out; omega, rfl⟩
          · have CO : Hid (costOk x = false) := Lib.hid (by simp [costOk]; omega)
            go_wp2_with fail
            go_roundg (gk - 1)
            case measure => have := K.out; omega
            case rel => exact ⟨j + 1, by rw [ST.out, HA.out]; rw [CO.out]; rfl, by go_num, by have := K.out; omega, rfl⟩
      · have hj : j = c.length := by omega
        have tl' : (c.take j).all costOk = c.all costOk := by rw [hj, List.take_length]
        rw [tl']
        obtain ⟨ok, hok⟩ : ∃ b, c.all costOk = b := ⟨_, rfl⟩
        rw [hok]
        rw [hok] at HS
        have i1 : ¬ (j : Int) < (c.length : Int) := by omega
        clear tl' hok hj hlt
        go_wp2_with fail
        refine (manyI_is HZ.out _).mono ?_
        rintro e wv5 ⟨rfl, b9⟩
        replace R := Lib.hid (R.out.grow b9)
        replace BB := Lib.hid (BB.out.trans (b9.mono BB.out.size))
        clear b9
        have hs := HS.out
        by_cases z0 : 0 < z
        · rw [decide_eq_true z0, Bool.and_true] at hs
          cases ok
          · skip
            first
              | (exfalso; simp at hs; done)
              | (clear hs
                 go_wp2_with fail
                 go_ret
                 exact ⟨by first | rfl | (simp; done) | (simp; omega), BB.out⟩)
          · skip
            first
              | (exfalso; simp at hs; done)
              | (clear hs
                 go_wp2_with fail
                 go_ret
                 exact ⟨by first | rfl | (simp; done) | (simp; omega), BB.out⟩)
        · rw [decide_eq_false z0, Bool.and_false] at hs
          cases ok
          · skip
            first
              | (exfalso; simp at hs; done)
              | (clear hs
                 go_wp2_with fail
                 go_ret
                 exact ⟨by first | rfl | (simp; done) | (simp; omega), BB.out⟩)
          · skip
            first
              | (exfalso; simp at hs; done)
              | (clear hs
                 go_wp2_with fail
                 go_ret
                 exact ⟨by first | rfl | (simp; done) | (simp; omega), BB.out⟩)

set_option maxRecDepth 100000 in
theorem lifted (os : Os) (started : os.Started) (H : Type) (enc : TypeId × Value → H) :
    ReturnsInHanded {} Try.checked os 10 .any (Rows.fnBestIffSpec.pre6 enc Try.prog Try.f10 Rows.fnBestIffRow.domain false) (Rows.fnBestIffSpec.post enc Try.prog Try.f10 false true false false) := by
  refine returnsInHanded_of_change (C := Try.checked) own started (by kernel_rfl) Try.func10
    (ChangeSpec.witness6 (enc := enc) (C := Try.checked) false ⟨#[], #[.slice none 0 0], []⟩ 8 (by kernel_rfl) (by kernel_rfl) (by kernel_rfl) (by kernel_rfl)) ?_
  intro W base args ds gs before hval0 hW hcnd _
  have hval : ∀ (j : Nat) t v, Try.f10.params[j]? = some t → args[j]? = some v → Value.okWide Try.prog W .any base t v := hval0
  have hW' := hW
  obtain ⟨p, q, hA0, hV, rfl, hfz, hnd⟩ := hW
  have hA : DataW.TrodAll enc Try.prog W 0 (fun _ => true) true Try.f10.params.toList args.toList ds p := hA0
  rw [Try.params10] at hA hval
  obtain ⟨v0, vs0, d0, ds0, p0, q0, hargs, rfl, rfl, h0, r0⟩ := trodAll_cons hA
  obtain ⟨rfl, rfl, rfl⟩ := trodAll_nil r0
  obtain rfl : args = #[v0] := by cases args; simp_all
  obtain ⟨rfl, rfl⟩ := trodVars_none hV
  obtain ⟨a0, len0, cap0, rfl⟩ := okWide_slice Try.underlying22 (hval 0 22 v0 rfl rfl)
  have k0 := h0
  have lt0 : ∀ x ∈ p0, x.block < W.heap.size := by obtain ⟨m, hm⟩ := k0; exact DataW.trod_lt m _ _ _ hm
  obtain ⟨z0, w0⟩ : ∃ zs, IsRow .u8 W a0 len0 cap0 zs := by
    obtain ⟨fuel, hf⟩ := h0
    rcases open_ints Try.underlying22 Try.underlying5 (by kernel_rfl) hf with ⟨hcs, _⟩ | ⟨x, l, c, zs, hcs, _, hl, hm, hz, _, hcell, hwz⟩
    · simp [Value.cells] at hcs
      obtain ⟨rfl, rfl, rfl⟩ := hcs
      exact ⟨[], .inl ⟨rfl, rfl, rfl, rfl⟩⟩
    · simp [Value.cells] at hcs
      obtain ⟨rfl, rfl, rfl⟩ := hcs
      exact ⟨zs, .inr ⟨_, rfl, hl, hm, by simpa using hz, hcell, hwz⟩⟩
  clear hA0 hval0
  refine (walk a0 len0 cap0 z0 W w0).mono fun e W' ⟨he, bel⟩ => ?_
  subst he
  exact ⟨_, rfl, _, _, _, [], _, [], hW', trodAll_mk1 (shut_bool Try.underlying4 _), (trodAll_cons_mk (Below.trod laidOut (by kernel_rfl) (of_decide_eq_true (by kernel_rfl)) k0 bel lt0) trodAll_mk0), rfl, bel.frame _, fun h => by cases h⟩

theorem over : Rows.fnBestIffRow.holds Try.pinned (OpenSpec.ofChange Rows.fnBestIffSpec) :=
  OpenClaim.holds_of_wide 10 Try.f10 rfl rfl rfl rfl rfl rfl rfl ⟨rfl, rfl, rfl, rfl, rfl⟩ rfl rfl rfl rfl rfl (by kernel_rfl) Try.func10 (by kernel_rfl)
    (of_decide_eq_true (by kernel_rfl)) (by unfold Func.isWrapper; first | (rw [if_pos (by decide +kernel)]; kernel_rfl) | (rw [if_neg (by decide +kernel)]; exact ⟨rfl, rfl⟩))
    (fun os started H enc _ => lifted os started H enc)

/-- ████ THE STATEMENT ████ -/
theorem proved : Rows.FnBestIffSaid := over
#print axioms proved
end Go.Proofs.Ytihgfhddljicaaa.fnBestIff
