/- For every input, the law FnBestSuffix of the given statements returns true over the program at this commit, and its arguments read afterwards as before: no condition. -/
import Derived.Test.YtihgfhddljicaaaRows
import Derived.Test.YtihgfhddljicaaaLawC
import Derived.WalkKit
import Derived.ProofKit
import Derived.OpenShut
import Derived.ShutString
import Derived.ChangeOld
import Derived.Below
namespace Go.Proofs.Ytihgfhddljicaaa.fnBestSuffix
open Go.ChangeShapes Go.WideShapes Go.ChangeAt Go.RowKit
open Go.ChangeMaps (open_string shut_string)
set_option linter.unusedVariables false

theorem own : ownKnob Try.prog.godebug = none := by kernel_rfl
theorem laidOut : laidOutB Try.prog = true := by kernel_rfl

/-- WHAT THE WALK IS TOLD OF A SLICE OF INTEGERS THAT CAME IN: it is nil; or it leads to a row of 'cap' cells, the numbers 'zs' (the first 'len' are its elements, the rest its spare room), each fitting its kind. -/
def IsRow (k : IntKind) (w : World) (a : Option Addr) (len cap : Nat) (zs : List Int) : Prop :=
  (a = none ∧ len = 0 ∧ cap = 0 ∧ zs = []) ∨
  ∃ x, a = some x ∧ len ≤ cap ∧ cap ≤ maxLen ∧ zs.length = cap ∧ (∀ i, i < zs.length → w.cell? (x.add i) = some (.int k (zs.getD i 0))) ∧ ∀ n ∈ zs, (Lit.int k n).wf = true

set_option maxRecDepth 100000 in
set_option maxHeartbeats 3200000 in
theorem walk (a0 : Option Addr) (len0 cap0 : Nat) (z0 : List Int) (w : World) (w0 : IsRow .u8 w a0 len0 cap0 z0) :
    Calls Try.prog 11 #[.slice a0 len0 cap0] w fun e w' => e = .returned (.bool true) ∧ Below w.heap.size w w' := by
  have hB := bytes_of w0
  by_cases hl : 1048576 < len0
  · have hdec : decide (1048576 < len0) = true := by simpa using hl
    go_enter Try.func11, Try.ntmps11
    go_wp2_with fail
    go_ret
    exact ⟨rfl, Below.refl _ _⟩
  have hdec : decide (1048576 < len0) = false := by simpa using hl
  have hm : len0 ≤ 1048576 := by omega
  go_enter Try.func11, Try.ntmps11
  go_wp2_with fail
  refine (DrawCutsBest_any hB).mono ?_
  rintro e wv1 ⟨v, c, lo, mo, rfl, r0, hc20, b1⟩
  clear w0 hB
  have BB := Lib.hid b1
  clear b1
  have R := Lib.hid r0
  clear r0
  obtain ⟨aR, cR, rfl, kR, mR⟩ := len_n R.out
  cases hb : bestB c lo mo with
  | none =>
    have HB := Lib.hid hb
    clear hb
    go_wp2_with fail
    refine (bestI_no R.out HB.out).mono ?_
    rintro e wv2 ⟨vX, rfl, o9, b9⟩
    replace R := Lib.hid (R.out.grow b9)
    replace BB := Lib.hid (BB.out.trans (b9.mono BB.out.size))
    clear b9
    have X := Lib.hid o9
    clear o9
    go_wp2_with fail
    refine (bestS_no R.out HB.out).mono ?_
    rintro e wv3 ⟨vY, rfl, o9, b9⟩
    replace R := Lib.hid (R.out.grow b9)
    replace X := Lib.hid (X.out.grow b9)
    replace BB := Lib.hid (BB.out.trans (b9.mono BB.out.size))
    clear b9
    have Y := Lib.hid o9
    clear o9
    go_wp2_with fail
    refine (isame_yes X.out.row Y.out.row rfl).mono ?_
    rintro e wv4 ⟨rfl, b9⟩
    replace R := Lib.hid (R.out.grow b9)
    replace X := Lib.hid (X.out.grow b9)
    replace Y := Lib.hid (Y.out.grow b9)
    replace BB := Lib.hid (BB.out.trans (b9.mono BB.out.size))
    clear b9
    go_wp2_with fail
    refine (isame_yes X.out.row Y.out.row rfl).mono ?_
    rintro e wv5 ⟨rfl, b9⟩
    replace R := Lib.hid (R.out.grow b9)
    replace X := Lib.hid (X.out.grow b9)
    replace Y := Lib.hid (Y.out.grow b9)
    replace BB := Lib.hid (BB.out.trans (b9.mono BB.out.size))
    clear b9
    go_wp2_with fail
    go_ret
    exact ⟨by first | rfl | (simp; done) | (simp; omega), BB.out⟩
  | some m =>
    have HB := Lib.hid hb
    obtain ⟨a, b, rfl, rfl, hib⟩ := bestB_some hb
    have IB' := Lib.hid hib
    obtain ⟨l1, ln⟩ := hib.toAllowed.size
    obtain ⟨n1, n16⟩ := hib.toAllowed.len
    clear hb hib
    go_wp2_with fail
    refine (bestI_yes R.out HB.out).mono ?_
    rintro e wv2 ⟨vP, rfl, o9, b9⟩
    replace R := Lib.hid (R.out.grow b9)
    replace BB := Lib.hid (BB.out.trans (b9.mono BB.out.size))
    clear b9
    have P := Lib.hid o9
    clear o9
    go_wp2_with fail
    refine (bestS_yes R.out HB.out).mono ?_
    rintro e wv3 ⟨vY, rfl, o9, b9⟩
    replace R := Lib.hid (R.out.grow b9)
    replace P := Lib.hid (P.out.grow b9)
    replace BB := Lib.hid (BB.out.trans (b9.mono BB.out.size))
    clear b9
    have Y := Lib.hid o9
    clear o9
    go_wp2_with fail
    refine (isame_yes P.out.row Y.out.row rfl).mono ?_
    rintro e wv4 ⟨rfl, b9⟩
    replace R := Lib.hid (R.out.grow b9)
    replace P := Lib.hid (P.out.grow b9)
    replace Y := Lib.hid (Y.out.grow b9)
    replace BB := Lib.hid (BB.out.trans (b9.mono BB.out.size))
    clear b9
    clear Y
    obtain ⟨gx, px, qx, rfl, k1x, k2x⟩ := known_n P.out.row rfl l1
    have RP := Lib.hid P.out.row
    clear P
    by_cases h2 : m.length < 2
    · have h1 : m.length = 1 := by omega
      have g1 : decide ((m.length : Int) < 2) = true := decide_eq_true (by omega)
      have g2 : ((m.length : Int) == 1) = true := by simp; omega
      clear h1
      go_wp2_with fail
      go_ret
      exact ⟨by first | rfl | (simp; done) | (simp; omega), BB.out⟩
    · obtain ⟨K, s, hk0, hk1, hkn, hsg, hbs, hsl, hse⟩ := IsBest.suffix HB.out (by omega)
      obtain ⟨gy, py, qy, ey, k1y, k2y⟩ := known_n R.out rfl (by omega)
      simp only [Value.slice.injEq, true_and] at ey
      obtain ⟨rfl, rfl⟩ := ey
      have d0 := RP.out.cells 0 (by omega)
      obtain ⟨x0, hx0⟩ : ∃ x : Int, m[0]'(by omega) = x := ⟨_, rfl⟩
      rw [hx0] at d0 hk0
      simp only [Nat.add_zero] at d0
      have g1 : decide ((m.length : Int) < 2) = false := decide_eq_false (by omega)
      have i1 : (0 : Int) < (m.length : Int) := by omega
      have e1 : IntKind.i64.wrap (x0 + 1) = (K : Int) := by rw [hk0]; exact IntWalk.i64_in _ (by omega)
      have i2 : (0 : Int) ≤ (K : Int) := by omega
      have i3 : (K : Int) ≤ (c.length : Int) := by omega
      have HBS := Lib.hid hbs; have HSE := Lib.hid hse
      have RK := Lib.hid (R.out.drop K (by omega))
      clear hx0 hk0 hbs hse hsg
      go_wp2_with fail
      refine (bestI_yes RK.out HBS.out).mono ?_
      rintro e wv5 ⟨vS, rfl, o9, b9⟩
      replace R := Lib.hid (R.out.grow b9)
      replace RP := Lib.hid (RP.out.grow b9)
      replace RK := Lib.hid (RK.out.grow b9)
      replace BB := Lib.hid (BB.out.trans (b9.mono BB.out.size))
      clear b9
      have S := Lib.hid o9
      clear o9
      obtain ⟨t, ht⟩ : ∃ t, s.length = t := ⟨_, rfl⟩
      obtain ⟨gz, pz, qz, rfl, k1z, k2z⟩ := known_n S.out.row ht (by omega)
      have RS := Lib.hid S.out.row
      clear S
      have e2 : IntKind.i64.wrap ((m.length : Int) - 1) = (t : Int) := by rw [show (m.length : Int) - 1 = (t : Int) by omega]; exact IntWalk.i64_in _ (by omega)
      have n0 : ((t : Int) != (t : Int)) = false := by simp
      have HT := Lib.hid ht; have HL := Lib.hid (show m.length = t + 1 by omega)
      clear ht hsl g1 i1 d0 e1
      go_wp2_with fail
      go_loopg [13] t (fun k x wr => ∃ j : Nat, x = .int .i64 j ∧ j + k = t ∧ Below wv5.heap.size wv5 wr)
      case atStart => exact ⟨0, rfl, by omega, Below.refl _ _⟩
      case round =>
        obtain ⟨wv6, rfl⟩ : ∃ x, x = wr := ⟨wr, rfl⟩
        obtain ⟨j, rfl, hk, hb⟩ := hrel
        have KK := Lib.hid hk; have B := Lib.hid hb
        have hjn : j ≤ t := by omega
        clear hk hb
        replace R := Lib.hid (R.out.grow B.out)
        replace RP := Lib.hid (RP.out.grow B.out)
        replace RK := Lib.hid (RK.out.grow B.out)
        replace RS := Lib.hid (RS.out.grow B.out)
        replace BB := Lib.hid (BB.out.trans (B.out.mono BB.out.size))
        by_cases hlt : j < t
        · have d1 := RS.out.cells j (by rw [HT.out]; exact hlt)
          have d2 := RP.out.cells (j + 1) (by rw [HL.out]; omega)
          have se := HSE.out j (by rw [HT.out]; exact hlt) (by rw [HL.out]; omega)
          obtain ⟨x, hx⟩ : ∃ x : Int, s[j]'(by rw [HT.out]; exact hlt) = x := ⟨_, rfl⟩
          obtain ⟨y, hy⟩ : ∃ x : Int, m[j + 1]'(by rw [HL.out]; omega) = x := ⟨_, rfl⟩
          rw [hx] at d1 se; rw [hy] at d2 se
          have yb : 0 ≤ y ∧ y < (c.length : Int) := by rw [← hy]; exact IB'.out.toAllowed.places _ (List.getElem_mem _)
          have e3 : IntKind.i64.wrap (x + (K : Int)) = y := by rw [se]; exact IntWalk.i64_in _ (by omega)
          have i4 : (j : Int) < (t : Int) := by omega
          have i5 : (0 : Int) ≤ (j : Int) := by omega
          have i6 : (j : Int) + 1 < (m.length : Int) := by have := HL.out; omega
          have i7 : (0 : Int) ≤ (j : Int) + 1 := by omega
          have i8 : ((j : Int) + 1).toNat = j + 1 := by omega
          have e4 : IntKind.i64.wrap ((j : Int) + 1) = (j : Int) + 1 := IntWalk.i64_in _ (by omega)
          have n1 : (y != y) = false := by simp
          clear hx hy se yb
          go_wp2_with fail
          go_quiet (fail)
          go_wp2_with fail
          go_roundg (gk - 1)
          case measure => have := KK.out; omega
          case rel => exact ⟨j + 1, by go_num, by have := KK.out; omega, below_drews B.out _⟩
        · have hj : j = t := by omega
          have i4 : ¬ (j : Int) < (t : Int) := by omega
          clear hj hlt
          go_wp2_with fail
          go_ret
          exact ⟨by first | rfl | (simp; done) | (simp; omega), BB.out⟩

set_option maxRecDepth 100000 in
theorem lifted (os : Os) (started : os.Started) (H : Type) (enc : TypeId × Value → H) :
    ReturnsInHanded {} Try.checked os 11 .any (Rows.fnBestSuffixSpec.pre6 enc Try.prog Try.f11 Rows.fnBestSuffixRow.domain false) (Rows.fnBestSuffixSpec.post enc Try.prog Try.f11 false true false false) := by
  refine returnsInHanded_of_change (C := Try.checked) own started (by kernel_rfl) Try.func11
    (ChangeSpec.witness6 (enc := enc) (C := Try.checked) false ⟨#[], #[.slice none 0 0], []⟩ 8 (by kernel_rfl) (by kernel_rfl) (by kernel_rfl) (by kernel_rfl)) ?_
  intro W base args ds gs before hval0 hW hcnd _
  have hval : ∀ (j : Nat) t v, Try.f11.params[j]? = some t → args[j]? = some v → Value.okWide Try.prog W .any base t v := hval0
  have hW' := hW
  obtain ⟨p, q, hA0, hV, rfl, hfz, hnd⟩ := hW
  have hA : DataW.TrodAll enc Try.prog W 0 (fun _ => true) true Try.f11.params.toList args.toList ds p := hA0
  rw [Try.params11] at hA hval
  obtain ⟨v0, vs0, d0, ds0, p0, q0, hargs, rfl, rfl, h0, r0⟩ := trodAll_cons hA
  obtain ⟨rfl, rfl, rfl⟩ := trodAll_nil r0
  obtain rfl : args = #[v0] := by cases args; simp_all
  obtain ⟨rfl, rfl⟩ := trodVars_none hV
  obtain ⟨a0, len0, cap0, rfl⟩ := okWide_slice Try.underlying22 (hval 0 22 v0 rfl rfl)
  have k0 := h0
  have lt0 : ∀ x ∈ p0, x.block < W.heap.size := by obtain ⟨m, hm⟩ := k0; exact DataW.trod_lt m _ _ _ hm
  obtain ⟨z0, w0⟩ : ∃ zs, IsRow .u8 W a0 len0 cap0 zs := by
    obtain ⟨fuel, hf⟩ := h0
    rcases open_ints Try.underlying22 Try.underlying5 (by kernel_rfl) hf with ⟨hcs, _⟩ | ⟨x, l, c, zs, hcs, _, hl, hm, hz, _, hcell, hwz⟩
    · simp [Value.cells] at hcs
      obtain ⟨rfl, rfl, rfl⟩ := hcs
      exact ⟨[], .inl ⟨rfl, rfl, rfl, rfl⟩⟩
    · simp [Value.cells] at hcs
      obtain ⟨rfl, rfl, rfl⟩ := hcs
      exact ⟨zs, .inr ⟨_, rfl, hl, hm, by simpa using hz, hcell, hwz⟩⟩
  clear hA0 hval0
  refine (walk a0 len0 cap0 z0 W w0).mono fun e W' ⟨he, bel⟩ => ?_
  subst he
  exact ⟨_, rfl, _, _, _, [], _, [], hW', trodAll_mk1 (shut_bool Try.underlying4 _), (trodAll_cons_mk (Below.trod laidOut (by kernel_rfl) (of_decide_eq_true (by kernel_rfl)) k0 bel lt0) trodAll_mk0), rfl, bel.frame _, fun h => by cases h⟩

theorem over : Rows.fnBestSuffixRow.holds Try.pinned (OpenSpec.ofChange Rows.fnBestSuffixSpec) :=
  OpenClaim.holds_of_wide 11 Try.f11 rfl rfl rfl rfl rfl rfl rfl ⟨rfl, rfl, rfl, rfl, rfl⟩ rfl rfl rfl rfl rfl (by kernel_rfl) Try.func11 (by kernel_rfl)
    (of_decide_eq_true (by kernel_rfl)) (by unfold Func.isWrapper; first | (rw [if_pos (by decide +kernel)]; kernel_rfl) | (rw [if_neg (by decide +kernel)]; exact ⟨rfl, rfl⟩))
    (fun os started H enc _ => lifted os started H enc)

/-- ████ THE STATEMENT ████ -/
theorem proved : Rows.FnBestSuffixSaid := over
#print axioms proved
end Go.Proofs.Ytihgfhddljicaaa.fnBestSuffix
