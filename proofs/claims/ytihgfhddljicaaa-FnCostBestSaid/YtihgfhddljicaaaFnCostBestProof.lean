/- For every input, the law FnCostBest of the given statements returns true over the program at this commit, and its arguments read afterwards as before: no condition. -/
import Derived.Test.YtihgfhddljicaaaRows
import Derived.Test.YtihgfhddljicaaaLawC
import Derived.WalkKit
import Derived.ProofKit
import Derived.OpenShut
import Derived.ShutString
import Derived.ChangeOld
import Derived.Below
namespace Go.Proofs.Ytihgfhddljicaaa.fnCostBest
open Go.ChangeShapes Go.WideShapes Go.ChangeAt Go.RowKit
open Go.ChangeMaps (open_string shut_string)
set_option linter.unusedVariables false

theorem own : ownKnob Try.prog.godebug = none := by kernel_rfl
theorem laidOut : laidOutB Try.prog = true := by kernel_rfl

/-- WHAT THE WALK IS TOLD OF A SLICE OF INTEGERS THAT CAME IN: it is nil; or it leads to a row of 'cap' cells, the numbers 'zs' (the first 'len' are its elements, the rest its spare room), each fitting its kind. -/
def IsRow (k : IntKind) (w : World) (a : Option Addr) (len cap : Nat) (zs : List Int) : Prop :=
  (a = none ∧ len = 0 ∧ cap = 0 ∧ zs = []) ∨
  ∃ x, a = some x ∧ len ≤ cap ∧ cap ≤ maxLen ∧ zs.length = cap ∧ (∀ i, i < zs.length → w.cell? (x.add i) = some (.int k (zs.getD i 0))) ∧ ∀ n ∈ zs, (Lit.int k n).wf = true

set_option maxRecDepth 100000 in
set_option maxHeartbeats 3200000 in
theorem walk (a0 : Option Addr) (len0 cap0 : Nat) (z0 : List Int) (w : World) (w0 : IsRow .u8 w a0 len0 cap0 z0) :
    Calls Try.prog 6 #[.slice a0 len0 cap0] w fun e w' => e = .returned (.bool true) ∧ Below w.heap.size w w' := by
  have hB := bytes_of w0
  by_cases hl : 1048576 < len0
  · have hdec : decide (1048576 < len0) = true := by simpa using hl
    go_enter Try.func6, Try.ntmps6
    go_wp2_with fail
    go_ret
    exact ⟨rfl, Below.refl _ _⟩
  have hdec : decide (1048576 < len0) = false := by simpa using hl
  have hm : len0 ≤ 1048576 := by omega
  go_enter Try.func6, Try.ntmps6
  go_wp2_with fail
  refine (DrawCutsCost_any hB).mono ?_
  rintro e wv1 ⟨v, u, c, l, lo, mo, rfl, r0, r1, hc20, hl100, b1⟩
  clear w0 hB
  have BB := Lib.hid b1
  clear b1
  have R := Lib.hid r0
  clear r0
  have U := Lib.hid r1
  clear r1
  obtain ⟨aR, cR, rfl, kR, mR⟩ := len_n R.out
  obtain ⟨aU, cU, rfl, kU, mU⟩ := len_n U.out
  obtain ⟨z, hz⟩ : ∃ x : Int, costB c lo mo l = x := ⟨_, rfl⟩
  have HZ := Lib.hid hz
  by_cases hneg : z < 0
  · clear hz
    go_wp2_with fail
    refine (costI_is R.out U.out (by omega) HZ.out).mono ?_
    rintro e wv2 ⟨rfl, b9⟩
    replace R := Lib.hid (R.out.grow b9)
    replace U := Lib.hid (U.out.grow b9)
    replace BB := Lib.hid (BB.out.trans (b9.mono BB.out.size))
    clear b9
    go_wp2_with fail
    refine (costSB R.out U.out (by omega) HZ.out).mono ?_
    rintro e wv3 ⟨rfl, b9⟩
    replace R := Lib.hid (R.out.grow b9)
    replace U := Lib.hid (U.out.grow b9)
    replace BB := Lib.hid (BB.out.trans (b9.mono BB.out.size))
    clear b9
    go_wp2_with fail
    go_ret
    exact ⟨by first | rfl | (simp; done) | (simp; omega), BB.out⟩
  · have hb := costB_nonneg (c := c) (lo := lo) (mo := mo) (l := l) (by omega)
    obtain ⟨a, b, rfl, rfl, hal⟩ := allowed_is hb
    have AL := Lib.hid hal
    have HC : Hid (costAt c l = z) := Lib.hid (by rw [← hal.cost]; exact hz)
    obtain ⟨l1, ln⟩ := hal.size
    obtain ⟨n1, n16⟩ := hal.len
    have hzb := hal.bound
    rw [HC.out] at hzb
    have g0 : decide (z < 0) = false := by simpa using hneg
    clear hb hal hz hneg
    go_wp2_with fail
    refine (costI_is R.out U.out (by omega) HZ.out).mono ?_
    rintro e wv2 ⟨rfl, b9⟩
    replace R := Lib.hid (R.out.grow b9)
    replace U := Lib.hid (U.out.grow b9)
    replace BB := Lib.hid (BB.out.trans (b9.mono BB.out.size))
    clear b9
    go_wp2_with fail
    refine (costSB R.out U.out (by omega) HZ.out).mono ?_
    rintro e wv3 ⟨rfl, b9⟩
    replace R := Lib.hid (R.out.grow b9)
    replace U := Lib.hid (U.out.grow b9)
    replace BB := Lib.hid (BB.out.trans (b9.mono BB.out.size))
    clear b9
    obtain ⟨m, hm⟩ := bestB_has AL.out.allowed
    obtain ⟨a', b', ea, eb, hib⟩ := bestB_some hm
    have ea' : a' = a := by omega
    have eb' : b' = b := by omega
    subst ea'; subst eb'
    clear ea eb
    have HM := Lib.hid hm; have IB' := Lib.hid hib
    obtain ⟨q1, q2⟩ := hib.toAllowed.size
    have le := hib.least l AL.out.ok
    rw [HC.out] at le
    obtain ⟨x, hx⟩ : ∃ x : Int, costAt c m = x := ⟨_, rfl⟩
    rw [hx] at le
    have xb := hib.toAllowed.bound
    rw [hx] at xb
    have HX := Lib.hid hx; have LE := Lib.hid le
    have le1 := le.1
    clear hm hib hx le
    go_wp2_with fail
    refine (bestI_yes R.out HM.out).mono ?_
    rintro e wv4 ⟨vP, rfl, o9, b9⟩
    replace R := Lib.hid (R.out.grow b9)
    replace U := Lib.hid (U.out.grow b9)
    replace BB := Lib.hid (BB.out.trans (b9.mono BB.out.size))
    clear b9
    have P := Lib.hid o9
    clear o9
    go_wp2_with fail
    refine (costI_yes R.out P.out.row IB'.out.toAllowed HX.out).mono ?_
    rintro e wv5 ⟨rfl, b9⟩
    replace R := Lib.hid (R.out.grow b9)
    replace U := Lib.hid (U.out.grow b9)
    replace P := Lib.hid (P.out.grow b9)
    replace BB := Lib.hid (BB.out.trans (b9.mono BB.out.size))
    clear b9
    obtain ⟨gx, px, qx, rfl, k1x, k2x⟩ := known_n P.out.row rfl q1
    obtain ⟨gy, py, qy, ey, k1y, k2y⟩ := known_n U.out rfl (by omega)
    simp only [Value.slice.injEq, true_and] at ey
    obtain ⟨rfl, rfl⟩ := ey
    have RP := Lib.hid P.out.row
    clear P
    go_wp2_with fail
    go_loopg [12, 13] (min m.length l.length + 1) (fun k x y wr => ∃ j : Nat, y = .int .i64 j ∧ j ≤ min m.length l.length ∧ j + k = min m.length l.length + 1 ∧ x = .bool true ∧ firstLe (m.drop j) (l.drop j) = firstLe m l ∧ Below wv5.heap.size wv5 wr)
    case atStart => exact ⟨0, rfl, by omega, by omega, rfl, rfl, Below.refl _ _⟩
    case round =>
      obtain ⟨wv6, rfl⟩ : ∃ x, x = wr := ⟨wr, rfl⟩
      obtain ⟨j, rfl, hjm, hk, rfl, hf, hb⟩ := hrel
      have K := Lib.hid hk; have B := Lib.hid hb; have FL := Lib.hid hf
      clear hk hb hf
      replace R := Lib.hid (R.out.grow B.out)
      replace U := Lib.hid (U.out.grow B.out)
      replace RP := Lib.hid (RP.out.grow B.out)
      replace BB := Lib.hid (BB.out.trans (B.out.mono BB.out.size))
      have le2 : x = z → firstLe m l = true := LE.out.2
      by_cases c1 : j < m.length
      · by_cases c2 : j < l.length
        · have d1 := RP.out.cells j c1
          have d2 := U.out.cells j c2
          have i1 : (j : Int) < (m.length : Int) := by omega
          have i2 : (j : Int) < (l.length : Int) := by omega
          have i0 : (0 : Int) ≤ (j : Int) := by omega
          have fd := FL.out
          rw [List.drop_eq_getElem_cons c1, List.drop_eq_getElem_cons c2, firstLe_cons] at fd
          obtain ⟨s, hs⟩ : ∃ x : Int, m[j] = x := ⟨_, rfl⟩
          obtain ⟨t, ht⟩ : ∃ x : Int, l[j] = x := ⟨_, rfl⟩
          rw [hs] at d1 fd; rw [ht] at d2 fd
          clear hs ht
          by_cases e : s = t
          · rw [if_pos e] at fd
            subst e
            have FD := Lib.hid fd
            have n0 : (s != s) = false := by simp
            clear fd le2
            go_wp2_with fail
            go_quiet (fail)
            go_wp2_with fail
            go_roundg (gk - 1)
            case measure => have := K.out; omega
            case rel => exact ⟨j + 1, by go_num, by omega, by have := K.out; omega, rfl, FD.out, below_drews B.out _⟩
          · rw [if_neg e] at fd
            have n0 : (s != t) = true := by rw [bne_iff_ne]; exact e
            have BQ : ∀ n, Below wv6.heap.size wv6 (wv6.drewN n) := fun n => below_drews (Below.refl _ _) n
            have LE2 := Lib.hid le2
            have FD := Lib.hid fd
            clear fd le2 e
            by_cases st : s < t
            · have st' : decide (s < t) = true := decide_eq_true st
              clear FD
              go_wp2_with fail
              go_quiet (fail)
              go_wp2_with fail
              go_quiet (fail)
              by_cases xz : x < z
              · go_wp2_with fail
                go_ret
                exact ⟨by first | rfl | (simp; done) | (simp; omega), below_drews BB.out _⟩
              · have xe : x = z := by omega
                subst xe
                go_wp2_with fail
                go_ret
                exact ⟨by first | rfl | (simp; done) | (simp; omega), below_drews BB.out _⟩
            · have xz : x < z := by
                rcases Int.lt_or_le x z with h | h
                · exact h
                · exfalso
                  have := LE2.out (by omega)
                  rw [← FD.out, decide_eq_false st] at this; cases this
              have st' : decide (s < t) = false := decide_eq_false st
              go_wp2_with fail
              go_quiet (fail)
              go_wp2_with fail
              go_quiet (fail)
              go_wp2_with fail
              go_ret
              exact ⟨by first | rfl | (simp; done) | (simp; omega), below_drews BB.out _⟩
        · have i1 : (j : Int) < (m.length : Int) := by omega
          have i2 : ¬ (j : Int) < (l.length : Int) := by omega
          clear le2
          by_cases xz : x < z
          · go_wp2_with fail
            go_ret
            exact ⟨by first | rfl | (simp; done) | (simp; omega), BB.out⟩
          · have xe : x = z := by omega
            subst xe
            go_wp2_with fail
            go_ret
            exact ⟨by first | rfl | (simp; done) | (simp; omega), BB.out⟩
      · have i1 : ¬ (j : Int) < (m.length : Int) := by omega
        clear le2
        by_cases xz : x < z
        · go_wp2_with fail
          go_ret
          exact ⟨by first | rfl | (simp; done) | (simp; omega), BB.out⟩
        · have xe : x = z := by omega
          subst xe
          go_wp2_with fail
          go_ret
          exact ⟨by first | rfl | (simp; done) | (simp; omega), BB.out⟩

set_option maxRecDepth 100000 in
theorem lifted (os : Os) (started : os.Started) (H : Type) (enc : TypeId × Value → H) :
    ReturnsInHanded {} Try.checked os 6 .any (Rows.fnCostBestSpec.pre6 enc Try.prog Try.f6 Rows.fnCostBestRow.domain false) (Rows.fnCostBestSpec.post enc Try.prog Try.f6 false true false false) := by
  refine returnsInHanded_of_change (C := Try.checked) own started (by kernel_rfl) Try.func6
    (ChangeSpec.witness6 (enc := enc) (C := Try.checked) false ⟨#[], #[.slice none 0 0], []⟩ 8 (by kernel_rfl) (by kernel_rfl) (by kernel_rfl) (by kernel_rfl)) ?_
  intro W base args ds gs before hval0 hW hcnd _
  have hval : ∀ (j : Nat) t v, Try.f6.params[j]? = some t → args[j]? = some v → Value.okWide Try.prog W .any base t v := hval0
  have hW' := hW
  obtain ⟨p, q, hA0, hV, rfl, hfz, hnd⟩ := hW
  have hA : DataW.TrodAll enc Try.prog W 0 (fun _ => true) true Try.f6.params.toList args.toList ds p := hA0
  rw [Try.params6] at hA hval
  obtain ⟨v0, vs0, d0, ds0, p0, q0, hargs, rfl, rfl, h0, r0⟩ := trodAll_cons hA
  obtain ⟨rfl, rfl, rfl⟩ := trodAll_nil r0
  obtain rfl : args = #[v0] := by cases args; simp_all
  obtain ⟨rfl, rfl⟩ := trodVars_none hV
  obtain ⟨a0, len0, cap0, rfl⟩ := okWide_slice Try.underlying22 (hval 0 22 v0 rfl rfl)
  have k0 := h0
  have lt0 : ∀ x ∈ p0, x.block < W.heap.size := by obtain ⟨m, hm⟩ := k0; exact DataW.trod_lt m _ _ _ hm
  obtain ⟨z0, w0⟩ : ∃ zs, IsRow .u8 W a0 len0 cap0 zs := by
    obtain ⟨fuel, hf⟩ := h0
    rcases open_ints Try.underlying22 Try.underlying5 (by kernel_rfl) hf with ⟨hcs, _⟩ | ⟨x, l, c, zs, hcs, _, hl, hm, hz, _, hcell, hwz⟩
    · simp [Value.cells] at hcs
      obtain ⟨rfl, rfl, rfl⟩ := hcs
      exact ⟨[], .inl ⟨rfl, rfl, rfl, rfl⟩⟩
    · simp [Value.cells] at hcs
      obtain ⟨rfl, rfl, rfl⟩ := hcs
      exact ⟨zs, .inr ⟨_, rfl, hl, hm, by simpa using hz, hcell, hwz⟩⟩
  clear hA0 hval0
  refine (walk a0 len0 cap0 z0 W w0).mono fun e W' ⟨he, bel⟩ => ?_
  subst he
  exact ⟨_, rfl, _, _, _, [], _, [], hW', trodAll_mk1 (shut_bool Try.underlying4 _), (trodAll_cons_mk (Below.trod laidOut (by kernel_rfl) (of_decide_eq_true (by kernel_rfl)) k0 bel lt0) trodAll_mk0), rfl, bel.frame _, fun h => by cases h⟩

theorem over : Rows.fnCostBestRow.holds Try.pinned (OpenSpec.ofChange Rows.fnCostBestSpec) :=
  OpenClaim.holds_of_wide 6 Try.f6 rfl rfl rfl rfl rfl rfl rfl ⟨rfl, rfl, rfl, rfl, rfl⟩ rfl rfl rfl rfl rfl (by kernel_rfl) Try.func6 (by kernel_rfl)
    (of_decide_eq_true (by kernel_rfl)) (by unfold Func.isWrapper; first | (rw [if_pos (by decide +kernel)]; kernel_rfl) | (rw [if_neg (by decide +kernel)]; exact ⟨rfl, rfl⟩))
    (fun os started H enc _ => lifted os started H enc)

/-- ████ THE STATEMENT ████ -/
theorem proved : Rows.FnCostBestSaid := over
#print axioms proved
end Go.Proofs.Ytihgfhddljicaaa.fnCostBest
