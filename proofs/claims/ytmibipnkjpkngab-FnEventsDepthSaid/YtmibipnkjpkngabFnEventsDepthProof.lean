/- For every input, the law FnEventsDepth of the given statements returns true over the program at this commit, and its arguments read afterwards as before: no condition. -/
import Derived.Test.YtmibipnkjpkngabRows
import Derived.Test.YtmibipnkjpkngabLawE
import Derived.WalkKit
import Derived.ProofKit
import Derived.OpenShut
import Derived.ShutString
import Derived.ChangeOld
import Derived.Below
namespace Go.Proofs.Ytmibipnkjpkngab.fnEventsDepth
open Go.ChangeShapes Go.WideShapes Go.ChangeAt Go.RowKit
open Go.ChangeMaps (open_string shut_string)
set_option linter.unusedVariables false

theorem own : ownKnob Try.prog.godebug = none := by kernel_rfl
theorem laidOut : laidOutB Try.prog = true := by kernel_rfl

/-- WHAT THE WALK IS TOLD OF A SLICE OF INTEGERS THAT CAME IN: it is nil; or it leads to a row of 'cap' cells, the numbers 'zs' (the first 'len' are its elements, the rest its spare room), each fitting its kind. -/
def IsRow (k : IntKind) (w : World) (a : Option Addr) (len cap : Nat) (zs : List Int) : Prop :=
  (a = none ∧ len = 0 ∧ cap = 0 ∧ zs = []) ∨
  ∃ x, a = some x ∧ len ≤ cap ∧ cap ≤ maxLen ∧ zs.length = cap ∧ (∀ i, i < zs.length → w.cell? (x.add i) = some (.int k (zs.getD i 0))) ∧ ∀ n ∈ zs, (Lit.int k n).wf = true

set_option maxRecDepth 100000 in
set_option maxHeartbeats 3200000 in
theorem walk (a0 : Option Addr) (len0 cap0 : Nat) (z0 : List Int) (w : World) (w0 : IsRow .u8 w a0 len0 cap0 z0) :
    Calls Try.prog 8 #[.slice a0 len0 cap0] w fun e w' => e = .returned (.bool true) ∧ Below w.heap.size w w' := by
  have hB := bytes_of w0
  by_cases hl : 1048576 < len0
  · have hdec : decide (1048576 < len0) = true := by simpa using hl
    go_enter Try.func8, Try.ntmps8
    go_wp2_with fail
    go_ret
    exact ⟨rfl, Below.refl _ _⟩
  have hdec : decide (1048576 < len0) = false := by simpa using hl
  have hm : len0 ≤ 1048576 := by omega
  go_enter Try.func8, Try.ntmps8
  go_wp2_with fail
  refine (DrawMatchMost_any hB).mono ?_
  rintro e wv1 ⟨v, u, a, b, t, rfl, r0, r1, da, db, ht, b1⟩
  clear w0 hB
  have BB := Lib.hid b1
  clear b1
  have R := Lib.hid r0
  clear r0
  have U := Lib.hid r1
  clear r1
  have ha6 := da.1
  have hb6 := db.1
  obtain ⟨aR, cR, rfl, kR, mR⟩ := elen_n R.out
  obtain ⟨aU, cU, rfl, kU, mU⟩ := elen_n U.out
  obtain ⟨z, hz⟩ : ∃ x : Int, mostB a b t = x := ⟨_, rfl⟩
  have HZ := Lib.hid hz
  by_cases hneg : z < 0
  · clear hz
    go_wp2_with fail
    refine (mostI_is R.out U.out HZ.out).mono ?_
    rintro e wv2 ⟨rfl, b9⟩
    replace R := Lib.hid (R.out.grow b9)
    replace U := Lib.hid (U.out.grow b9)
    replace BB := Lib.hid (BB.out.trans (b9.mono BB.out.size))
    clear b9
    go_wp2_with fail
    refine (mostSB R.out U.out HZ.out).mono ?_
    rintro e wv3 ⟨rfl, b9⟩
    replace R := Lib.hid (R.out.grow b9)
    replace U := Lib.hid (U.out.grow b9)
    replace BB := Lib.hid (BB.out.trans (b9.mono BB.out.size))
    clear b9
    go_wp2_with fail
    go_ret
    exact ⟨by first | rfl | (simp; done) | (simp; omega), BB.out⟩
  · have hb := mostB_iff.1 (show 0 ≤ mostB a b t by omega)
    have HB := Lib.hid hb
    have g0 : decide (z < 0) = false := by simpa using hneg
    obtain ⟨va, vb, vt⟩ := argsOk_iff.1 hb
    have a8 := isEv_len va
    have b8 := isEv_len vb
    obtain ⟨t0, t1⟩ := tolOk_iff.1 vt
    have VA := Lib.hid va; have VB := Lib.hid vb
    have zb := mostB_bound a b t
    rw [hz] at zb
    have z0 : 0 ≤ z := by omega
    clear va vb vt hb hz hneg
    go_wp2_with fail
    refine (mostI_is R.out U.out HZ.out).mono ?_
    rintro e wv2 ⟨rfl, b9⟩
    replace R := Lib.hid (R.out.grow b9)
    replace U := Lib.hid (U.out.grow b9)
    replace BB := Lib.hid (BB.out.trans (b9.mono BB.out.size))
    clear b9
    go_wp2_with fail
    refine (mostSB R.out U.out HZ.out).mono ?_
    rintro e wv3 ⟨rfl, b9⟩
    replace R := Lib.hid (R.out.grow b9)
    replace U := Lib.hid (U.out.grow b9)
    replace BB := Lib.hid (BB.out.trans (b9.mono BB.out.size))
    clear b9
    have O9 := Lib.hid (own_new 34 (w := wv3) (Nat.le_refl wv3.heap.size))
    have A9 := Lib.hid ((Below.refl wv3.heap.size wv3).alloc (Nat.le_refl _) (.cells #[] 34))
    have RB := R
    go_wp2_with fail
    go_loopg [8, 9] a.length (fun k y x wr => ∃ j : Nat, x = .int .i64 j ∧ j + k = a.length ∧ Own 34 wr wv3.heap.size y ((deeper a).take j) ∧ Below wv3.heap.size wv3 wr)
    case atStart => exact ⟨0, rfl, by omega, by rw [show (deeper a).take 0 = [] from by simp]; exact O9.out, A9.out⟩
    case round =>
      obtain ⟨wv4, rfl⟩ : ∃ x, x = wr := ⟨wr, rfl⟩
      obtain ⟨j, rfl, hk, ho, hb⟩ := hrel
      have K := Lib.hid hk; have O := Lib.hid ho; have B := Lib.hid hb
      have hjn : j ≤ a.length := by omega
      have hz7 := hb.size
      clear hk ho hb
      replace R := Lib.hid (R.out.grow B.out)
      replace U := Lib.hid (U.out.grow B.out)
      replace BB := Lib.hid (BB.out.trans (B.out.mono BB.out.size))
      by_cases hlt : j < a.length
      · have i1 : (j : Int) < (a.length : Int) := by omega
        have i2 : (0 : Int) ≤ (j : Int) := by omega
        obtain ⟨gR, oR, pR, eR, k5, k6⟩ := RB.out.known (by omega)
        simp only [Value.slice.injEq, true_and] at eR
        obtain ⟨rfl, rfl⟩ := eR
        clear k5 k6
        obtain ⟨y1, hy1⟩ : ∃ x : Int, a[j].1 = x := ⟨_, rfl⟩
        have hq0 := hlt
        have gb := isEv_get VA.out hlt
        rw [hy1] at gb
        have w3 : IntKind.i64.wrap (y1 + 1) = y1 + 1 := IntWalk.i64_in _ (by omega)
        obtain ⟨y3, hy3⟩ : ∃ x, y1 + 1 = x := ⟨_, rfl⟩
        rw [hy3] at w3
        have d1 := (RB.out.cells j hlt).1
        have d2 := (RB.out.cells j hq0).2
        obtain ⟨y2, hy2⟩ : ∃ x : Int, a[j].2 = x := ⟨_, rfl⟩
        have ST : Hid ((deeper a).take j ++ [(y3, y2)] = (deeper a).take (j + 1)) := Lib.hid (by rw [deeper_take hlt, ← hy3, ← hy1, ← hy2])
        rw [hy1] at d1
        rw [hy2] at d2
        have mkS : ∀ w' : World, Below wv3.heap.size wv3 w' → (Below wv3.heap.size wv3 w' ∧ w'.cell? ⟨gR, oR + j * 2, none⟩ = some (.int .i64 y1) ∧ w'.cell? ⟨gR, oR + j * 2 + 1, none⟩ = some (.int .i64 y2)) := fun w' h => ⟨h, (h.cell (cell_below d1)).trans d1, (h.cell (cell_below d2)).trans d2⟩
        have keep0 := mkS _ B.out.drew
        have keepA := mkS _ (B.out.alloc hz7 (.cells #[.int .i64 y3, .int .i64 y2] 34)).drew
        obtain ⟨n1, n2⟩ := new_two_drew wv4 (.int .i64 y3) (.int .i64 y2) 34
        have N1 := Lib.hid n1; have N2 := Lib.hid n2
        have hown := O.out.lt
        have e1 := keep0.2.1; have e2 := keep0.2.2
        clear n1 n2 hy1 hy2 hq0 d1 d2
        go_wp2_with fail
        go_region_held3 (fun w' => (Below wv3.heap.size wv3 w' ∧ w'.cell? ⟨gR, oR + j * 2, none⟩ = some (.int .i64 y1) ∧ w'.cell? ⟨gR, oR + j * 2 + 1, none⟩ = some (.int .i64 y2)))
          (first | (with_reducible exact keep0) | (with_reducible exact keepA) | exact mkS _ (Below.grown keepA.1 hgrow (by simp; omega) (fun k hk => (hown k hk).1)))
          ((refine step_append_pair evT (by rfl) _ _ (by rfl) (B := wv3.heap.size) _ _ (by rfl) (O.out.grow (by go_grown)) ⟨wv4.heap.size, 0, none⟩ (y3, y2) (by rfl) N1.out N2.out (by simp; omega) (by simp; omega) ?_; intro v5 w5 hown5 hgrow))
        all_goals
          rw [ST.out] at hown5
          have O5 := Lib.hid hown5
          have B5 := Lib.hid (Below.grown keepA.1 hgrow (by simp; omega) (fun k hk => (hown k hk).1))
          clear hown5 hgrow hown keep0 keepA mkS e1 e2
          go_wp2_with fail
          go_roundg (gk - 1)
          case measure => have := K.out; omega
          case rel => exact ⟨j + 1, by go_num, by have := K.out; omega, O5.out, B5.out⟩
      · have hj : j = a.length := by omega
        have hd := O.out
        rw [hj] at hd
        rw [hj]
        have nlt : ¬ (a.length : Int) < (a.length : Int) := by omega
        clear hlt hz7 RB
        have N := Lib.hid hd.row
        rw [List.take_of_length_le (by rw [deeper_length]; exact Nat.le_refl _)] at N
        clear hd O B
        obtain ⟨y, hy⟩ : ∃ x : Int, mostB (deeper a) b t = x := ⟨_, rfl⟩
        have HY := Lib.hid hy
        have dp := mostB_deeper HB.out
        rw [hy, HZ.out] at dp
        clear hy
        go_wp2_with fail
        refine (mostI_is N.out U.out HY.out).mono ?_
        rintro e wv5 ⟨rfl, b9⟩
        replace R := Lib.hid (R.out.grow b9)
        replace U := Lib.hid (U.out.grow b9)
        replace N := Lib.hid (N.out.grow b9)
        replace BB := Lib.hid (BB.out.trans (b9.mono BB.out.size))
        clear b9
        rcases dp with rfl | ⟨dp1, rfl⟩
        · skip
          go_wp2_with fail
          go_ret
          exact ⟨by first | rfl | (simp; done) | (simp; omega), BB.out⟩
        · have DP := Lib.hid dp1
          have e8 : ((-1 : Int) == z) = false := by simp; omega
          clear dp1
          go_wp2_with fail
          refine (evI_is N.out DP.out).mono ?_
          rintro e wv6 ⟨rfl, b9⟩
          replace R := Lib.hid (R.out.grow b9)
          replace U := Lib.hid (U.out.grow b9)
          replace N := Lib.hid (N.out.grow b9)
          replace BB := Lib.hid (BB.out.trans (b9.mono BB.out.size))
          clear b9
          go_wp2_with fail
          go_ret
          exact ⟨by first | rfl | (simp; done) | (simp; omega), BB.out⟩

set_option maxRecDepth 100000 in
theorem lifted (os : Os) (started : os.Started) (H : Type) (enc : TypeId × Value → H) :
    ReturnsInHanded {} Try.checked os 8 .any (Rows.fnEventsDepthSpec.pre6 enc Try.prog Try.f8 Rows.fnEventsDepthRow.domain false) (Rows.fnEventsDepthSpec.post enc Try.prog Try.f8 false true false false) := by
  refine returnsInHanded_of_change (C := Try.checked) own started (by kernel_rfl) Try.func8
    (ChangeSpec.witness6 (enc := enc) (C := Try.checked) false ⟨#[], #[.slice none 0 0], []⟩ 8 (by kernel_rfl) (by kernel_rfl) (by kernel_rfl) (by kernel_rfl)) ?_
  intro W base args ds gs before hval0 hW hcnd _
  have hval : ∀ (j : Nat) t v, Try.f8.params[j]? = some t → args[j]? = some v → Value.okWide Try.prog W .any base t v := hval0
  have hW' := hW
  obtain ⟨p, q, hA0, hV, rfl, hfz, hnd⟩ := hW
  have hA : DataW.TrodAll enc Try.prog W 0 (fun _ => true) true Try.f8.params.toList args.toList ds p := hA0
  rw [Try.params8] at hA hval
  obtain ⟨v0, vs0, d0, ds0, p0, q0, hargs, rfl, rfl, h0, r0⟩ := trodAll_cons hA
  obtain ⟨rfl, rfl, rfl⟩ := trodAll_nil r0
  obtain rfl : args = #[v0] := by cases args; simp_all
  obtain ⟨rfl, rfl⟩ := trodVars_none hV
  obtain ⟨a0, len0, cap0, rfl⟩ := okWide_slice Try.underlying22 (hval 0 22 v0 rfl rfl)
  have k0 := h0
  have lt0 : ∀ x ∈ p0, x.block < W.heap.size := by obtain ⟨m, hm⟩ := k0; exact DataW.trod_lt m _ _ _ hm
  obtain ⟨z0, w0⟩ : ∃ zs, IsRow .u8 W a0 len0 cap0 zs := by
    obtain ⟨fuel, hf⟩ := h0
    rcases open_ints Try.underlying22 Try.underlying5 (by kernel_rfl) hf with ⟨hcs, _⟩ | ⟨x, l, c, zs, hcs, _, hl, hm, hz, _, hcell, hwz⟩
    · simp [Value.cells] at hcs
      obtain ⟨rfl, rfl, rfl⟩ := hcs
      exact ⟨[], .inl ⟨rfl, rfl, rfl, rfl⟩⟩
    · simp [Value.cells] at hcs
      obtain ⟨rfl, rfl, rfl⟩ := hcs
      exact ⟨zs, .inr ⟨_, rfl, hl, hm, by simpa using hz, hcell, hwz⟩⟩
  clear hA0 hval0
  refine (walk a0 len0 cap0 z0 W w0).mono fun e W' ⟨he, bel⟩ => ?_
  subst he
  exact ⟨_, rfl, _, _, _, [], _, [], hW', trodAll_mk1 (shut_bool Try.underlying4 _), (trodAll_cons_mk (Below.trod laidOut (by kernel_rfl) (of_decide_eq_true (by kernel_rfl)) k0 bel lt0) trodAll_mk0), rfl, bel.frame _, fun h => by cases h⟩

theorem over : Rows.fnEventsDepthRow.holds Try.pinned (OpenSpec.ofChange Rows.fnEventsDepthSpec) :=
  OpenClaim.holds_of_wide 8 Try.f8 rfl rfl rfl rfl rfl rfl rfl ⟨rfl, rfl, rfl, rfl, rfl⟩ rfl rfl rfl rfl rfl (by kernel_rfl) Try.func8 (by kernel_rfl)
    (of_decide_eq_true (by kernel_rfl)) (by unfold Func.isWrapper; first | (rw [if_pos (by decide +kernel)]; kernel_rfl) | (rw [if_neg (by decide +kernel)]; exact ⟨rfl, rfl⟩))
    (fun os started H enc _ => lifted os started H enc)

/-- ████ THE STATEMENT ████ -/
theorem proved : Rows.FnEventsDepthSaid := over
#print axioms proved
end Go.Proofs.Ytmibipnkjpkngab.fnEventsDepth
