/- For every input, the law FnMatchMost of the given statements returns true over the program at this commit, and its arguments read afterwards as before: no condition. -/
import Derived.Test.YtmibipnkjpkngaaRows
import Derived.Test.YtmibipnkjpkngaaLawE4
import Derived.WalkKit
import Derived.ProofKit
import Derived.OpenShut
import Derived.ShutString
import Derived.ChangeOld
import Derived.Below
namespace Go.Proofs.Ytmibipnkjpkngaa.fnMatchMost
open Go.ChangeShapes Go.WideShapes Go.ChangeAt Go.RowKit
open Go.ChangeMaps (open_string shut_string)
set_option linter.unusedVariables false

theorem own : ownKnob Try.prog.godebug = none := by kernel_rfl
theorem laidOut : laidOutB Try.prog = true := by kernel_rfl

/-- WHAT THE WALK IS TOLD OF A SLICE OF INTEGERS THAT CAME IN: it is nil; or it leads to a row of 'cap' cells, the numbers 'zs' (the first 'len' are its elements, the rest its spare room), each fitting its kind. -/
def IsRow (k : IntKind) (w : World) (a : Option Addr) (len cap : Nat) (zs : List Int) : Prop :=
  (a = none ∧ len = 0 ∧ cap = 0 ∧ zs = []) ∨
  ∃ x, a = some x ∧ len ≤ cap ∧ cap ≤ maxLen ∧ zs.length = cap ∧ (∀ i, i < zs.length → w.cell? (x.add i) = some (.int k (zs.getD i 0))) ∧ ∀ n ∈ zs, (Lit.int k n).wf = true

set_option maxRecDepth 100000 in
set_option maxHeartbeats 3200000 in
theorem walk (a0 : Option Addr) (len0 cap0 : Nat) (z0 : List Int) (w : World) (w0 : IsRow .u8 w a0 len0 cap0 z0) :
    Calls Try.prog 7 #[.slice a0 len0 cap0] w fun e w' => e = .returned (.bool true) ∧ Below w.heap.size w w' := by
  have hB := bytes_of w0
  by_cases hl : 1048576 < len0
  · have hdec : decide (1048576 < len0) = true := by simpa using hl
    go_enter Try.func7, Try.ntmps7
    go_wp2_with fail
    go_ret
    exact ⟨rfl, Below.refl _ _⟩
  have hdec : decide (1048576 < len0) = false := by simpa using hl
  have hm : len0 ≤ 1048576 := by omega
  go_enter Try.func7, Try.ntmps7
  go_wp2_with fail
  refine (DrawMatchMost_any hB).mono ?_
  rintro e wv1 ⟨v, u, a, b, t, rfl, r0, r1, da, db, ht, b1⟩
  clear w0 hB
  have BB := Lib.hid b1
  clear b1
  have R := Lib.hid r0
  clear r0
  have U := Lib.hid r1
  clear r1
  have ha6 := da.1
  have hb6 := db.1
  obtain ⟨aR, cR, rfl, kR, mR⟩ := elen_n R.out
  obtain ⟨aU, cU, rfl, kU, mU⟩ := elen_n U.out
  obtain ⟨z, hz⟩ : ∃ x : Int, mostB a b t = x := ⟨_, rfl⟩
  have HZ := Lib.hid hz
  by_cases hneg : z < 0
  · clear hz
    go_wp2_with fail
    refine (mostI_is R.out U.out HZ.out).mono ?_
    rintro e wv2 ⟨rfl, b9⟩
    replace R := Lib.hid (R.out.grow b9)
    replace U := Lib.hid (U.out.grow b9)
    replace BB := Lib.hid (BB.out.trans (b9.mono BB.out.size))
    clear b9
    go_wp2_with fail
    refine (mostSB R.out U.out HZ.out).mono ?_
    rintro e wv3 ⟨rfl, b9⟩
    replace R := Lib.hid (R.out.grow b9)
    replace U := Lib.hid (U.out.grow b9)
    replace BB := Lib.hid (BB.out.trans (b9.mono BB.out.size))
    clear b9
    go_wp2_with fail
    go_ret
    exact ⟨by first | rfl | (simp; done) | (simp; omega), BB.out⟩
  · have hb := mostB_iff.1 (show 0 ≤ mostB a b t by omega)
    have HB := Lib.hid hb
    have g0 : decide (z < 0) = false := by simpa using hneg
    obtain ⟨va, vb, vt⟩ := argsOk_iff.1 hb
    have a8 := isEv_len va
    have b8 := isEv_len vb
    obtain ⟨t0, t1⟩ := tolOk_iff.1 vt
    have VA := Lib.hid va; have VB := Lib.hid vb
    have zb := mostB_bound a b t
    rw [hz] at zb
    have z0 : 0 ≤ z := by omega
    clear va vb vt hb hz hneg
    go_wp2_with fail
    refine (mostI_is R.out U.out HZ.out).mono ?_
    rintro e wv2 ⟨rfl, b9⟩
    replace R := Lib.hid (R.out.grow b9)
    replace U := Lib.hid (U.out.grow b9)
    replace BB := Lib.hid (BB.out.trans (b9.mono BB.out.size))
    clear b9
    go_wp2_with fail
    refine (mostSB R.out U.out HZ.out).mono ?_
    rintro e wv3 ⟨rfl, b9⟩
    replace R := Lib.hid (R.out.grow b9)
    replace U := Lib.hid (U.out.grow b9)
    replace BB := Lib.hid (BB.out.trans (b9.mono BB.out.size))
    clear b9
    have sw := mostB_swap a b t
    have rv := mostB_rev HB.out
    rw [HZ.out] at sw rv
    have SW := Lib.hid sw; have RV := Lib.hid rv
    clear sw rv
    have RB := R
    go_wp2_with fail
    go_loopg [8, 10] a.length (fun k y x wr => ∃ j : Nat, x = .int .i64 j ∧ j + k = a.length ∧ GrwE 27 wr wv3.heap.size y ((revEv a).take j) ∧ Below wv3.heap.size wv3 wr)
    case atStart => exact ⟨0, rfl, by omega, by rw [show (revEv a).take 0 = [] from by simp]; exact .inl ⟨rfl, _, rfl⟩, by go_grown⟩
    case round =>
      obtain ⟨wv4, rfl⟩ : ∃ x, x = wr := ⟨wr, rfl⟩
      obtain ⟨j, rfl, hk, ho, hb⟩ := hrel
      have K := Lib.hid hk; have O := Lib.hid ho; have B := Lib.hid hb
      have hjn : j ≤ a.length := by omega
      have hz7 := hb.size
      clear hk ho hb
      replace R := Lib.hid (R.out.grow B.out)
      replace U := Lib.hid (U.out.grow B.out)
      replace BB := Lib.hid (BB.out.trans (B.out.mono BB.out.size))
      by_cases hlt : j < a.length
      · have i1 : (j : Int) < (a.length : Int) := by omega
        have i2 : (0 : Int) ≤ (j : Int) := by omega
        obtain ⟨gR, oR, pR, eR, k5, k6⟩ := RB.out.known (by omega)
        simp only [Value.slice.injEq, true_and] at eR
        obtain ⟨rfl, rfl⟩ := eR
        clear k5 k6
        obtain ⟨y1, hy1⟩ : ∃ x : Int, a[j].1 = x := ⟨_, rfl⟩
        obtain ⟨q, hq⟩ : ∃ q, a.length - 1 - j = q := ⟨_, rfl⟩
        have hq0 : q < a.length := by omega
        have nx : (revEv a).take j ++ [((a[j]).1, (a[q]'hq0).2)] = (revEv a).take (j + 1) := by subst hq; exact revEv_next hlt
        have w3 : IntKind.i64.wrap ((a.length : Int) - 1) = (a.length : Int) - 1 := IntWalk.i64_in _ (by omega)
        have w4 : IntKind.i64.wrap ((a.length : Int) - 1 - (j : Int)) = (q : Int) := by rw [show (a.length : Int) - 1 - (j : Int) = (q : Int) by omega]; exact IntWalk.i64_in _ (by omega)
        have i3 : (q : Int) < (a.length : Int) := by omega
        have i4 : (0 : Int) ≤ (q : Int) := by omega
        clear hq
        have d1 := (RB.out.cells j hlt).1
        have d2 := (RB.out.cells q hq0).2
        obtain ⟨y2, hy2⟩ : ∃ x : Int, a[q].2 = x := ⟨_, rfl⟩
        have ST : Hid ((revEv a).take j ++ [(y1, y2)] = (revEv a).take (j + 1)) := Lib.hid (by rw [← hy1, ← hy2]; exact nx)
        rw [hy1] at d1
        rw [hy2] at d2
        have mkS : ∀ w' : World, Below wv3.heap.size wv3 w' → (Below wv3.heap.size wv3 w' ∧ w'.cell? ⟨gR, oR + j * 2, none⟩ = some (.int .i64 y1) ∧ w'.cell? ⟨gR, oR + q * 2 + 1, none⟩ = some (.int .i64 y2)) := fun w' h => ⟨h, (h.cell (cell_below d1)).trans d1, (h.cell (cell_below d2)).trans d2⟩
        have keep0 := mkS _ B.out.drew
        have keepA := mkS _ (B.out.alloc hz7 (.cells #[.int .i64 y1, .int .i64 y2] 27)).drew
        obtain ⟨n1, n2⟩ := new_two_drew wv4 (.int .i64 y1) (.int .i64 y2) 27
        have N1 := Lib.hid n1; have N2 := Lib.hid n2
        have e1 := keep0.2.1; have e2 := keep0.2.2
        clear nx n1 n2 hy1 hy2 hq0 d1 d2
        go_wp2_with fail
        go_region_held3 (fun w' => (Below wv3.heap.size wv3 w' ∧ w'.cell? ⟨gR, oR + j * 2, none⟩ = some (.int .i64 y1) ∧ w'.cell? ⟨gR, oR + q * 2 + 1, none⟩ = some (.int .i64 y2)))
          (first | (with_reducible exact keep0) | (with_reducible exact keepA) | exact mkS _ (keepA.1.trans hgrow))
          ((refine step_grw_pair evT (by rfl) _ _ (by rfl) (B := wv3.heap.size) _ _ (by rfl) (O.out.grow (by go_grown)) ⟨wv4.heap.size, 0, none⟩ (y1, y2) (by rfl) N1.out N2.out (by simp; omega) (by simp; omega) ?_; intro v5 w5 hown5 hgrow))
        all_goals
          rw [ST.out] at hown5
          have O5 := Lib.hid hown5
          have B5 := Lib.hid (keepA.1.trans hgrow)
          clear hown5 hgrow keep0 keepA mkS e1 e2
          go_wp2_with fail
          go_roundg (gk - 1)
          case measure => have := K.out; omega
          case rel => exact ⟨j + 1, by go_num, by have := K.out; omega, .inr O5.out, B5.out⟩
      · have hj : j = a.length := by omega
        have hd := O.out.row
        rw [hj] at hd
        rw [hj]
        have nlt : ¬ (a.length : Int) < (a.length : Int) := by omega
        clear hlt hz7 RB
        have N := Lib.hid hd
        rw [List.take_of_length_le (by rw [revEv_length]; exact Nat.le_refl _)] at N
        clear hd O B
        have RB := U
        go_wp2_with fail
        go_loopg [9, 11] b.length (fun k y x wr => ∃ j : Nat, x = .int .i64 j ∧ j + k = b.length ∧ GrwE 27 wr wv4.heap.size y ((revEv b).take j) ∧ Below wv4.heap.size wv4 wr)
        case atStart => exact ⟨0, rfl, by omega, by rw [show (revEv b).take 0 = [] from by simp]; exact .inl ⟨rfl, _, rfl⟩, by go_grown⟩
        case round =>
          obtain ⟨wv5, rfl⟩ : ∃ x, x = wr := ⟨wr, rfl⟩
          obtain ⟨j, rfl, hk, ho, hb⟩ := hrel
          have K := Lib.hid hk; have O := Lib.hid ho; have B := Lib.hid hb
          have hjn : j ≤ b.length := by omega
          have hz7 := hb.size
          clear hk ho hb
          replace R := Lib.hid (R.out.grow B.out)
          replace U := Lib.hid (U.out.grow B.out)
          replace N := Lib.hid (N.out.grow B.out)
          replace BB := Lib.hid (BB.out.trans (B.out.mono BB.out.size))
          by_cases hlt : j < b.length
          · have i1 : (j : Int) < (b.length : Int) := by omega
            have i2 : (0 : Int) ≤ (j : Int) := by omega
            obtain ⟨gU, oU, pU, eU, k5, k6⟩ := RB.out.known (by omega)
            simp only [Value.slice.injEq, true_and] at eU
            obtain ⟨rfl, rfl⟩ := eU
            clear k5 k6
            obtain ⟨y1, hy1⟩ : ∃ x : Int, b[j].1 = x := ⟨_, rfl⟩
            obtain ⟨q, hq⟩ : ∃ q, b.length - 1 - j = q := ⟨_, rfl⟩
            have hq0 : q < b.length := by omega
            have nx : (revEv b).take j ++ [((b[j]).1, (b[q]'hq0).2)] = (revEv b).take (j + 1) := by subst hq; exact revEv_next hlt
            have w3 : IntKind.i64.wrap ((b.length : Int) - 1) = (b.length : Int) - 1 := IntWalk.i64_in _ (by omega)
            have w4 : IntKind.i64.wrap ((b.length : Int) - 1 - (j : Int)) = (q : Int) := by rw [show (b.length : Int) - 1 - (j : Int) = (q : Int) by omega]; exact IntWalk.i64_in _ (by omega)
            have i3 : (q : Int) < (b.length : Int) := by omega
            have i4 : (0 : Int) ≤ (q : Int) := by omega
            clear hq
            have d1 := (RB.out.cells j hlt).1
            have d2 := (RB.out.cells q hq0).2
            obtain ⟨y2, hy2⟩ : ∃ x : Int, b[q].2 = x := ⟨_, rfl⟩
            have ST : Hid ((revEv b).take j ++ [(y1, y2)] = (revEv b).take (j + 1)) := Lib.hid (by rw [← hy1, ← hy2]; exact nx)
            rw [hy1] at d1
            rw [hy2] at d2
            have mkS : ∀ w' : World, Below wv4.heap.size wv4 w' → (Below wv4.heap.size wv4 w' ∧ w'.cell? ⟨gU, oU + j * 2, none⟩ = some (.int .i64 y1) ∧ w'.cell? ⟨gU, oU + q * 2 + 1, none⟩ = some (.int .i64 y2)) := fun w' h => ⟨h, (h.cell (cell_below d1)).trans d1, (h.cell (cell_below d2)).trans d2⟩
            have keep0 := mkS _ B.out.drew
            have keepA := mkS _ (B.out.alloc hz7 (.cells #[.int .i64 y1, .int .i64 y2] 27)).drew
            obtain ⟨n1, n2⟩ := new_two_drew wv5 (.int .i64 y1) (.int .i64 y2) 27
            have N1 := Lib.hid n1; have N2 := Lib.hid n2
            have e1 := keep0.2.1; have e2 := keep0.2.2
            clear nx n1 n2 hy1 hy2 hq0 d1 d2
            go_wp2_with fail
            go_region_held3 (fun w' => (Below wv4.heap.size wv4 w' ∧ w'.cell? ⟨gU, oU + j * 2, none⟩ = some (.int .i64 y1) ∧ w'.cell? ⟨gU, oU + q * 2 + 1, none⟩ = some (.int .i64 y2)))
              (first | (with_reducible exact keep0) | (with_reducible exact keepA) | exact mkS _ (keepA.1.trans hgrow))
              ((refine step_grw_pair evT (by rfl) _ _ (by rfl) (B := wv4.heap.size) _ _ (by rfl) (O.out.grow (by go_grown)) ⟨wv5.heap.size, 0, none⟩ (y1, y2) (by rfl) N1.out N2.out (by simp; omega) (by simp; omega) ?_; intro v5 w5 hown5 hgrow))
            all_goals
              rw [ST.out] at hown5
              have O5 := Lib.hid hown5
              have B5 := Lib.hid (keepA.1.trans hgrow)
              clear hown5 hgrow keep0 keepA mkS e1 e2
              go_wp2_with fail
              go_roundg (gk - 1)
              case measure => have := K.out; omega
              case rel => exact ⟨j + 1, by go_num, by have := K.out; omega, .inr O5.out, B5.out⟩
          · have hj : j = b.length := by omega
            have hd := O.out.row
            rw [hj] at hd
            rw [hj]
            have nlt : ¬ (b.length : Int) < (b.length : Int) := by omega
            clear hlt hz7 RB
            have M := Lib.hid hd
            rw [List.take_of_length_le (by rw [revEv_length]; exact Nat.le_refl _)] at M
            clear hd O B
            go_wp2_with fail
            refine (mostI_is U.out R.out SW.out).mono ?_
            rintro e wv6 ⟨rfl, b9⟩
            replace R := Lib.hid (R.out.grow b9)
            replace U := Lib.hid (U.out.grow b9)
            replace N := Lib.hid (N.out.grow b9)
            replace M := Lib.hid (M.out.grow b9)
            replace BB := Lib.hid (BB.out.trans (b9.mono BB.out.size))
            clear b9
            go_wp2_with fail
            refine (mostI_is N.out M.out RV.out).mono ?_
            rintro e wv7 ⟨rfl, b9⟩
            replace R := Lib.hid (R.out.grow b9)
            replace U := Lib.hid (U.out.grow b9)
            replace N := Lib.hid (N.out.grow b9)
            replace M := Lib.hid (M.out.grow b9)
            replace BB := Lib.hid (BB.out.trans (b9.mono BB.out.size))
            clear b9
            go_wp2_with fail
            go_ret
            exact ⟨by first | rfl | (simp; done) | (simp; omega), BB.out⟩

set_option maxRecDepth 100000 in
theorem lifted (os : Os) (started : os.Started) (H : Type) (enc : TypeId × Value → H) :
    ReturnsInHanded {} Try.checked os 7 .any (Rows.fnMatchMostSpec.pre6 enc Try.prog Try.f7 Rows.fnMatchMostRow.domain false) (Rows.fnMatchMostSpec.post enc Try.prog Try.f7 false true false false) := by
  refine returnsInHanded_of_change (C := Try.checked) own started (by kernel_rfl) Try.func7
    (ChangeSpec.witness6 (enc := enc) (C := Try.checked) false ⟨#[], #[.slice none 0 0], []⟩ 8 (by kernel_rfl) (by kernel_rfl) (by kernel_rfl) (by kernel_rfl)) ?_
  intro W base args ds gs before hval0 hW hcnd _
  have hval : ∀ (j : Nat) t v, Try.f7.params[j]? = some t → args[j]? = some v → Value.okWide Try.prog W .any base t v := hval0
  have hW' := hW
  obtain ⟨p, q, hA0, hV, rfl, hfz, hnd⟩ := hW
  have hA : DataW.TrodAll enc Try.prog W 0 (fun _ => true) true Try.f7.params.toList args.toList ds p := hA0
  rw [Try.params7] at hA hval
  obtain ⟨v0, vs0, d0, ds0, p0, q0, hargs, rfl, rfl, h0, r0⟩ := trodAll_cons hA
  obtain ⟨rfl, rfl, rfl⟩ := trodAll_nil r0
  obtain rfl : args = #[v0] := by cases args; simp_all
  obtain ⟨rfl, rfl⟩ := trodVars_none hV
  obtain ⟨a0, len0, cap0, rfl⟩ := okWide_slice Try.underlying22 (hval 0 22 v0 rfl rfl)
  have k0 := h0
  have lt0 : ∀ x ∈ p0, x.block < W.heap.size := by obtain ⟨m, hm⟩ := k0; exact DataW.trod_lt m _ _ _ hm
  obtain ⟨z0, w0⟩ : ∃ zs, IsRow .u8 W a0 len0 cap0 zs := by
    obtain ⟨fuel, hf⟩ := h0
    rcases open_ints Try.underlying22 Try.underlying5 (by kernel_rfl) hf with ⟨hcs, _⟩ | ⟨x, l, c, zs, hcs, _, hl, hm, hz, _, hcell, hwz⟩
    · simp [Value.cells] at hcs
      obtain ⟨rfl, rfl, rfl⟩ := hcs
      exact ⟨[], .inl ⟨rfl, rfl, rfl, rfl⟩⟩
    · simp [Value.cells] at hcs
      obtain ⟨rfl, rfl, rfl⟩ := hcs
      exact ⟨zs, .inr ⟨_, rfl, hl, hm, by simpa using hz, hcell, hwz⟩⟩
  clear hA0 hval0
  refine (walk a0 len0 cap0 z0 W w0).mono fun e W' ⟨he, bel⟩ => ?_
  subst he
  exact ⟨_, rfl, _, _, _, [], _, [], hW', trodAll_mk1 (shut_bool Try.underlying4 _), (trodAll_cons_mk (Below.trod laidOut (by kernel_rfl) (of_decide_eq_true (by kernel_rfl)) k0 bel lt0) trodAll_mk0), rfl, bel.frame _, fun h => by cases h⟩

theorem over : Rows.fnMatchMostRow.holds Try.pinned (OpenSpec.ofChange Rows.fnMatchMostSpec) :=
  OpenClaim.holds_of_wide 7 Try.f7 rfl rfl rfl rfl rfl rfl rfl ⟨rfl, rfl, rfl, rfl, rfl⟩ rfl rfl rfl rfl rfl (by kernel_rfl) Try.func7 (by kernel_rfl)
    (of_decide_eq_true (by kernel_rfl)) (by unfold Func.isWrapper; first | (rw [if_pos (by decide +kernel)]; kernel_rfl) | (rw [if_neg (by decide +kernel)]; exact ⟨rfl, rfl⟩))
    (fun os started H enc _ => lifted os started H enc)

/-- ████ THE STATEMENT ████ -/
theorem proved : Rows.FnMatchMostSaid := over
#print axioms proved
end Go.Proofs.Ytmibipnkjpkngaa.fnMatchMost
