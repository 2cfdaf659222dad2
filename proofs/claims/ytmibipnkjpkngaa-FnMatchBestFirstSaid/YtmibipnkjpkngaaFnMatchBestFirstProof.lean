/- For every input, the law FnMatchBestFirst of the given statements returns true over the program at this commit, and its arguments read afterwards as before: no condition. -/
import Derived.Test.YtmibipnkjpkngaaRows
import Derived.Test.YtmibipnkjpkngaaLawE
import Derived.WalkKit
import Derived.ProofKit
import Derived.OpenShut
import Derived.ShutString
import Derived.ChangeOld
import Derived.Below
namespace Go.Proofs.Ytmibipnkjpkngaa.fnMatchBestFirst
open Go.ChangeShapes Go.WideShapes Go.ChangeAt Go.RowKit
open Go.ChangeMaps (open_string shut_string)
set_option linter.unusedVariables false

theorem own : ownKnob Try.prog.godebug = none := by kernel_rfl
theorem laidOut : laidOutB Try.prog = true := by kernel_rfl

/-- WHAT THE WALK IS TOLD OF A SLICE OF INTEGERS THAT CAME IN: it is nil; or it leads to a row of 'cap' cells, the numbers 'zs' (the first 'len' are its elements, the rest its spare room), each fitting its kind. -/
def IsRow (k : IntKind) (w : World) (a : Option Addr) (len cap : Nat) (zs : List Int) : Prop :=
  (a = none ∧ len = 0 ∧ cap = 0 ∧ zs = []) ∨
  ∃ x, a = some x ∧ len ≤ cap ∧ cap ≤ maxLen ∧ zs.length = cap ∧ (∀ i, i < zs.length → w.cell? (x.add i) = some (.int k (zs.getD i 0))) ∧ ∀ n ∈ zs, (Lit.int k n).wf = true

set_option maxRecDepth 100000 in
set_option maxHeartbeats 3200000 in
theorem walk (a0 : Option Addr) (len0 cap0 : Nat) (z0 : List Int) (w : World) (w0 : IsRow .u8 w a0 len0 cap0 z0) :
    Calls Try.prog 11 #[.slice a0 len0 cap0] w fun e w' => e = .returned (.bool true) ∧ Below w.heap.size w w' := by
  have hB := bytes_of w0
  by_cases hl : 1048576 < len0
  · have hdec : decide (1048576 < len0) = true := by simpa using hl
    go_enter Try.func11, Try.ntmps11
    go_wp2_with fail
    go_ret
    exact ⟨rfl, Below.refl _ _⟩
  have hdec : decide (1048576 < len0) = false := by simpa using hl
  have hm : len0 ≤ 1048576 := by omega
  go_enter Try.func11, Try.ntmps11
  go_wp2_with fail
  refine (DrawMatchBest_any hB).mono ?_
  rintro e wv1 ⟨v, u, a, b, t, rfl, r0, r1, da, db, ht, b1⟩
  clear w0 hB
  have BB := Lib.hid b1
  clear b1
  have R := Lib.hid r0
  clear r0
  have U := Lib.hid r1
  clear r1
  have ha6 := da.1
  have hb6 := db.1
  obtain ⟨aR, cR, rfl, kR, mR⟩ := elen_n R.out
  obtain ⟨aU, cU, rfl, kU, mU⟩ := elen_n U.out
  cases hb : argsOk a b t
  · have HB := Lib.hid (bestEB_no hb)
    clear hb
    go_wp2_with fail
    refine (bestI_no R.out U.out HB.out).mono ?_
    rintro e wv2 ⟨vX, rfl, o9, b9⟩
    replace R := Lib.hid (R.out.grow b9)
    replace U := Lib.hid (U.out.grow b9)
    replace BB := Lib.hid (BB.out.trans (b9.mono BB.out.size))
    clear b9
    have X := Lib.hid o9
    clear o9
    go_wp2_with fail
    refine (bestS_no R.out U.out HB.out).mono ?_
    rintro e wv3 ⟨vY, rfl, o9, b9⟩
    replace R := Lib.hid (R.out.grow b9)
    replace U := Lib.hid (U.out.grow b9)
    replace X := Lib.hid (X.out.grow b9)
    replace BB := Lib.hid (BB.out.trans (b9.mono BB.out.size))
    clear b9
    have Y := Lib.hid o9
    clear o9
    go_wp2_with fail
    refine (isame_yes X.out.row Y.out.row rfl).mono ?_
    rintro e wv4 ⟨rfl, b9⟩
    replace R := Lib.hid (R.out.grow b9)
    replace U := Lib.hid (U.out.grow b9)
    replace X := Lib.hid (X.out.grow b9)
    replace Y := Lib.hid (Y.out.grow b9)
    replace BB := Lib.hid (BB.out.trans (b9.mono BB.out.size))
    clear b9
    go_wp2_with fail
    refine (isame_yes X.out.row Y.out.row rfl).mono ?_
    rintro e wv5 ⟨rfl, b9⟩
    replace R := Lib.hid (R.out.grow b9)
    replace U := Lib.hid (U.out.grow b9)
    replace X := Lib.hid (X.out.grow b9)
    replace Y := Lib.hid (Y.out.grow b9)
    replace BB := Lib.hid (BB.out.trans (b9.mono BB.out.size))
    clear b9
    go_wp2_with fail
    go_ret
    exact ⟨by first | rfl | (simp; done) | (simp; omega), BB.out⟩
  · have HA := Lib.hid hb
    have HB := Lib.hid (bestEB_yes hb)
    obtain ⟨m, hm⟩ : ∃ m, bestM t (sizes a) (sizes b) 0 = m := ⟨_, rfl⟩
    have hml : m.length = a.length := by rw [← hm, bestM_length, sizes_length]
    have HM := Lib.hid hm
    rw [hm] at HB
    have a8 := isEv_len (argsOk_iff.1 hb).1
    have b8 := isEv_len (argsOk_iff.1 hb).2.1
    have HL := Lib.hid hml
    have hm6 : m.length ≤ 6 := by omega
    clear hb hm hml
    go_wp2_with fail
    refine (bestI_yes R.out U.out HB.out).mono ?_
    rintro e wv2 ⟨vP, rfl, o9, b9⟩
    replace R := Lib.hid (R.out.grow b9)
    replace U := Lib.hid (U.out.grow b9)
    replace BB := Lib.hid (BB.out.trans (b9.mono BB.out.size))
    clear b9
    have P := Lib.hid o9
    clear o9
    go_wp2_with fail
    refine (bestS_yes R.out U.out HB.out).mono ?_
    rintro e wv3 ⟨vY, rfl, o9, b9⟩
    replace R := Lib.hid (R.out.grow b9)
    replace U := Lib.hid (U.out.grow b9)
    replace P := Lib.hid (P.out.grow b9)
    replace BB := Lib.hid (BB.out.trans (b9.mono BB.out.size))
    clear b9
    have Y := Lib.hid o9
    clear o9
    go_wp2_with fail
    refine (isame_yes P.out.row Y.out.row rfl).mono ?_
    rintro e wv4 ⟨rfl, b9⟩
    replace R := Lib.hid (R.out.grow b9)
    replace U := Lib.hid (U.out.grow b9)
    replace P := Lib.hid (P.out.grow b9)
    replace Y := Lib.hid (Y.out.grow b9)
    replace BB := Lib.hid (BB.out.trans (b9.mono BB.out.size))
    clear b9
    clear Y
    obtain ⟨va, vb, _⟩ := argsOk_iff.1 HA.out
    have ms := best_small (tol := t) va vb
    rw [HM.out] at ms
    have MS := Lib.hid ms
    clear va vb ms
    obtain ⟨aP, cP, rfl, kP, mP⟩ := len_n P.out.row
    go_wp2_with fail
    go_loopg [10] m.length (fun k x wr => ∃ j : Nat, x = .int .i64 j ∧ j + k = m.length ∧ Below wv4.heap.size wv4 wr)
    case atStart => exact ⟨0, rfl, by omega, Below.refl _ _⟩
    case round =>
      obtain ⟨wv5, rfl⟩ : ∃ x, x = wr := ⟨wr, rfl⟩
      obtain ⟨j, rfl, hk, hb⟩ := hrel
      have K := Lib.hid hk; have B := Lib.hid hb
      have hjn : j ≤ m.length := by omega
      obtain ⟨g1, rfl⟩ : ∃ g, g = gk := ⟨_, rfl⟩
      clear hk hb
      replace R := Lib.hid (R.out.grow B.out)
      replace U := Lib.hid (U.out.grow B.out)
      replace P := Lib.hid (P.out.grow B.out)
      replace BB := Lib.hid (BB.out.trans (B.out.mono BB.out.size))
      by_cases hlt : j < m.length
      · have i1 : (j : Int) < (m.length : Int) := by omega
        have i2 : (0 : Int) ≤ (j : Int) := by omega
        go_wp2_with fail
        go_loopg [11, 12] j (fun k y x wr => ∃ (q : Nat) (la : Int), y = .int .i64 la ∧ x = .int .i64 q ∧ q + k = j ∧ -1 ≤ la ∧ la ≤ 20 ∧ Below wv5.heap.size wv5 wr)
        case atStart => exact ⟨0, -1, rfl, rfl, by omega, by omega, by omega, Below.refl _ _⟩
        case round =>
          obtain ⟨wv6, rfl⟩ : ∃ x, x = wr := ⟨wr, rfl⟩
          obtain ⟨q, la, rfl, rfl, hk, la1, la2, hb⟩ := hrel
          have K2 := Lib.hid hk; have B2 := Lib.hid hb
          have hqn : q ≤ j := by omega
          clear hk hb
          replace R := Lib.hid (R.out.grow B2.out)
          replace U := Lib.hid (U.out.grow B2.out)
          replace P := Lib.hid (P.out.grow B2.out)
          replace BB := Lib.hid (BB.out.trans (B2.out.mono BB.out.size))
          have BO := Lib.hid (B.out.trans (B2.out.mono B.out.size))
          obtain ⟨gP, pP, eP, k5, k6, k7, k8, hp⟩ := P.out.at (by omega)
          simp only [Value.slice.injEq] at eP
          obtain ⟨rfl, hcl, rfl⟩ := eP
          have c0 := (hp j hlt).cell
          have HP := Lib.hid hp
          clear hcl k5 k6 k7 k8 hp
          by_cases hlq : q < j
          · have hqm : q < m.length := by omega
            have d0 := (HP.out q hqm).cell
            have mg := MS.out.get q hqm
            obtain ⟨x, hx⟩ : ∃ x, m[q] = x := ⟨_, rfl⟩
            rw [hx] at d0 mg
            have i3 : (q : Int) < (j : Int) := by omega
            have i4 : (0 : Int) ≤ (q : Int) := by omega
            have i5 : (q : Int) < (m.length : Int) := by omega
            obtain ⟨z, hz1, hz2, hz3, hz4⟩ : ∃ z : Int, (if x < la then la else x) = z ∧ (if la < x then x else la) = z ∧ -1 ≤ z ∧ z ≤ 20 := by
              by_cases c : x < la
              · exact ⟨la, by rw [if_pos c], by rw [if_neg (by omega)], by omega, by omega⟩
              · by_cases d : la < x
                · exact ⟨x, by rw [if_neg c], by rw [if_pos d], by omega, by omega⟩
                · exact ⟨la, by rw [if_neg c]; omega, by rw [if_neg d], by omega, by omega⟩
            clear hx c0
            go_wp2_with fail
            go_roundg (gk - 1)
            case measure => have := K2.out; omega
            case rel => exact ⟨q + 1, z, by first | rfl | (rw [hz1]) | (rw [hz2]), by go_num, by have := K2.out; omega, hz3, hz4, B2.out⟩
          · have i3 : ¬ (q : Int) < (j : Int) := by omega
            obtain ⟨hi, hh⟩ : ∃ x, m[j] = x := ⟨_, rfl⟩
            have mg := MS.out.get j hlt
            rw [hh] at c0 mg
            have HH := Lib.hid hh
            have w1 : IntKind.i64.wrap (la + 1) = la + 1 := IntWalk.i64_in _ (by omega)
            clear hh
            by_cases hneg : hi < 0
            · skip
              go_wp2_with fail
              go_roundg (g1 - 1)
              case measure => have := K.out; omega
              case rel => exact ⟨j + 1, by go_num, by have := K.out; omega, BO.out⟩
            · obtain ⟨l1, hl1⟩ : ∃ x, la + 1 = x := ⟨_, rfl⟩
              rw [hl1] at w1
              have l10 : 0 ≤ l1 := by omega
              have l11 : l1 ≤ 21 := by omega
              have hneg2 : 0 ≤ hi := by omega
              have HL1 := Lib.hid hl1
              clear hl1
              go_wp2_with fail
              go_loopg [14] (hi - l1).toNat (fun k x wr => ∃ q : Int, x = .int .i64 q ∧ 0 ≤ q ∧ q ≤ 21 ∧ (hi - q).toNat = k ∧ Below wv6.heap.size wv6 wr)
              case atStart => exact ⟨l1, by rw [HL1.out], l10, l11, rfl, Below.refl _ _⟩
              case round =>
                obtain ⟨wv7, rfl⟩ : ∃ x, x = wr := ⟨wr, rfl⟩
                obtain ⟨q2, rfl, q20, q21, hk, hb⟩ := hrel
                have K3 := Lib.hid hk; have B3 := Lib.hid hb
                clear hk hb c0 HP
                replace R := Lib.hid (R.out.grow B3.out)
                replace U := Lib.hid (U.out.grow B3.out)
                replace P := Lib.hid (P.out.grow B3.out)
                replace BB := Lib.hid (BB.out.trans (B3.out.mono BB.out.size))
                have BP := Lib.hid (BO.out.trans (B3.out.mono BO.out.size))
                by_cases hl3 : q2 < hi
                · have NO : Hid (okB a b t (m.set j q2) = false) := Lib.hid (by
                    have h := @best_first a b t j q2 q20 (by rw [HM.out]; exact hlt) (by simp only [HM.out]; rw [HH.out]; exact hl3)
                    rwa [HM.out] at h)
                  have wq : IntKind.i64.wrap (q2 + 1) = q2 + 1 := IntWalk.i64_in _ (by omega)
                  have EA := Lib.hid (iown_new (Nat.le_refl wv7.heap.size))
                  have BA := Lib.hid ((Below.refl wv7.heap.size wv7).alloc (Nat.le_refl _) (.cells #[] 3))
                  have TA := Lib.hid (rests_row (P.out.row.grow BA.out))
                  go_wp2_with (at_builtin; refine iappend_list_g intT' (by first | rfl | kernel_rfl) _ _ rfl (B := wv7.heap.size) _ [] rfl EA.out ⟨gP, 0, none⟩ m.length cP m rfl rfl TA.out (by simp; omega) (by simp) ?_; intro v5 w5 hown5 hg5; rw [List.nil_append] at hown5; have O5 := Lib.hid hown5; have B5 : Hid (Below wv7.heap.size wv7 w5) := Lib.hid (Below.grown BA.out hg5 BA.out.size (fun k hk => Nat.le_of_eq (Option.some.inj hk))); clear hown5 hg5; obtain ⟨gX, pX, rfl, k5, k6, k7, k8, hp⟩ := O5.out.at (by omega); have d0 := (hp j hlt).cell; have f0 := (hp j hlt).froz; have st := (hp j hlt).set q2; have ST := Lib.hid st; have BS := Lib.hid (B5.out.setCell (p := ⟨gX, j, none⟩) k7 (.int .i64 q2)); unfold maxLen at k6; clear hp st)
                  go_wp2_with fail
                  refine (okI_is (R.out.grow BS.out) (U.out.grow BS.out) ST.out.row NO.out).mono ?_
                  rintro e w9 ⟨rfl, b9⟩
                  have B9 := Lib.hid (B3.out.trans ((BS.out.trans (b9.mono BS.out.size)).mono B3.out.size))
                  clear b9
                  go_wp2_with fail
                  go_roundg (gk - 1)
                  case measure => have := K3.out; omega
                  case rel => exact ⟨q2 + 1, by first | rfl | go_num, by omega, by omega, by have := K3.out; omega, B9.out⟩
                · have hl4 : ¬ q2 < hi := hl3
                  go_wp2_with fail
                  go_roundg (g1 - 1)
                  case measure => have := K.out; omega
                  case rel => exact ⟨j + 1, by go_num, by have := K.out; omega, BP.out⟩
      · have ml : (m.length : Int) = (a.length : Int) := by have := HL.out; omega
        go_wp2_with fail
        go_ret
        exact ⟨by first | rfl | (simp; done) | (simp; omega), BB.out⟩

set_option maxRecDepth 100000 in
theorem lifted (os : Os) (started : os.Started) (H : Type) (enc : TypeId × Value → H) :
    ReturnsInHanded {} Try.checked os 11 .any (Rows.fnMatchBestFirstSpec.pre6 enc Try.prog Try.f11 Rows.fnMatchBestFirstRow.domain false) (Rows.fnMatchBestFirstSpec.post enc Try.prog Try.f11 false true false false) := by
  refine returnsInHanded_of_change (C := Try.checked) own started (by kernel_rfl) Try.func11
    (ChangeSpec.witness6 (enc := enc) (C := Try.checked) false ⟨#[], #[.slice none 0 0], []⟩ 8 (by kernel_rfl) (by kernel_rfl) (by kernel_rfl) (by kernel_rfl)) ?_
  intro W base args ds gs before hval0 hW hcnd _
  have hval : ∀ (j : Nat) t v, Try.f11.params[j]? = some t → args[j]? = some v → Value.okWide Try.prog W .any base t v := hval0
  have hW' := hW
  obtain ⟨p, q, hA0, hV, rfl, hfz, hnd⟩ := hW
  have hA : DataW.TrodAll enc Try.prog W 0 (fun _ => true) true Try.f11.params.toList args.toList ds p := hA0
  rw [Try.params11] at hA hval
  obtain ⟨v0, vs0, d0, ds0, p0, q0, hargs, rfl, rfl, h0, r0⟩ := trodAll_cons hA
  obtain ⟨rfl, rfl, rfl⟩ := trodAll_nil r0
  obtain rfl : args = #[v0] := by cases args; simp_all
  obtain ⟨rfl, rfl⟩ := trodVars_none hV
  obtain ⟨a0, len0, cap0, rfl⟩ := okWide_slice Try.underlying22 (hval 0 22 v0 rfl rfl)
  have k0 := h0
  have lt0 : ∀ x ∈ p0, x.block < W.heap.size := by obtain ⟨m, hm⟩ := k0; exact DataW.trod_lt m _ _ _ hm
  obtain ⟨z0, w0⟩ : ∃ zs, IsRow .u8 W a0 len0 cap0 zs := by
    obtain ⟨fuel, hf⟩ := h0
    rcases open_ints Try.underlying22 Try.underlying5 (by kernel_rfl) hf with ⟨hcs, _⟩ | ⟨x, l, c, zs, hcs, _, hl, hm, hz, _, hcell, hwz⟩
    · simp [Value.cells] at hcs
      obtain ⟨rfl, rfl, rfl⟩ := hcs
      exact ⟨[], .inl ⟨rfl, rfl, rfl, rfl⟩⟩
    · simp [Value.cells] at hcs
      obtain ⟨rfl, rfl, rfl⟩ := hcs
      exact ⟨zs, .inr ⟨_, rfl, hl, hm, by simpa using hz, hcell, hwz⟩⟩
  clear hA0 hval0
  refine (walk a0 len0 cap0 z0 W w0).mono fun e W' ⟨he, bel⟩ => ?_
  subst he
  exact ⟨_, rfl, _, _, _, [], _, [], hW', trodAll_mk1 (shut_bool Try.underlying4 _), (trodAll_cons_mk (Below.trod laidOut (by kernel_rfl) (of_decide_eq_true (by kernel_rfl)) k0 bel lt0) trodAll_mk0), rfl, bel.frame _, fun h => by cases h⟩

theorem over : Rows.fnMatchBestFirstRow.holds Try.pinned (OpenSpec.ofChange Rows.fnMatchBestFirstSpec) :=
  OpenClaim.holds_of_wide 11 Try.f11 rfl rfl rfl rfl rfl rfl rfl ⟨rfl, rfl, rfl, rfl, rfl⟩ rfl rfl rfl rfl rfl (by kernel_rfl) Try.func11 (by kernel_rfl)
    (of_decide_eq_true (by kernel_rfl)) (by unfold Func.isWrapper; first | (rw [if_pos (by decide +kernel)]; kernel_rfl) | (rw [if_neg (by decide +kernel)]; exact ⟨rfl, rfl⟩))
    (fun os started H enc _ => lifted os started H enc)

/-- ████ THE STATEMENT ████ -/
theorem proved : Rows.FnMatchBestFirstSaid := over
#print axioms proved
end Go.Proofs.Ytmibipnkjpkngaa.fnMatchBestFirst
