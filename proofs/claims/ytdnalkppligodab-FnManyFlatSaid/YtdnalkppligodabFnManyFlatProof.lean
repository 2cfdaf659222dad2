/- For every input, the law FnManyFlat of the given statements returns true over the program at this commit, and its arguments read afterwards as before: no condition. -/
import Derived.Test.YtdnalkppligodabRows
import Derived.Test.YtdnalkppligodabLawS2
import Derived.WalkKit
import Derived.ProofKit
import Derived.OpenShut
import Derived.ShutString
import Derived.ChangeOld
import Derived.Below
namespace Go.Proofs.Ytdnalkppligodab.fnManyFlat
open Go.ChangeShapes Go.WideShapes Go.ChangeAt Go.RowKit
open Go.ChangeMaps (open_string shut_string)
set_option linter.unusedVariables false

theorem own : ownKnob Try.prog.godebug = none := by kernel_rfl
theorem laidOut : laidOutB Try.prog = true := by kernel_rfl

/-- WHAT THE WALK IS TOLD OF A SLICE OF INTEGERS THAT CAME IN: it is nil; or it leads to a row of 'cap' cells, the numbers 'zs' (the first 'len' are its elements, the rest its spare room), each fitting its kind. -/
def IsRow (k : IntKind) (w : World) (a : Option Addr) (len cap : Nat) (zs : List Int) : Prop :=
  (a = none ∧ len = 0 ∧ cap = 0 ∧ zs = []) ∨
  ∃ x, a = some x ∧ len ≤ cap ∧ cap ≤ maxLen ∧ zs.length = cap ∧ (∀ i, i < zs.length → w.cell? (x.add i) = some (.int k (zs.getD i 0))) ∧ ∀ n ∈ zs, (Lit.int k n).wf = true

set_option maxRecDepth 100000 in
set_option maxHeartbeats 3200000 in
theorem walk (a0 : Option Addr) (len0 cap0 : Nat) (z0 : List Int) (w : World) (w0 : IsRow .u8 w a0 len0 cap0 z0) :
    Calls Try.prog 7 #[.slice a0 len0 cap0] w fun e w' => e = .returned (.bool true) ∧ Below w.heap.size w w' := by
  have hB := bytes_of w0
  by_cases hl : 1048576 < len0
  · have hdec : decide (1048576 < len0) = true := by simpa using hl
    go_enter Try.func7, Try.ntmps7
    go_wp2_with fail
    go_ret
    exact ⟨rfl, Below.refl _ _⟩
  have hdec : decide (1048576 < len0) = false := by simpa using hl
  have hm : len0 ≤ 1048576 := by omega
  go_enter Try.func7, Try.ntmps7
  go_wp2_with fail
  refine (DrawSmoothMany_any hB).mono ?_
  rintro e wv1 ⟨v, l, n, rfl, r0, b1⟩
  clear w0 hB
  have BB := Lib.hid b1
  clear b1
  have R := Lib.hid r0
  clear r0
  cases ho : manyOf l n with
  | none =>
    have HO := Lib.hid ho
    clear ho
    go_wp2_with fail
    refine (manyI_no R.out HO.out).mono ?_
    rintro e wv2 ⟨vX, rfl, o9, b9⟩
    replace R := Lib.hid (R.out.grow b9)
    replace BB := Lib.hid (BB.out.trans (b9.mono BB.out.size))
    clear b9
    have X := Lib.hid o9
    clear o9
    go_wp2_with fail
    refine (manyS_no R.out HO.out).mono ?_
    rintro e wv3 ⟨vY, rfl, o9, b9⟩
    replace R := Lib.hid (R.out.grow b9)
    replace X := Lib.hid (X.out.grow b9)
    replace BB := Lib.hid (BB.out.trans (b9.mono BB.out.size))
    clear b9
    have Y := Lib.hid o9
    clear o9
    go_wp2_with fail
    refine (isame_yes X.out.row Y.out.row rfl).mono ?_
    rintro e wv4 ⟨rfl, b9⟩
    replace R := Lib.hid (R.out.grow b9)
    replace X := Lib.hid (X.out.grow b9)
    replace Y := Lib.hid (Y.out.grow b9)
    replace BB := Lib.hid (BB.out.trans (b9.mono BB.out.size))
    clear b9
    go_wp2_with fail
    refine (isame_yes X.out.row Y.out.row rfl).mono ?_
    rintro e wv5 ⟨rfl, b9⟩
    replace R := Lib.hid (R.out.grow b9)
    replace X := Lib.hid (X.out.grow b9)
    replace Y := Lib.hid (Y.out.grow b9)
    replace BB := Lib.hid (BB.out.trans (b9.mono BB.out.size))
    clear b9
    go_wp2_with fail
    go_ret
    exact ⟨by first | rfl | (simp; done) | (simp; omega), BB.out⟩
  | some m =>
    obtain ⟨hr, t, rfl, ht8, rfl⟩ := many_is ho
    have HR := Lib.hid hr
    clear hr ho
    go_wp2_with fail
    refine (manyI_yes R.out HR.out ht8).mono ?_
    rintro e wv2 ⟨vP, rfl, o9, b9⟩
    replace R := Lib.hid (R.out.grow b9)
    replace BB := Lib.hid (BB.out.trans (b9.mono BB.out.size))
    clear b9
    have P := Lib.hid o9
    clear o9
    go_wp2_with fail
    refine (manyS_yes R.out HR.out ht8).mono ?_
    rintro e wv3 ⟨vY, rfl, o9, b9⟩
    replace R := Lib.hid (R.out.grow b9)
    replace P := Lib.hid (P.out.grow b9)
    replace BB := Lib.hid (BB.out.trans (b9.mono BB.out.size))
    clear b9
    have Y := Lib.hid o9
    clear o9
    go_wp2_with fail
    refine (isame_yes P.out.row Y.out.row rfl).mono ?_
    rintro e wv4 ⟨rfl, b9⟩
    replace R := Lib.hid (R.out.grow b9)
    replace P := Lib.hid (P.out.grow b9)
    replace Y := Lib.hid (Y.out.grow b9)
    replace BB := Lib.hid (BB.out.trans (b9.mono BB.out.size))
    clear b9
    clear Y
    have h1 := (isRow_iff.1 HR.out).1
    have h20 := (isRow_iff.1 HR.out).2.1
    obtain ⟨n, hn⟩ : ∃ n, l.length = n := ⟨_, rfl⟩
    rw [hn] at h1 h20
    have HN := Lib.hid hn
    clear hn
    obtain ⟨gR, pR, cR, rfl, kR, mR⟩ := known_n R.out HN.out (by omega)
    have HP : Hid ((passN t l).length = n) := Lib.hid (by rw [passN_length]; exact HN.out)
    have SP := Lib.hid (row_passN HR.out ht8)
    obtain ⟨gP, pP, cP, rfl, kP, mP⟩ := known_n P.out.row HP.out (by omega)
    have h0 : 0 < l.length := by rw [HN.out]; omega
    have b0 := (isRow_iff.1 HR.out).2.2 _ (List.getElem_mem h0)
    obtain ⟨z, hz⟩ : ∃ x : Int, l[0]'h0 = x := ⟨_, rfl⟩
    rw [hz] at b0
    have HZ := Lib.hid hz
    clear hz
    have i0 : (0 : Int) < (n : Int) := by omega
    have O9 := Lib.hid (iown_new (w := wv4) (Nat.le_refl wv4.heap.size))
    have A9 := Lib.hid ((Below.refl wv4.heap.size wv4).alloc (Nat.le_refl _) (.cells #[] 3))
    go_wp2_with fail
    go_loopg [9, 10] n (fun k y x wr => ∃ j : Nat, x = .int .i64 j ∧ j + k = n ∧ IOwn wr wv4.heap.size y (flat j z) ∧ Below wv4.heap.size wv4 wr)
    case atStart => exact ⟨0, rfl, by omega, by rw [show flat 0 z = [] from rfl]; exact O9.out, A9.out⟩
    case round =>
      obtain ⟨wv5, rfl⟩ : ∃ x, x = wr := ⟨wr, rfl⟩
      obtain ⟨j, rfl, hk, ho, hb⟩ := hrel
      have K := Lib.hid hk; have O := Lib.hid ho; have B := Lib.hid hb
      have hjn : j ≤ n := by omega
      have hz7 := hb.size
      clear hk ho hb O9 A9
      replace R := Lib.hid (R.out.grow B.out)
      replace P := Lib.hid (P.out.grow B.out)
      replace BB := Lib.hid (BB.out.trans (B.out.mono BB.out.size))
      by_cases hlt : j < n
      · have i1 : (j : Int) < (n : Int) := by omega
        have i2 : (0 : Int) ≤ (j : Int) := by omega
        have f0 := R.out.cells 0 h0
        rw [HZ.out] at f0
        simp only [Nat.add_zero] at f0
        have n1 := new_one wv5 (.int .i64 (z)) 3
        have N1 := Lib.hid n1
        have BW := Lib.hid ((Below.refl wv5.heap.size wv5).alloc (Nat.le_refl _) (.cells #[.int .i64 (z)] 3))
        have ST : Hid (flat j z ++ [z] = flat (j + 1) z) := Lib.hid (by simp only [flat]; rw [← List.replicate_succ'])
        clear n1
        go_wp2_with (at_builtin; refine iappend_one intT rfl _ _ rfl (B := wv4.heap.size) _ _ rfl (O.out.grow BW.out) ⟨wv5.heap.size, 0, none⟩ (z) rfl N1.out (by rw [show (flat j z).length = j by simp [flat]]; omega) (by simp; omega) ?_; intro v8 w8 hown8 hg8)
        rw [ST.out] at hown8
        have O8 := Lib.hid hown8
        have B8 := Lib.hid (B.out.trans ((BW.out.mono hz7).trans ((O.out.grow BW.out).below hg8 (by simp; omega))))
        clear hown8 hg8
        go_wp2_with fail
        go_roundg (gk - 1)
        case measure => have := K.out; omega
        case rel => exact ⟨j + 1, by go_num, by have := K.out; omega, O8.out, B8.out⟩
      · have hj : j = n := by omega
        have hd := O.out
        rw [hj] at hd
        clear hlt hz7
        have nlt : ¬ (j : Int) < (n : Int) := by omega
        have X := Lib.hid hd
        clear hd
        clear O
        have LX : Hid ((flat n z).length = n) := Lib.hid (by simp [flat])
        obtain ⟨gX, pX, cX, rfl, kX, mX⟩ := known_n X.out.row LX.out (by omega)
        go_wp2_with fail
        refine (manyI_yes X.out.row (row_flat (by omega) (by omega) b0) ht8).mono ?_
        rintro e wv6 ⟨vY, rfl, o9, b9⟩
        replace R := Lib.hid (R.out.grow b9)
        replace P := Lib.hid (P.out.grow b9)
        replace X := Lib.hid (X.out.grow b9)
        replace BB := Lib.hid (BB.out.trans (b9.mono BB.out.size))
        clear b9
        have Y := Lib.hid o9
        clear o9
        have LY : Hid ((passN t (flat n z)).length = n) := Lib.hid (by rw [passN_length, LX.out])
        obtain ⟨gY, pY, cY, rfl, kY, mY⟩ := known_n Y.out.row LY.out (by omega)
        have p1 := pw_mul ht8 (c := 10000) b0
        have z1 : IntKind.i64.wrap (pw t * z) = pw t * z := IntWalk.i64_in _ (by omega)
        go_wp2_with fail
        go_loopg [13, 14] t (fun k y x wr => ∃ j : Nat, y = .int .i64 (pw j) ∧ x = .int .i64 j ∧ j + k = t ∧ wv6 = wr)
        case atStart => exact ⟨0, rfl, rfl, by omega, rfl⟩
        case round =>
          obtain ⟨j, rfl, rfl, hk, rfl⟩ := hrel
          have K := Lib.hid hk
          have hjn : j ≤ t := by omega
          clear hk
          by_cases hlt : j < t
          · have i1 : (j : Int) < (t : Int) := by omega
            have z0 := pw_next j
            have z1 := pw_bound (k := j + 1) (by omega)
            have z2 : IntKind.i64.wrap (4 * pw j) = pw (j + 1) := by rw [z0]; exact IntWalk.i64_in _ (by omega)
            clear z0
            go_wp2_with fail
            go_roundg (gk - 1)
            case measure => have := K.out; omega
            case rel => exact ⟨j + 1, by first | rfl | (rw [z2]), by go_num, by have := K.out; omega, rfl⟩
          · have hj : t = j := by omega
            subst hj
            have nlt : ¬ (t : Int) < (t : Int) := by omega
            clear hlt K
            go_wp2_with fail
            go_loopg [15] n (fun k x wr => ∃ j : Nat, x = .int .i64 j ∧ j + k = n ∧ Below wv6.heap.size wv6 wr)
            case atStart => exact ⟨0, rfl, by omega, Below.refl _ _⟩
            case round =>
              obtain ⟨wv7, rfl⟩ : ∃ x, x = wr := ⟨wr, rfl⟩
              obtain ⟨j, rfl, hk, hb⟩ := hrel
              have K := Lib.hid hk; have B := Lib.hid hb
              have hjn : j ≤ n := by omega
              clear hk hb
              replace R := Lib.hid (R.out.grow B.out)
              replace P := Lib.hid (P.out.grow B.out)
              replace X := Lib.hid (X.out.grow B.out)
              replace Y := Lib.hid (Y.out.grow B.out)
              replace BB := Lib.hid (BB.out.trans (B.out.mono BB.out.size))
              by_cases hlt : j < n
              · have i1 : (j : Int) < (n : Int) := by omega
                have i2 : (0 : Int) ≤ (j : Int) := by omega
                have f0 := R.out.cells 0 h0
                rw [HZ.out] at f0
                simp only [Nat.add_zero] at f0
                have cq := Y.out.row.cells j (by rw [LY.out]; exact hlt)
                have pe : (passN t (flat n z))[j]'(by rw [LY.out]; exact hlt) = pw t * z := by simp only [passN_flat]; simp only [flat, List.getElem_replicate]; rfl
                rw [pe] at cq
                clear pe
                have t1 : ((pw t * z) != (pw t * z)) = false := by simp
                go_wp2_with fail
                go_quiet (fail)
                go_wp2_with fail
                go_roundg (gk - 1)
                case measure => have := K.out; omega
                case rel => exact ⟨j + 1, by go_num, by have := K.out; omega, below_drews B.out _⟩
              · have hj : j = n := by omega
                have nlt : ¬ (j : Int) < (n : Int) := by omega
                clear hlt
                by_cases one : n = 1
                · have FO := Lib.hid (flat_one (by rw [HN.out]; exact one) h0 HZ.out)
                  have FE : Hid (passN t (flat n z) = passN t l) := Lib.hid (by rw [one, ← FO.out])
                  have d1 : decide ((1 : Int) < (n : Int)) = false := by simp; omega
                  clear one
                  go_wp2_with fail
                  refine (isame_yes Y.out.row P.out.row FE.out).mono ?_
                  rintro e wv8 ⟨rfl, b9⟩
                  replace R := Lib.hid (R.out.grow b9)
                  replace P := Lib.hid (P.out.grow b9)
                  replace X := Lib.hid (X.out.grow b9)
                  replace Y := Lib.hid (Y.out.grow b9)
                  replace BB := Lib.hid (BB.out.trans (b9.mono BB.out.size))
                  clear b9
                  go_wp2_with fail
                  go_ret
                  exact ⟨by first | rfl | (simp; done) | (simp; omega), BB.out⟩
                · have d1 : decide ((1 : Int) < (n : Int)) = true := by simp; omega
                  clear one
                  go_wp2_with fail
                  go_ret
                  exact ⟨by first | rfl | (simp; done) | (simp; omega), BB.out⟩

set_option maxRecDepth 100000 in
theorem lifted (os : Os) (started : os.Started) (H : Type) (enc : TypeId × Value → H) :
    ReturnsInHanded {} Try.checked os 7 .any (Rows.fnManyFlatSpec.pre6 enc Try.prog Try.f7 Rows.fnManyFlatRow.domain false) (Rows.fnManyFlatSpec.post enc Try.prog Try.f7 false true false false) := by
  refine returnsInHanded_of_change (C := Try.checked) own started (by kernel_rfl) Try.func7
    (ChangeSpec.witness6 (enc := enc) (C := Try.checked) false ⟨#[], #[.slice none 0 0], []⟩ 8 (by kernel_rfl) (by kernel_rfl) (by kernel_rfl) (by kernel_rfl)) ?_
  intro W base args ds gs before hval0 hW hcnd _
  have hval : ∀ (j : Nat) t v, Try.f7.params[j]? = some t → args[j]? = some v → Value.okWide Try.prog W .any base t v := hval0
  have hW' := hW
  obtain ⟨p, q, hA0, hV, rfl, hfz, hnd⟩ := hW
  have hA : DataW.TrodAll enc Try.prog W 0 (fun _ => true) true Try.f7.params.toList args.toList ds p := hA0
  rw [Try.params7] at hA hval
  obtain ⟨v0, vs0, d0, ds0, p0, q0, hargs, rfl, rfl, h0, r0⟩ := trodAll_cons hA
  obtain ⟨rfl, rfl, rfl⟩ := trodAll_nil r0
  obtain rfl : args = #[v0] := by cases args; simp_all
  obtain ⟨rfl, rfl⟩ := trodVars_none hV
  obtain ⟨a0, len0, cap0, rfl⟩ := okWide_slice Try.underlying22 (hval 0 22 v0 rfl rfl)
  have k0 := h0
  have lt0 : ∀ x ∈ p0, x.block < W.heap.size := by obtain ⟨m, hm⟩ := k0; exact DataW.trod_lt m _ _ _ hm
  obtain ⟨z0, w0⟩ : ∃ zs, IsRow .u8 W a0 len0 cap0 zs := by
    obtain ⟨fuel, hf⟩ := h0
    rcases open_ints Try.underlying22 Try.underlying5 (by kernel_rfl) hf with ⟨hcs, _⟩ | ⟨x, l, c, zs, hcs, _, hl, hm, hz, _, hcell, hwz⟩
    · simp [Value.cells] at hcs
      obtain ⟨rfl, rfl, rfl⟩ := hcs
      exact ⟨[], .inl ⟨rfl, rfl, rfl, rfl⟩⟩
    · simp [Value.cells] at hcs
      obtain ⟨rfl, rfl, rfl⟩ := hcs
      exact ⟨zs, .inr ⟨_, rfl, hl, hm, by simpa using hz, hcell, hwz⟩⟩
  clear hA0 hval0
  refine (walk a0 len0 cap0 z0 W w0).mono fun e W' ⟨he, bel⟩ => ?_
  subst he
  exact ⟨_, rfl, _, _, _, [], _, [], hW', trodAll_mk1 (shut_bool Try.underlying4 _), (trodAll_cons_mk (Below.trod laidOut (by kernel_rfl) (of_decide_eq_true (by kernel_rfl)) k0 bel lt0) trodAll_mk0), rfl, bel.frame _, fun h => by cases h⟩

theorem over : Rows.fnManyFlatRow.holds Try.pinned (OpenSpec.ofChange Rows.fnManyFlatSpec) :=
  OpenClaim.holds_of_wide 7 Try.f7 rfl rfl rfl rfl rfl rfl rfl ⟨rfl, rfl, rfl, rfl, rfl⟩ rfl rfl rfl rfl rfl (by kernel_rfl) Try.func7 (by kernel_rfl)
    (of_decide_eq_true (by kernel_rfl)) (by unfold Func.isWrapper; first | (rw [if_pos (by decide +kernel)]; kernel_rfl) | (rw [if_neg (by decide +kernel)]; exact ⟨rfl, rfl⟩))
    (fun os started H enc _ => lifted os started H enc)

/-- ████ THE STATEMENT ████ -/
theorem proved : Rows.FnManyFlatSaid := over
#print axioms proved
end Go.Proofs.Ytdnalkppligodab.fnManyFlat
