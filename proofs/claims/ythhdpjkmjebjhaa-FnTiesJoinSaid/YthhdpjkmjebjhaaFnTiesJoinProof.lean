/- For every input, the law FnTiesJoin of the given statements returns true over the program at this commit, and its arguments read afterwards as before: no condition. -/
import Derived.Test.YthhdpjkmjebjhaaRows
import Derived.Test.YthhdpjkmjebjhaaLawT
import Derived.WalkKit
import Derived.ProofKit
import Derived.OpenShut
import Derived.ShutString
import Derived.ChangeOld
import Derived.Below
namespace Go.Proofs.Ythhdpjkmjebjhaa.fnTiesJoin
open Go.ChangeShapes Go.WideShapes Go.ChangeAt Go.RowKit
open Go.ChangeMaps (open_string shut_string)
set_option linter.unusedVariables false

theorem own : ownKnob Try.prog.godebug = none := by kernel_rfl
theorem laidOut : laidOutB Try.prog = true := by kernel_rfl

/-- WHAT THE WALK IS TOLD OF A SLICE OF INTEGERS THAT CAME IN: it is nil; or it leads to a row of 'cap' cells, the numbers 'zs' (the first 'len' are its elements, the rest its spare room), each fitting its kind. -/
def IsRow (k : IntKind) (w : World) (a : Option Addr) (len cap : Nat) (zs : List Int) : Prop :=
  (a = none ∧ len = 0 ∧ cap = 0 ∧ zs = []) ∨
  ∃ x, a = some x ∧ len ≤ cap ∧ cap ≤ maxLen ∧ zs.length = cap ∧ (∀ i, i < zs.length → w.cell? (x.add i) = some (.int k (zs.getD i 0))) ∧ ∀ n ∈ zs, (Lit.int k n).wf = true

set_option maxRecDepth 100000 in
set_option maxHeartbeats 3200000 in
theorem walk (a0 : Option Addr) (len0 cap0 : Nat) (z0 : List Int) (w : World) (w0 : IsRow .u8 w a0 len0 cap0 z0) :
    Calls Try.prog 7 #[.slice a0 len0 cap0] w fun e w' => e = .returned (.bool true) ∧ Below w.heap.size w w' := by
  have hB := bytes_of w0
  by_cases hl : 1048576 < len0
  · have hdec : decide (1048576 < len0) = true := by simpa using hl
    go_enter Try.func7, Try.ntmps7
    go_wp2_with fail
    go_ret
    exact ⟨rfl, Below.refl _ _⟩
  have hdec : decide (1048576 < len0) = false := by simpa using hl
  have hm : len0 ≤ 1048576 := by omega
  go_enter Try.func7, Try.ntmps7
  go_wp2_with fail
  refine (DrawTiesJoin_any hB).mono ?_
  rintro e wv1 ⟨v, u, a, b, rfl, r0, r1, da, db, b1⟩
  clear w0 hB
  have BB := Lib.hid b1
  clear b1
  have R := Lib.hid r0
  clear r0
  have U := Lib.hid r1
  clear r1
  have ha8 := da.1
  have hb8 := db.1
  obtain ⟨aR, cR, rfl, kR, mR⟩ := tlen_n R.out.row
  obtain ⟨aU, cU, rfl, kU, mU⟩ := tlen_n U.out.row
  clear da db
  cases hb : joinT a b with
  | none =>
    have HB := Lib.hid hb
    clear hb
    go_wp2_with fail
    refine (lst_no (implJoin_any R.out.row U.out.row) HB.out).mono ?_
    rintro e wv2 ⟨vX, rfl, o9, b9⟩
    replace R := Lib.hid (R.out.grow b9)
    replace U := Lib.hid (U.out.grow b9)
    replace BB := Lib.hid (BB.out.trans (b9.mono BB.out.size))
    clear b9
    have X := Lib.hid o9
    clear o9
    go_wp2_with fail
    refine (lst_no (specJoin_any R.out.row U.out.row) HB.out).mono ?_
    rintro e wv3 ⟨vY, rfl, o9, b9⟩
    replace R := Lib.hid (R.out.grow b9)
    replace U := Lib.hid (U.out.grow b9)
    replace X := Lib.hid (X.out.grow b9)
    replace BB := Lib.hid (BB.out.trans (b9.mono BB.out.size))
    clear b9
    have Y := Lib.hid o9
    clear o9
    go_wp2_with fail
    refine (sameTies_yes X.out.row Y.out.row rfl).mono ?_
    rintro e wv4 ⟨rfl, b9⟩
    replace R := Lib.hid (R.out.grow b9)
    replace U := Lib.hid (U.out.grow b9)
    replace X := Lib.hid (X.out.grow b9)
    replace Y := Lib.hid (Y.out.grow b9)
    replace BB := Lib.hid (BB.out.trans (b9.mono BB.out.size))
    clear b9
    go_wp2_with fail
    refine (sameTies_yes X.out.row Y.out.row rfl).mono ?_
    rintro e wv5 ⟨rfl, b9⟩
    replace R := Lib.hid (R.out.grow b9)
    replace U := Lib.hid (U.out.grow b9)
    replace X := Lib.hid (X.out.grow b9)
    replace Y := Lib.hid (Y.out.grow b9)
    replace BB := Lib.hid (BB.out.trans (b9.mono BB.out.size))
    clear b9
    go_wp2_with fail
    go_ret
    exact ⟨by first | rfl | (simp; done) | (simp; omega), BB.out⟩
  | some m =>
    have HB := Lib.hid hb
    clear hb
    go_wp2_with fail
    refine (lst_yes (implJoin_any R.out.row U.out.row) HB.out).mono ?_
    rintro e wv2 ⟨vP, rfl, o9, b9⟩
    replace R := Lib.hid (R.out.grow b9)
    replace U := Lib.hid (U.out.grow b9)
    replace BB := Lib.hid (BB.out.trans (b9.mono BB.out.size))
    clear b9
    have P := Lib.hid o9
    clear o9
    go_wp2_with fail
    refine (lst_yes (specJoin_any R.out.row U.out.row) HB.out).mono ?_
    rintro e wv3 ⟨vY, rfl, o9, b9⟩
    replace R := Lib.hid (R.out.grow b9)
    replace U := Lib.hid (U.out.grow b9)
    replace P := Lib.hid (P.out.grow b9)
    replace BB := Lib.hid (BB.out.trans (b9.mono BB.out.size))
    clear b9
    have Y := Lib.hid o9
    clear o9
    go_wp2_with fail
    refine (sameTies_yes P.out.row Y.out.row rfl).mono ?_
    rintro e wv4 ⟨rfl, b9⟩
    replace R := Lib.hid (R.out.grow b9)
    replace U := Lib.hid (U.out.grow b9)
    replace P := Lib.hid (P.out.grow b9)
    replace Y := Lib.hid (Y.out.grow b9)
    replace BB := Lib.hid (BB.out.trans (b9.mono BB.out.size))
    clear b9
    clear Y
    obtain ⟨aP, cP, rfl, kP, mP⟩ := tlen_n P.out.row
    obtain ⟨q1, -, q3, q4⟩ := joinT_some HB.out
    have HF := Lib.hid q1; have VO := Lib.hid q4
    have VA := Lib.hid (fit_parts q1).1; have VB := Lib.hid (fit_parts q1).2
    have a12 := isTies_len VA.out
    have b12 := isTies_len VB.out
    clear q1 q4
    have J1 := Lib.hid ((join_comm HB.out).1)
    have J2 := Lib.hid ((join_comm HB.out).2)
    have JH := Lib.hid ((join_has HB.out).1)
    go_wp2_with fail
    refine (lst_yes (implJoin_any U.out.row R.out.row) J1.out).mono ?_
    rintro e wv5 ⟨vX, rfl, o9, b9⟩
    replace R := Lib.hid (R.out.grow b9)
    replace U := Lib.hid (U.out.grow b9)
    replace P := Lib.hid (P.out.grow b9)
    replace BB := Lib.hid (BB.out.trans (b9.mono BB.out.size))
    clear b9
    have X := Lib.hid o9
    clear o9
    go_wp2_with fail
    refine (lst_yes (implJoin_any P.out.row R.out.row) J2.out).mono ?_
    rintro e wv6 ⟨vY, rfl, o9, b9⟩
    replace R := Lib.hid (R.out.grow b9)
    replace U := Lib.hid (U.out.grow b9)
    replace P := Lib.hid (P.out.grow b9)
    replace X := Lib.hid (X.out.grow b9)
    replace BB := Lib.hid (BB.out.trans (b9.mono BB.out.size))
    clear b9
    have Y := Lib.hid o9
    clear o9
    go_wp2_with fail
    go_loopg [13] b.length (fun k x wr => ∃ j : Nat, x = .int .i64 j ∧ j + k = b.length ∧ Below wv6.heap.size wv6 wr)
    case atStart => exact ⟨0, rfl, by omega, Below.refl _ _⟩
    case round =>
      obtain ⟨wv7, rfl⟩ : ∃ x, x = wr := ⟨wr, rfl⟩
      obtain ⟨j, rfl, hk, hb⟩ := hrel
      have K := Lib.hid hk; have B := Lib.hid hb
      have hjn : j ≤ b.length := by omega
      obtain ⟨g1, rfl⟩ : ∃ g, g = gk := ⟨_, rfl⟩
      clear hk hb
      replace R := Lib.hid (R.out.grow B.out)
      replace U := Lib.hid (U.out.grow B.out)
      replace P := Lib.hid (P.out.grow B.out)
      replace X := Lib.hid (X.out.grow B.out)
      replace Y := Lib.hid (Y.out.grow B.out)
      replace BB := Lib.hid (BB.out.trans (B.out.mono BB.out.size))
      by_cases hlt : j < b.length
      · have i1 : (j : Int) < (b.length : Int) := by omega
        have i2 : (0 : Int) ≤ (j : Int) := by omega
        obtain ⟨z, hz⟩ : ∃ z, b[j] = z := ⟨_, rfl⟩
        have HZ := Lib.hid hz
        have ZM : Hid (z ∈ m) := Lib.hid (JH.out z (by rw [← hz]; exact List.getElem_mem _))
        clear hz
        go_wp2_with fail
        go_loopg [14, 15] m.length (fun k y x wr => ∃ (q : Nat) (f : Bool), y = .bool f ∧ x = .int .i64 q ∧ q + k = m.length ∧ (f = true ↔ z ∈ m.take q) ∧ Below wv7.heap.size wv7 wr)
        case atStart => exact ⟨0, false, rfl, rfl, by omega, by simp, Below.refl _ _⟩
        case round =>
          obtain ⟨wv8, rfl⟩ : ∃ x, x = wr := ⟨wr, rfl⟩
          obtain ⟨q, f, rfl, rfl, hk, hf, hb⟩ := hrel
          have K2 := Lib.hid hk; have B2 := Lib.hid hb; have HF2 := Lib.hid hf
          have hqn : q ≤ m.length := by omega
          clear hk hb hf
          replace R := Lib.hid (R.out.grow B2.out)
          replace U := Lib.hid (U.out.grow B2.out)
          replace P := Lib.hid (P.out.grow B2.out)
          replace X := Lib.hid (X.out.grow B2.out)
          replace Y := Lib.hid (Y.out.grow B2.out)
          replace BB := Lib.hid (BB.out.trans (B2.out.mono BB.out.size))
          have BO := Lib.hid (B.out.trans (B2.out.mono B.out.size))
          by_cases hlq : q < m.length
          · have i3 : (q : Int) < (m.length : Int) := by omega
            have i4 : (0 : Int) ≤ (q : Int) := by omega
            obtain ⟨x, hx⟩ : ∃ x, m[q] = x := ⟨_, rfl⟩
            have TS : Hid (m.take (q + 1) = m.take q ++ [x]) := Lib.hid (by rw [← hx]; exact List.take_succ_eq_append_getElem hlq)
            obtain ⟨gP, pP, eP, k5, k6, k7, k8, hp⟩ := P.out.at (by omega)
            simp only [Value.slice.injEq, true_and] at eP
            obtain ⟨rfl, rfl⟩ := eP
            obtain ⟨gU, pU, eU, l5, l6, l7, l8, hq⟩ := U.out.at (by omega)
            simp only [Value.slice.injEq, true_and] at eU
            obtain ⟨rfl, rfl⟩ := eU
            have d1 := (hp q hlq).top
            have d2 := (hp q hlq).bot
            have d3 := (hq j hlt).top
            have d4 := (hq j hlt).bot
            rw [hx] at d1 d2
            rw [HZ.out] at d3 d4
            clear hp hq hx k5 k6 k7 k8 l5 l6 l7 l8
            cases f
            · by_cases e1 : x.1 = z.1
              · have f1 : (x.1 == z.1) = true := by simpa using e1
                by_cases e2 : x.2 = z.2
                · have f2 : (x.2 == z.2) = true := by simpa using e2
                  have E := Lib.hid (Prod.ext e1 e2 : x = z)
                  clear e1 e2
                  go_wp2_with fail
                  go_quiet (fail)
                  go_wp2_with fail
                  go_roundg (gk - 1)
                  case measure => have := K2.out; omega
                  case rel => exact ⟨q + 1, true, rfl, by go_num, by have := K2.out; omega, by rw [TS.out, E.out]; simp, below_drews B2.out _⟩
                · have f2 : (x.2 == z.2) = false := by simpa using e2
                  have E : Hid (¬ z = x) := Lib.hid (fun e => e2 (by rw [e]))
                  clear e1 e2
                  go_wp2_with fail
                  go_quiet (fail)
                  go_wp2_with fail
                  go_roundg (gk - 1)
                  case measure => have := K2.out; omega
                  case rel => exact ⟨q + 1, false, rfl, by go_num, by have := K2.out; omega, by rw [TS.out]; have := HF2.out; simp only [List.mem_append, List.mem_singleton, E.out, or_false]; exact this, below_drews B2.out _⟩
              · have f1 : (x.1 == z.1) = false := by simpa using e1
                have E : Hid (¬ z = x) := Lib.hid (fun e => e1 (by rw [e]))
                clear e1
                go_wp2_with fail
                go_quiet (fail)
                go_wp2_with fail
                go_roundg (gk - 1)
                case measure => have := K2.out; omega
                case rel => exact ⟨q + 1, false, rfl, by go_num, by have := K2.out; omega, by rw [TS.out]; have := HF2.out; simp only [List.mem_append, List.mem_singleton, E.out, or_false]; exact this, below_drews B2.out _⟩
            · skip
              go_wp2_with fail
              go_quiet (fail)
              go_wp2_with fail
              go_roundg (gk - 1)
              case measure => have := K2.out; omega
              case rel => exact ⟨q + 1, true, rfl, by go_num, by have := K2.out; omega, by rw [TS.out]; have := HF2.out; exact ⟨fun _ => List.mem_append.2 (.inl (by simpa using this)), fun _ => by first | rfl | trivial⟩, below_drews B2.out _⟩
          · have hft : f = true := HF2.out.2 (by rw [List.take_of_length_le (by omega)]; exact ZM.out)
            subst hft
            go_wp2_with fail
            go_roundg (g1 - 1)
            case measure => have := K.out; omega
            case rel => exact ⟨j + 1, by go_num, by have := K.out; omega, BO.out⟩
      · skip
        go_wp2_with fail
        refine (sameTies_yes X.out.row P.out.row rfl).mono ?_
        rintro e wv8 ⟨rfl, b9⟩
        replace R := Lib.hid (R.out.grow b9)
        replace U := Lib.hid (U.out.grow b9)
        replace P := Lib.hid (P.out.grow b9)
        replace X := Lib.hid (X.out.grow b9)
        replace Y := Lib.hid (Y.out.grow b9)
        replace BB := Lib.hid (BB.out.trans (b9.mono BB.out.size))
        clear b9
        go_wp2_with fail
        refine (sameTies_yes Y.out.row P.out.row rfl).mono ?_
        rintro e wv9 ⟨rfl, b9⟩
        replace R := Lib.hid (R.out.grow b9)
        replace U := Lib.hid (U.out.grow b9)
        replace P := Lib.hid (P.out.grow b9)
        replace X := Lib.hid (X.out.grow b9)
        replace Y := Lib.hid (Y.out.grow b9)
        replace BB := Lib.hid (BB.out.trans (b9.mono BB.out.size))
        clear b9
        go_wp2_with fail
        refine (tiesI_is P.out.row VO.out).mono ?_
        rintro e wv10 ⟨rfl, b9⟩
        replace R := Lib.hid (R.out.grow b9)
        replace U := Lib.hid (U.out.grow b9)
        replace P := Lib.hid (P.out.grow b9)
        replace X := Lib.hid (X.out.grow b9)
        replace Y := Lib.hid (Y.out.grow b9)
        replace BB := Lib.hid (BB.out.trans (b9.mono BB.out.size))
        clear b9
        go_wp2_with fail
        go_ret
        exact ⟨by first | rfl | (simp; done) | (simp; omega), BB.out⟩

set_option maxRecDepth 100000 in
theorem lifted (os : Os) (started : os.Started) (H : Type) (enc : TypeId × Value → H) :
    ReturnsInHanded {} Try.checked os 7 .any (Rows.fnTiesJoinSpec.pre6 enc Try.prog Try.f7 Rows.fnTiesJoinRow.domain false) (Rows.fnTiesJoinSpec.post enc Try.prog Try.f7 false true false false) := by
  refine returnsInHanded_of_change (C := Try.checked) own started (by kernel_rfl) Try.func7
    (ChangeSpec.witness6 (enc := enc) (C := Try.checked) false ⟨#[], #[.slice none 0 0], []⟩ 8 (by kernel_rfl) (by kernel_rfl) (by kernel_rfl) (by kernel_rfl)) ?_
  intro W base args ds gs before hval0 hW hcnd _
  have hval : ∀ (j : Nat) t v, Try.f7.params[j]? = some t → args[j]? = some v → Value.okWide Try.prog W .any base t v := hval0
  have hW' := hW
  obtain ⟨p, q, hA0, hV, rfl, hfz, hnd⟩ := hW
  have hA : DataW.TrodAll enc Try.prog W 0 (fun _ => true) true Try.f7.params.toList args.toList ds p := hA0
  rw [Try.params7] at hA hval
  obtain ⟨v0, vs0, d0, ds0, p0, q0, hargs, rfl, rfl, h0, r0⟩ := trodAll_cons hA
  obtain ⟨rfl, rfl, rfl⟩ := trodAll_nil r0
  obtain rfl : args = #[v0] := by cases args; simp_all
  obtain ⟨rfl, rfl⟩ := trodVars_none hV
  obtain ⟨a0, len0, cap0, rfl⟩ := okWide_slice Try.underlying22 (hval 0 22 v0 rfl rfl)
  have k0 := h0
  have lt0 : ∀ x ∈ p0, x.block < W.heap.size := by obtain ⟨m, hm⟩ := k0; exact DataW.trod_lt m _ _ _ hm
  obtain ⟨z0, w0⟩ : ∃ zs, IsRow .u8 W a0 len0 cap0 zs := by
    obtain ⟨fuel, hf⟩ := h0
    rcases open_ints Try.underlying22 Try.underlying5 (by kernel_rfl) hf with ⟨hcs, _⟩ | ⟨x, l, c, zs, hcs, _, hl, hm, hz, _, hcell, hwz⟩
    · simp [Value.cells] at hcs
      obtain ⟨rfl, rfl, rfl⟩ := hcs
      exact ⟨[], .inl ⟨rfl, rfl, rfl, rfl⟩⟩
    · simp [Value.cells] at hcs
      obtain ⟨rfl, rfl, rfl⟩ := hcs
      exact ⟨zs, .inr ⟨_, rfl, hl, hm, by simpa using hz, hcell, hwz⟩⟩
  clear hA0 hval0
  refine (walk a0 len0 cap0 z0 W w0).mono fun e W' ⟨he, bel⟩ => ?_
  subst he
  exact ⟨_, rfl, _, _, _, [], _, [], hW', trodAll_mk1 (shut_bool Try.underlying4 _), (trodAll_cons_mk (Below.trod laidOut (by kernel_rfl) (of_decide_eq_true (by kernel_rfl)) k0 bel lt0) trodAll_mk0), rfl, bel.frame _, fun h => by cases h⟩

theorem over : Rows.fnTiesJoinRow.holds Try.pinned (OpenSpec.ofChange Rows.fnTiesJoinSpec) :=
  OpenClaim.holds_of_wide 7 Try.f7 rfl rfl rfl rfl rfl rfl rfl ⟨rfl, rfl, rfl, rfl, rfl⟩ rfl rfl rfl rfl rfl (by kernel_rfl) Try.func7 (by kernel_rfl)
    (of_decide_eq_true (by kernel_rfl)) (by unfold Func.isWrapper; first | (rw [if_pos (by decide +kernel)]; kernel_rfl) | (rw [if_neg (by decide +kernel)]; exact ⟨rfl, rfl⟩))
    (fun os started H enc _ => lifted os started H enc)

/-- ████ THE STATEMENT ████ -/
theorem proved : Rows.FnTiesJoinSaid := over
#print axioms proved
end Go.Proofs.Ythhdpjkmjebjhaa.fnTiesJoin
