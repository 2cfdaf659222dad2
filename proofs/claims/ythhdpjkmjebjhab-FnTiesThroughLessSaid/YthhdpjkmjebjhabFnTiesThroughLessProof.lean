/- For every input, the law FnTiesThroughLess of the given statements returns true over the program at this commit, and its arguments read afterwards as before: no condition. -/
import Derived.Test.YthhdpjkmjebjhabRows
import Derived.Test.YthhdpjkmjebjhabLawT
import Derived.WalkKit
import Derived.ProofKit
import Derived.OpenShut
import Derived.ShutString
import Derived.ChangeOld
import Derived.Below
namespace Go.Proofs.Ythhdpjkmjebjhab.fnTiesThroughLess
open Go.ChangeShapes Go.WideShapes Go.ChangeAt Go.RowKit
open Go.ChangeMaps (open_string shut_string)
set_option linter.unusedVariables false

theorem own : ownKnob Try.prog.godebug = none := by kernel_rfl
theorem laidOut : laidOutB Try.prog = true := by kernel_rfl

/-- WHAT THE WALK IS TOLD OF A SLICE OF INTEGERS THAT CAME IN: it is nil; or it leads to a row of 'cap' cells, the numbers 'zs' (the first 'len' are its elements, the rest its spare room), each fitting its kind. -/
def IsRow (k : IntKind) (w : World) (a : Option Addr) (len cap : Nat) (zs : List Int) : Prop :=
  (a = none ∧ len = 0 ∧ cap = 0 ∧ zs = []) ∨
  ∃ x, a = some x ∧ len ≤ cap ∧ cap ≤ maxLen ∧ zs.length = cap ∧ (∀ i, i < zs.length → w.cell? (x.add i) = some (.int k (zs.getD i 0))) ∧ ∀ n ∈ zs, (Lit.int k n).wf = true

set_option maxRecDepth 100000 in
set_option maxHeartbeats 3200000 in
theorem walk (a0 : Option Addr) (len0 cap0 : Nat) (z0 : List Int) (a1 : Option Addr) (len1 cap1 : Nat) (z1 : List Int) (w : World) (w0 : IsRow .u8 w a0 len0 cap0 z0) (w1 : IsRow .u8 w a1 len1 cap1 z1) :
    Calls Try.prog 8 #[.slice a0 len0 cap0, .slice a1 len1 cap1] w fun e w' => e = .returned (.bool true) ∧ Below w.heap.size w w' := by
  have hB := bytes_of w0
  have hB1 := bytes_len (bytes_of w1)
  unfold maxLen at hB1
  by_cases hl : 1048576 < len0
  · have hdec : decide (1048576 < len0) = true := by simpa using hl
    go_enter Try.func8, Try.ntmps8
    go_wp2_with fail
    go_ret
    exact ⟨rfl, Below.refl _ _⟩
  have hdec : decide (1048576 < len0) = false := by simpa using hl
  by_cases hl1 : 1048576 < len1
  · go_enter Try.func8, Try.ntmps8
    go_wp2_with fail
    go_ret
    exact ⟨rfl, Below.refl _ _⟩
  have hm : len0 ≤ 1048576 := by omega
  have hm1 : len1 ≤ 1048576 := by omega
  clear hB1
  go_enter Try.func8, Try.ntmps8
  go_wp2_with fail
  refine (DrawTiesThrough_any hB).mono ?_
  rintro e wv1 ⟨v, u, a, b, rfl, r0, r1, da, db, b1⟩
  clear w0 w1 hB
  have BB := Lib.hid b1
  clear b1
  have R := Lib.hid r0
  clear r0
  have U := Lib.hid r1
  clear r1
  have ha8 := da.1
  have hb8 := db.1
  obtain ⟨aR, cR, rfl, kR, mR⟩ := tlen_n R.out.row
  obtain ⟨aU, cU, rfl, kU, mU⟩ := tlen_n U.out.row
  clear da db
  cases hb : thrT a b with
  | none =>
    have HB := Lib.hid hb
    clear hb
    go_wp2_with fail
    refine (lst_no (implThr_any R.out.row U.out.row) HB.out).mono ?_
    rintro e wv2 ⟨vX, rfl, o9, b9⟩
    replace R := Lib.hid (R.out.grow b9)
    replace U := Lib.hid (U.out.grow b9)
    replace BB := Lib.hid (BB.out.trans (b9.mono BB.out.size))
    clear b9
    have X := Lib.hid o9
    clear o9
    go_wp2_with fail
    refine (lst_no (specThr_any R.out.row U.out.row) HB.out).mono ?_
    rintro e wv3 ⟨vY, rfl, o9, b9⟩
    replace R := Lib.hid (R.out.grow b9)
    replace U := Lib.hid (U.out.grow b9)
    replace X := Lib.hid (X.out.grow b9)
    replace BB := Lib.hid (BB.out.trans (b9.mono BB.out.size))
    clear b9
    have Y := Lib.hid o9
    clear o9
    go_wp2_with fail
    refine (sameTies_yes X.out.row Y.out.row rfl).mono ?_
    rintro e wv4 ⟨rfl, b9⟩
    replace R := Lib.hid (R.out.grow b9)
    replace U := Lib.hid (U.out.grow b9)
    replace X := Lib.hid (X.out.grow b9)
    replace Y := Lib.hid (Y.out.grow b9)
    replace BB := Lib.hid (BB.out.trans (b9.mono BB.out.size))
    clear b9
    go_wp2_with fail
    refine (sameTies_yes X.out.row Y.out.row rfl).mono ?_
    rintro e wv5 ⟨rfl, b9⟩
    replace R := Lib.hid (R.out.grow b9)
    replace U := Lib.hid (U.out.grow b9)
    replace X := Lib.hid (X.out.grow b9)
    replace Y := Lib.hid (Y.out.grow b9)
    replace BB := Lib.hid (BB.out.trans (b9.mono BB.out.size))
    clear b9
    go_wp2_with fail
    go_ret
    exact ⟨by first | rfl | (simp; done) | (simp; omega), BB.out⟩
  | some m =>
    have HB := Lib.hid hb
    clear hb
    go_wp2_with fail
    refine (lst_yes (implThr_any R.out.row U.out.row) HB.out).mono ?_
    rintro e wv2 ⟨vP, rfl, o9, b9⟩
    replace R := Lib.hid (R.out.grow b9)
    replace U := Lib.hid (U.out.grow b9)
    replace BB := Lib.hid (BB.out.trans (b9.mono BB.out.size))
    clear b9
    have P := Lib.hid o9
    clear o9
    go_wp2_with fail
    refine (lst_yes (specThr_any R.out.row U.out.row) HB.out).mono ?_
    rintro e wv3 ⟨vY, rfl, o9, b9⟩
    replace R := Lib.hid (R.out.grow b9)
    replace U := Lib.hid (U.out.grow b9)
    replace P := Lib.hid (P.out.grow b9)
    replace BB := Lib.hid (BB.out.trans (b9.mono BB.out.size))
    clear b9
    have Y := Lib.hid o9
    clear o9
    go_wp2_with fail
    refine (sameTies_yes P.out.row Y.out.row rfl).mono ?_
    rintro e wv4 ⟨rfl, b9⟩
    replace R := Lib.hid (R.out.grow b9)
    replace U := Lib.hid (U.out.grow b9)
    replace P := Lib.hid (P.out.grow b9)
    replace Y := Lib.hid (Y.out.grow b9)
    replace BB := Lib.hid (BB.out.trans (b9.mono BB.out.size))
    clear b9
    clear Y
    obtain ⟨aP, cP, rfl, kP, mP⟩ := tlen_n P.out.row
    have vab : isTies a = true ∧ isTies b = true := by
      cases c : isTies a
      · have := HB.out; rw [thrT_no (.inl c)] at this; cases this
      · cases d : isTies b
        · have := HB.out; rw [thrT_no (.inr d)] at this; cases this
        · exact ⟨rfl, rfl⟩
    have VA := Lib.hid vab.1; have VB := Lib.hid vab.2
    have hm9 : thr a b = m := by have := HB.out; rw [thrT_yes vab.1 vab.2] at this; exact Option.some.inj this
    have HM := Lib.hid hm9
    have lo : m.length ≤ a.length ∧ m.length ≤ b.length := by rw [← hm9]; exact (isTies_thr vab.1 vab.2).2
    have VO : Hid (isTies m = true) := Lib.hid (by rw [← hm9]; exact (isTies_thr vab.1 vab.2).1)
    have a12 := isTies_len VA.out
    have b12 := isTies_len VB.out
    have UA := Lib.hid (isTies_iff.1 VA.out).1.up; have UB := Lib.hid (isTies_iff.1 VB.out).1.up
    clear vab hm9
    obtain ⟨q, hq⟩ : ∃ j : Nat, len1 % (a.length + 1) = j := ⟨_, rfl⟩
    have qn : q ≤ a.length := by have := Nat.mod_lt len1 (show 0 < a.length + 1 by omega); omega
    have qe : (len1 : Int) % ((a.length : Int) + 1) = (q : Int) := by rw [← hq, Int.natCast_emod]; rfl
    have qt : IntKind.i64.wrap ((len1 : Int).tmod ((a.length : Int) + 1)) = (q : Int) := by rw [Int.tmod_eq_emod_of_nonneg (by omega), qe]; exact IntWalk.i64_in _ (by omega)
    have q2 : IntKind.i64.wrap ((a.length : Int) + 1) = (a.length : Int) + 1 := IntWalk.i64_in _ (by omega)
    have qz : (((a.length : Int) + 1) == 0) = false := beq_eq_false_iff_ne.2 (by omega)
    have q3 : IntKind.i64.wrap (q : Int) = (q : Int) := IntWalk.i64_in _ (by omega)
    have q4 : (0 : Int) ≤ (q : Int) := by omega
    clear hq
    have tk := thr_take a b q
    rw [HM.out] at tk
    obtain ⟨x, hx⟩ : ∃ x, thr (a.take q) b = x := ⟨_, rfl⟩
    rw [hx] at tk
    have X1 : Hid (thrT (a.take q) b = some x) := Lib.hid (by rw [thrT_yes (isTies_take VA.out q) VB.out, hx])
    have TK := Lib.hid tk.1
    have xm := tk.2
    clear tk hx
    rcases own_base R.out with ⟨rfl, hn9, rfl, he9⟩ | ⟨gR, rfl, -⟩
    · subst he9
      clear hn9
      obtain rfl : q = 0 := by simpa using qn
      have TA : Hid (Row wv4 (.slice none 0 0) (List.take 0 ([] : List Pc))) := Lib.hid (row_none _)
      go_wp2_with fail
      refine (lst_yes (implThr_any TA.out U.out.row) X1.out).mono ?_
      rintro e wv5 ⟨vX, rfl, o9, b9⟩
      replace R := Lib.hid (R.out.grow b9)
      replace U := Lib.hid (U.out.grow b9)
      replace P := Lib.hid (P.out.grow b9)
      replace TA := Lib.hid (TA.out.grow b9)
      replace BB := Lib.hid (BB.out.trans (b9.mono BB.out.size))
      clear b9
      have X := Lib.hid o9
      clear o9
      obtain ⟨aX, cX, rfl, kX, mX⟩ := tlen_n X.out.row
      have xi : (x.length : Int) ≤ (m.length : Int) := by omega
      obtain ⟨r, hr⟩ : ∃ r, x.length = r := ⟨_, rfl⟩
      have rn : r ≤ m.length := by omega
      clear hr rn
      rcases own_base P.out with ⟨rfl, hn9, rfl, he9⟩ | ⟨gP, rfl, -⟩
      · subst he9
        clear hn9
        obtain rfl : x = [] := List.eq_nil_of_length_eq_zero (by simpa using xm)
        have TB : Hid (Row wv5 (.slice none 0 0) (List.take 0 ([] : List Pc))) := Lib.hid (row_none _)
        go_wp2_with fail
        refine (sameTies_yes X.out.row TB.out TK.out).mono ?_
        rintro e wv6 ⟨rfl, b9⟩
        replace R := Lib.hid (R.out.grow b9)
        replace U := Lib.hid (U.out.grow b9)
        replace P := Lib.hid (P.out.grow b9)
        replace TA := Lib.hid (TA.out.grow b9)
        replace X := Lib.hid (X.out.grow b9)
        replace TB := Lib.hid (TB.out.grow b9)
        replace BB := Lib.hid (BB.out.trans (b9.mono BB.out.size))
        clear b9
        go_wp2_with fail
        go_ret
        exact ⟨by first | rfl | (simp; done) | (simp; omega), BB.out⟩
      · have xc : (x.length : Int) ≤ (cP : Int) := by omega
        have TB := Lib.hid (P.out.row.take x.length xm)
        go_wp2_with fail
        refine (sameTies_yes X.out.row TB.out TK.out).mono ?_
        rintro e wv6 ⟨rfl, b9⟩
        replace R := Lib.hid (R.out.grow b9)
        replace U := Lib.hid (U.out.grow b9)
        replace P := Lib.hid (P.out.grow b9)
        replace TA := Lib.hid (TA.out.grow b9)
        replace X := Lib.hid (X.out.grow b9)
        replace TB := Lib.hid (TB.out.grow b9)
        replace BB := Lib.hid (BB.out.trans (b9.mono BB.out.size))
        clear b9
        go_wp2_with fail
        go_ret
        exact ⟨by first | rfl | (simp; done) | (simp; omega), BB.out⟩
    · have qc : (q : Int) ≤ (cR : Int) := by omega
      have TA := Lib.hid (R.out.row.take q qn)
      go_wp2_with fail
      refine (lst_yes (implThr_any TA.out U.out.row) X1.out).mono ?_
      rintro e wv5 ⟨vX, rfl, o9, b9⟩
      replace R := Lib.hid (R.out.grow b9)
      replace U := Lib.hid (U.out.grow b9)
      replace P := Lib.hid (P.out.grow b9)
      replace TA := Lib.hid (TA.out.grow b9)
      replace BB := Lib.hid (BB.out.trans (b9.mono BB.out.size))
      clear b9
      have X := Lib.hid o9
      clear o9
      obtain ⟨aX, cX, rfl, kX, mX⟩ := tlen_n X.out.row
      have xi : (x.length : Int) ≤ (m.length : Int) := by omega
      obtain ⟨r, hr⟩ : ∃ r, x.length = r := ⟨_, rfl⟩
      have rn : r ≤ m.length := by omega
      clear hr rn
      rcases own_base P.out with ⟨rfl, hn9, rfl, he9⟩ | ⟨gP, rfl, -⟩
      · subst he9
        clear hn9
        obtain rfl : x = [] := List.eq_nil_of_length_eq_zero (by simpa using xm)
        have TB : Hid (Row wv5 (.slice none 0 0) (List.take 0 ([] : List Pc))) := Lib.hid (row_none _)
        go_wp2_with fail
        refine (sameTies_yes X.out.row TB.out TK.out).mono ?_
        rintro e wv6 ⟨rfl, b9⟩
        replace R := Lib.hid (R.out.grow b9)
        replace U := Lib.hid (U.out.grow b9)
        replace P := Lib.hid (P.out.grow b9)
        replace TA := Lib.hid (TA.out.grow b9)
        replace X := Lib.hid (X.out.grow b9)
        replace TB := Lib.hid (TB.out.grow b9)
        replace BB := Lib.hid (BB.out.trans (b9.mono BB.out.size))
        clear b9
        go_wp2_with fail
        go_ret
        exact ⟨by first | rfl | (simp; done) | (simp; omega), BB.out⟩
      · have xc : (x.length : Int) ≤ (cP : Int) := by omega
        have TB := Lib.hid (P.out.row.take x.length xm)
        go_wp2_with fail
        refine (sameTies_yes X.out.row TB.out TK.out).mono ?_
        rintro e wv6 ⟨rfl, b9⟩
        replace R := Lib.hid (R.out.grow b9)
        replace U := Lib.hid (U.out.grow b9)
        replace P := Lib.hid (P.out.grow b9)
        replace TA := Lib.hid (TA.out.grow b9)
        replace X := Lib.hid (X.out.grow b9)
        replace TB := Lib.hid (TB.out.grow b9)
        replace BB := Lib.hid (BB.out.trans (b9.mono BB.out.size))
        clear b9
        go_wp2_with fail
        go_ret
        exact ⟨by first | rfl | (simp; done) | (simp; omega), BB.out⟩

set_option maxRecDepth 100000 in
theorem lifted (os : Os) (started : os.Started) (H : Type) (enc : TypeId × Value → H) :
    ReturnsInHanded {} Try.checked os 8 .any (Rows.fnTiesThroughLessSpec.pre6 enc Try.prog Try.f8 Rows.fnTiesThroughLessRow.domain false) (Rows.fnTiesThroughLessSpec.post enc Try.prog Try.f8 false true false false) := by
  refine returnsInHanded_of_change (C := Try.checked) own started (by kernel_rfl) Try.func8
    (ChangeSpec.witness6 (enc := enc) (C := Try.checked) false ⟨#[], #[.slice none 0 0, .slice none 0 0], []⟩ 8 (by kernel_rfl) (by kernel_rfl) (by kernel_rfl) (by kernel_rfl)) ?_
  intro W base args ds gs before hval0 hW hcnd _
  have hval : ∀ (j : Nat) t v, Try.f8.params[j]? = some t → args[j]? = some v → Value.okWide Try.prog W .any base t v := hval0
  have hW' := hW
  obtain ⟨p, q, hA0, hV, rfl, hfz, hnd⟩ := hW
  have hA : DataW.TrodAll enc Try.prog W 0 (fun _ => true) true Try.f8.params.toList args.toList ds p := hA0
  rw [Try.params8] at hA hval
  obtain ⟨v0, vs0, d0, ds0, p0, q0, hargs, rfl, rfl, h0, r0⟩ := trodAll_cons hA
  obtain ⟨v1, vs1, d1, ds1, p1, q1, rfl, rfl, rfl, h1, r1⟩ := trodAll_cons r0
  obtain ⟨rfl, rfl, rfl⟩ := trodAll_nil r1
  obtain rfl : args = #[v0, v1] := by cases args; simp_all
  obtain ⟨rfl, rfl⟩ := trodVars_none hV
  obtain ⟨a0, len0, cap0, rfl⟩ := okWide_slice Try.underlying22 (hval 0 22 v0 rfl rfl)
  have k0 := h0
  have lt0 : ∀ x ∈ p0, x.block < W.heap.size := by obtain ⟨m, hm⟩ := k0; exact DataW.trod_lt m _ _ _ hm
  obtain ⟨z0, w0⟩ : ∃ zs, IsRow .u8 W a0 len0 cap0 zs := by
    obtain ⟨fuel, hf⟩ := h0
    rcases open_ints Try.underlying22 Try.underlying5 (by kernel_rfl) hf with ⟨hcs, _⟩ | ⟨x, l, c, zs, hcs, _, hl, hm, hz, _, hcell, hwz⟩
    · simp [Value.cells] at hcs
      obtain ⟨rfl, rfl, rfl⟩ := hcs
      exact ⟨[], .inl ⟨rfl, rfl, rfl, rfl⟩⟩
    · simp [Value.cells] at hcs
      obtain ⟨rfl, rfl, rfl⟩ := hcs
      exact ⟨zs, .inr ⟨_, rfl, hl, hm, by simpa using hz, hcell, hwz⟩⟩
  obtain ⟨a1, len1, cap1, rfl⟩ := okWide_slice Try.underlying22 (hval 1 22 v1 rfl rfl)
  have k1 := h1
  have lt1 : ∀ x ∈ p1, x.block < W.heap.size := by obtain ⟨m, hm⟩ := k1; exact DataW.trod_lt m _ _ _ hm
  obtain ⟨z1, w1⟩ : ∃ zs, IsRow .u8 W a1 len1 cap1 zs := by
    obtain ⟨fuel, hf⟩ := h1
    rcases open_ints Try.underlying22 Try.underlying5 (by kernel_rfl) hf with ⟨hcs, _⟩ | ⟨x, l, c, zs, hcs, _, hl, hm, hz, _, hcell, hwz⟩
    · simp [Value.cells] at hcs
      obtain ⟨rfl, rfl, rfl⟩ := hcs
      exact ⟨[], .inl ⟨rfl, rfl, rfl, rfl⟩⟩
    · simp [Value.cells] at hcs
      obtain ⟨rfl, rfl, rfl⟩ := hcs
      exact ⟨zs, .inr ⟨_, rfl, hl, hm, by simpa using hz, hcell, hwz⟩⟩
  clear hA0 hval0
  refine (walk a0 len0 cap0 z0 a1 len1 cap1 z1 W w0 w1).mono fun e W' ⟨he, bel⟩ => ?_
  subst he
  exact ⟨_, rfl, _, _, _, [], _, [], hW', trodAll_mk1 (shut_bool Try.underlying4 _), (trodAll_cons_mk (Below.trod laidOut (by kernel_rfl) (of_decide_eq_true (by kernel_rfl)) k0 bel lt0) (trodAll_cons_mk (Below.trod laidOut (by kernel_rfl) (of_decide_eq_true (by kernel_rfl)) k1 bel lt1) trodAll_mk0)), rfl, bel.frame _, fun h => by cases h⟩

theorem over : Rows.fnTiesThroughLessRow.holds Try.pinned (OpenSpec.ofChange Rows.fnTiesThroughLessSpec) :=
  OpenClaim.holds_of_wide 8 Try.f8 rfl rfl rfl rfl rfl rfl rfl ⟨rfl, rfl, rfl, rfl, rfl⟩ rfl rfl rfl rfl rfl (by kernel_rfl) Try.func8 (by kernel_rfl)
    (of_decide_eq_true (by kernel_rfl)) (by unfold Func.isWrapper; first | (rw [if_pos (by decide +kernel)]; kernel_rfl) | (rw [if_neg (by decide +kernel)]; exact ⟨rfl, rfl⟩))
    (fun os started H enc _ => lifted os started H enc)

/-- ████ THE STATEMENT ████ -/
theorem proved : Rows.FnTiesThroughLessSaid := over
#print axioms proved
end Go.Proofs.Ythhdpjkmjebjhab.fnTiesThroughLess
