/- For every input, the law FnTies of the given statements returns true over the program at this commit, and its arguments read afterwards as before: no condition. -/
import Derived.Test.YthhdpjkmjebjhaaRows
import Derived.Test.YthhdpjkmjebjhaaLawT
import Derived.WalkKit
import Derived.ProofKit
import Derived.OpenShut
import Derived.ShutString
import Derived.ChangeOld
import Derived.Below
namespace Go.Proofs.Ythhdpjkmjebjhaa.fnTies
open Go.ChangeShapes Go.WideShapes Go.ChangeAt Go.RowKit
open Go.ChangeMaps (open_string shut_string)
set_option linter.unusedVariables false

theorem own : ownKnob Try.prog.godebug = none := by kernel_rfl
theorem laidOut : laidOutB Try.prog = true := by kernel_rfl

/-- WHAT THE WALK IS TOLD OF A SLICE OF INTEGERS THAT CAME IN: it is nil; or it leads to a row of 'cap' cells, the numbers 'zs' (the first 'len' are its elements, the rest its spare room), each fitting its kind. -/
def IsRow (k : IntKind) (w : World) (a : Option Addr) (len cap : Nat) (zs : List Int) : Prop :=
  (a = none ∧ len = 0 ∧ cap = 0 ∧ zs = []) ∨
  ∃ x, a = some x ∧ len ≤ cap ∧ cap ≤ maxLen ∧ zs.length = cap ∧ (∀ i, i < zs.length → w.cell? (x.add i) = some (.int k (zs.getD i 0))) ∧ ∀ n ∈ zs, (Lit.int k n).wf = true

set_option maxRecDepth 100000 in
set_option maxHeartbeats 3200000 in
theorem walk (a0 : Option Addr) (len0 cap0 : Nat) (z0 : List Int) (a1 : Option Addr) (len1 cap1 : Nat) (z1 : List Int) (w : World) (w0 : IsRow .u8 w a0 len0 cap0 z0) (w1 : IsRow .u8 w a1 len1 cap1 z1) :
    Calls Try.prog 3 #[.slice a0 len0 cap0, .slice a1 len1 cap1] w fun e w' => e = .returned (.bool true) ∧ Below w.heap.size w w' := by
  have hB := bytes_of w0
  have hB1 := bytes_len (bytes_of w1)
  unfold maxLen at hB1
  by_cases hl : 1048576 < len0
  · have hdec : decide (1048576 < len0) = true := by simpa using hl
    go_enter Try.func3, Try.ntmps3
    go_wp2_with fail
    go_ret
    exact ⟨rfl, Below.refl _ _⟩
  have hdec : decide (1048576 < len0) = false := by simpa using hl
  by_cases hl1 : 1048576 < len1
  · go_enter Try.func3, Try.ntmps3
    go_wp2_with fail
    go_ret
    exact ⟨rfl, Below.refl _ _⟩
  have hm : len0 ≤ 1048576 := by omega
  have hm1 : len1 ≤ 1048576 := by omega
  clear hB1
  go_enter Try.func3, Try.ntmps3
  go_wp2_with fail
  refine (DrawTiesValid_any hB).mono ?_
  rintro e wv1 ⟨v, a, rfl, r0, da, b1⟩
  clear w0 w1 hB
  have BB := Lib.hid b1
  clear b1
  have R := Lib.hid r0
  clear r0
  have ha8 := da.1
  obtain ⟨aR, cR, rfl, kR, mR⟩ := tlen_n R.out.row
  clear da
  cases hb : isTies a
  · have HB := Lib.hid hb
    clear hb
    go_wp2_with fail
    refine (tiesI_is R.out.row HB.out).mono ?_
    rintro e wv2 ⟨rfl, b9⟩
    replace R := Lib.hid (R.out.grow b9)
    replace BB := Lib.hid (BB.out.trans (b9.mono BB.out.size))
    clear b9
    go_wp2_with fail
    refine (tiesS_is R.out.row HB.out).mono ?_
    rintro e wv3 ⟨rfl, b9⟩
    replace R := Lib.hid (R.out.grow b9)
    replace BB := Lib.hid (BB.out.trans (b9.mono BB.out.size))
    clear b9
    go_wp2_with fail
    go_ret
    exact ⟨by first | rfl | (simp; done) | (simp; omega), BB.out⟩
  · have HB := Lib.hid hb
    clear hb
    go_wp2_with fail
    refine (tiesI_is R.out.row HB.out).mono ?_
    rintro e wv2 ⟨rfl, b9⟩
    replace R := Lib.hid (R.out.grow b9)
    replace BB := Lib.hid (BB.out.trans (b9.mono BB.out.size))
    clear b9
    go_wp2_with fail
    refine (tiesS_is R.out.row HB.out).mono ?_
    rintro e wv3 ⟨rfl, b9⟩
    replace R := Lib.hid (R.out.grow b9)
    replace BB := Lib.hid (BB.out.trans (b9.mono BB.out.size))
    clear b9
    have a12 := isTies_len HB.out
    obtain ⟨q, hq⟩ : ∃ j : Nat, len1 % (a.length + 1) = j := ⟨_, rfl⟩
    have qn : q ≤ a.length := by have := Nat.mod_lt len1 (show 0 < a.length + 1 by omega); omega
    have qe : (len1 : Int) % ((a.length : Int) + 1) = (q : Int) := by rw [← hq, Int.natCast_emod]; rfl
    have qt : IntKind.i64.wrap ((len1 : Int).tmod ((a.length : Int) + 1)) = (q : Int) := by rw [Int.tmod_eq_emod_of_nonneg (by omega), qe]; exact IntWalk.i64_in _ (by omega)
    have q2 : IntKind.i64.wrap ((a.length : Int) + 1) = (a.length : Int) + 1 := IntWalk.i64_in _ (by omega)
    have qz : (((a.length : Int) + 1) == 0) = false := beq_eq_false_iff_ne.2 (by omega)
    have q3 : IntKind.i64.wrap (q : Int) = (q : Int) := IntWalk.i64_in _ (by omega)
    have q4 : (0 : Int) ≤ (q : Int) := by omega
    clear hq
    have EA := Lib.hid (own_new 27 (Nat.le_refl wv3.heap.size))
    have BA := Lib.hid ((Below.refl wv3.heap.size wv3).alloc (Nat.le_refl _) (.cells #[] 27))
    have XA := Lib.hid (R.out.grow BA.out)
    have V1 := Lib.hid (isTies_take HB.out q); have V2 := Lib.hid (isTies_drop HB.out q)
    by_cases n0 : a.length = 0
    · have i0 : ¬ (0 : Int) < (a.length : Int) := by omega
      have i5 : ((a.length : Int) == 0) = true := by rw [n0]; rfl
      have N0 := Lib.hid n0
      clear n0
      rcases own_base R.out with ⟨rfl, hn9, rfl, he9⟩ | ⟨gR, rfl, -⟩
      · subst he9
        clear hn9
        obtain rfl : q = 0 := by simpa using qn
        have TA : Hid (Row wv3 (.slice none 0 0) (List.take 0 ([] : List Pc))) := Lib.hid (row_none _)
        have DA : Hid (Row wv3 (.slice none 0 0) (List.drop 0 ([] : List Pc))) := Lib.hid (row_none _)
        go_wp2_with (at_builtin; refine tcopy tieT rfl _ _ rfl (B := wv3.heap.size) _ rfl EA.out _ _ rfl XA.out (by omega) (by simp) ?_; intro v5 w5 hown5 b5; have O5 := Lib.hid hown5; have B5 := Lib.hid (BA.out.trans b5); have R5 := Lib.hid (R.out.grow B5.out); have hs5 := B5.out.size; clear hown5 b5)
        replace R := Lib.hid (R.out.grow B5.out)
        replace TA := Lib.hid (TA.out.grow B5.out)
        replace DA := Lib.hid (DA.out.grow B5.out)
        replace BB := Lib.hid (BB.out.trans (B5.out.mono BB.out.size))
        go_wp2_with fail
        refine (tiesI_is TA.out V1.out).mono ?_
        rintro e wv4 ⟨rfl, b9⟩
        replace R := Lib.hid (R.out.grow b9)
        replace TA := Lib.hid (TA.out.grow b9)
        replace DA := Lib.hid (DA.out.grow b9)
        replace O5 := Lib.hid (O5.out.grow b9)
        replace BB := Lib.hid (BB.out.trans (b9.mono BB.out.size))
        clear b9
        go_wp2_with fail
        refine (tiesI_is DA.out V2.out).mono ?_
        rintro e wv5 ⟨rfl, b9⟩
        replace R := Lib.hid (R.out.grow b9)
        replace TA := Lib.hid (TA.out.grow b9)
        replace DA := Lib.hid (DA.out.grow b9)
        replace O5 := Lib.hid (O5.out.grow b9)
        replace BB := Lib.hid (BB.out.trans (b9.mono BB.out.size))
        clear b9
        go_wp2_with fail
        refine (tiesI_is O5.out.row HB.out).mono ?_
        rintro e wv6 ⟨rfl, b9⟩
        replace R := Lib.hid (R.out.grow b9)
        replace TA := Lib.hid (TA.out.grow b9)
        replace DA := Lib.hid (DA.out.grow b9)
        replace O5 := Lib.hid (O5.out.grow b9)
        replace BB := Lib.hid (BB.out.trans (b9.mono BB.out.size))
        clear b9
        go_wp2_with fail
        go_ret
        exact ⟨by first | rfl | (simp; done) | (simp; omega), BB.out⟩
      · have qc : (q : Int) ≤ (cR : Int) := by omega
        by_cases qx : q = cR
        · skip
          obtain rfl : cR = a.length := by omega
          subst qx
          have DA := Lib.hid (row_past (w := wv3) (l := a) gR a.length rfl)
          have TA := Lib.hid (R.out.row.take _ qn)
          go_wp2_with (at_builtin; refine tcopy tieT rfl _ _ rfl (B := wv3.heap.size) _ rfl EA.out _ _ rfl XA.out (by omega) (by simp) ?_; intro v5 w5 hown5 b5; have O5 := Lib.hid hown5; have B5 := Lib.hid (BA.out.trans b5); have R5 := Lib.hid (R.out.grow B5.out); have hs5 := B5.out.size; clear hown5 b5)
          replace R := Lib.hid (R.out.grow B5.out)
          replace DA := Lib.hid (DA.out.grow B5.out)
          replace TA := Lib.hid (TA.out.grow B5.out)
          replace BB := Lib.hid (BB.out.trans (B5.out.mono BB.out.size))
          go_wp2_with fail
          refine (tiesI_is TA.out V1.out).mono ?_
          rintro e wv4 ⟨rfl, b9⟩
          replace R := Lib.hid (R.out.grow b9)
          replace DA := Lib.hid (DA.out.grow b9)
          replace TA := Lib.hid (TA.out.grow b9)
          replace O5 := Lib.hid (O5.out.grow b9)
          replace BB := Lib.hid (BB.out.trans (b9.mono BB.out.size))
          clear b9
          go_wp2_with fail
          refine (tiesI_is DA.out V2.out).mono ?_
          rintro e wv5 ⟨rfl, b9⟩
          replace R := Lib.hid (R.out.grow b9)
          replace DA := Lib.hid (DA.out.grow b9)
          replace TA := Lib.hid (TA.out.grow b9)
          replace O5 := Lib.hid (O5.out.grow b9)
          replace BB := Lib.hid (BB.out.trans (b9.mono BB.out.size))
          clear b9
          go_wp2_with fail
          refine (tiesI_is O5.out.row HB.out).mono ?_
          rintro e wv6 ⟨rfl, b9⟩
          replace R := Lib.hid (R.out.grow b9)
          replace DA := Lib.hid (DA.out.grow b9)
          replace TA := Lib.hid (TA.out.grow b9)
          replace O5 := Lib.hid (O5.out.grow b9)
          replace BB := Lib.hid (BB.out.trans (b9.mono BB.out.size))
          clear b9
          go_wp2_with fail
          go_ret
          exact ⟨by first | rfl | (simp; done) | (simp; omega), BB.out⟩
        · skip
          have qp : ¬ cR = q := by omega
          have DA := Lib.hid (R.out.row.drop q qn)
          rw [Nat.zero_add] at DA
          have TA := Lib.hid (R.out.row.take q qn)
          go_wp2_with (at_builtin; refine tcopy tieT rfl _ _ rfl (B := wv3.heap.size) _ rfl EA.out _ _ rfl XA.out (by omega) (by simp) ?_; intro v5 w5 hown5 b5; have O5 := Lib.hid hown5; have B5 := Lib.hid (BA.out.trans b5); have R5 := Lib.hid (R.out.grow B5.out); have hs5 := B5.out.size; clear hown5 b5)
          replace R := Lib.hid (R.out.grow B5.out)
          replace DA := Lib.hid (DA.out.grow B5.out)
          replace TA := Lib.hid (TA.out.grow B5.out)
          replace BB := Lib.hid (BB.out.trans (B5.out.mono BB.out.size))
          go_wp2_with fail
          refine (tiesI_is TA.out V1.out).mono ?_
          rintro e wv4 ⟨rfl, b9⟩
          replace R := Lib.hid (R.out.grow b9)
          replace DA := Lib.hid (DA.out.grow b9)
          replace TA := Lib.hid (TA.out.grow b9)
          replace O5 := Lib.hid (O5.out.grow b9)
          replace BB := Lib.hid (BB.out.trans (b9.mono BB.out.size))
          clear b9
          go_wp2_with fail
          refine (tiesI_is DA.out V2.out).mono ?_
          rintro e wv5 ⟨rfl, b9⟩
          replace R := Lib.hid (R.out.grow b9)
          replace DA := Lib.hid (DA.out.grow b9)
          replace TA := Lib.hid (TA.out.grow b9)
          replace O5 := Lib.hid (O5.out.grow b9)
          replace BB := Lib.hid (BB.out.trans (b9.mono BB.out.size))
          clear b9
          go_wp2_with fail
          refine (tiesI_is O5.out.row HB.out).mono ?_
          rintro e wv6 ⟨rfl, b9⟩
          replace R := Lib.hid (R.out.grow b9)
          replace DA := Lib.hid (DA.out.grow b9)
          replace TA := Lib.hid (TA.out.grow b9)
          replace O5 := Lib.hid (O5.out.grow b9)
          replace BB := Lib.hid (BB.out.trans (b9.mono BB.out.size))
          clear b9
          go_wp2_with fail
          go_ret
          exact ⟨by first | rfl | (simp; done) | (simp; omega), BB.out⟩
    · have p0 : 0 < a.length := by omega
      rcases own_base R.out with ⟨rfl, hn9, rfl, he9⟩ | ⟨gR, rfl, -⟩
      · subst he9
        clear hn9
        obtain rfl : q = 0 := by simpa using qn
        have TA : Hid (Row wv3 (.slice none 0 0) (List.take 0 ([] : List Pc))) := Lib.hid (row_none _)
        have DA : Hid (Row wv3 (.slice none 0 0) (List.drop 0 ([] : List Pc))) := Lib.hid (row_none _)
        exact absurd p0 (by simp)
      · have qc : (q : Int) ≤ (cR : Int) := by omega
        by_cases qx : q = cR
        · skip
          obtain rfl : cR = a.length := by omega
          subst qx
          have DA := Lib.hid (row_past (w := wv3) (l := a) gR a.length rfl)
          have TA := Lib.hid (R.out.row.take _ qn)
          have i0 : (0 : Int) < (a.length : Int) := by omega
          obtain ⟨x, hx⟩ : ∃ x, a[a.length - 1] = x := ⟨_, rfl⟩
          obtain ⟨z, hz⟩ : ∃ z, a.length - 1 = z := ⟨_, rfl⟩
          have hza : z < a.length := by omega
          have w2 : IntKind.i64.wrap ((a.length : Int) - 1) = (z : Int) := by rw [show (a.length : Int) - 1 = (z : Int) by omega]; exact IntWalk.i64_in _ (by omega)
          have i1 : (0 : Int) ≤ (z : Int) := by omega
          have i3 : (z : Int) < (a.length : Int) := by omega
          have i5 : ((a.length : Int) == 0) = false := beq_eq_false_iff_ne.2 (by omega)
          have ET : Hid (isTies (a ++ [x]) = false) := Lib.hid (by rw [← hx]; exact isTies_twice p0)
          have hx2 : a[z] = x := by subst hz; exact hx
          obtain ⟨g, pR, eR, k5, k6, k7, k8, hp⟩ := R.out.at p0
          simp only [Value.slice.injEq, Option.some.injEq, Addr.mk.injEq, and_true, true_and] at eR
          obtain ⟨rfl, rfl⟩ := eR
          have d1 := (hp z hza).top
          have d2 := (hp z hza).bot
          rw [hx2] at d1 d2
          obtain ⟨x1, x2⟩ := x
          have D1 := Lib.hid d1; have D2 := Lib.hid d2
          clear hp hx hx2 hz k5 k6 k7 k8 d1 d2
          go_wp2_with (first | (at_builtin; refine tcopy tieT rfl _ _ rfl (B := wv3.heap.size) _ rfl EA.out _ _ rfl XA.out (by omega) (by simp) ?_; intro v5 w5 hown5 b5; have O5 := Lib.hid hown5; have B5 := Lib.hid (BA.out.trans b5); have R5 := Lib.hid (R.out.grow B5.out); have hs5 := B5.out.size; clear hown5 b5; have e1 := (B5.out.cell (cell_below D1.out)).trans D1.out; have e2 := (B5.out.cell (cell_below D2.out)).trans D2.out; obtain ⟨n1, n2⟩ := new_two w5 (.int .i64 x1) (.int .i64 x2) 27; have N1 := Lib.hid n1; have N2 := Lib.hid n2; have A5 := Lib.hid ((Below.refl w5.heap.size w5).alloc (Nat.le_refl _) (.cells #[.int .i64 x1, .int .i64 x2] 27)); clear n1 n2) | (at_builtin; refine append_pair tieT rfl _ _ rfl (B := wv3.heap.size) _ _ rfl (O5.out.grow A5.out) ⟨w5.heap.size, 0, none⟩ (x1, x2) rfl N1.out N2.out (by omega) (by simp; omega) ?_; intro v8 w8 hown8 hg8; have O8 := Lib.hid hown8; have B8 := Lib.hid (B5.out.trans ((A5.out.mono hs5).trans ((O5.out.grow A5.out).below hg8 (by simp; omega)))); clear hown8 hg8))
          replace R := Lib.hid (R.out.grow B8.out)
          replace DA := Lib.hid (DA.out.grow B8.out)
          replace TA := Lib.hid (TA.out.grow B8.out)
          replace BB := Lib.hid (BB.out.trans (B8.out.mono BB.out.size))
          go_wp2_with fail
          refine (tiesI_is TA.out V1.out).mono ?_
          rintro e wv4 ⟨rfl, b9⟩
          replace R := Lib.hid (R.out.grow b9)
          replace DA := Lib.hid (DA.out.grow b9)
          replace TA := Lib.hid (TA.out.grow b9)
          replace O8 := Lib.hid (O8.out.grow b9)
          replace BB := Lib.hid (BB.out.trans (b9.mono BB.out.size))
          clear b9
          go_wp2_with fail
          refine (tiesI_is DA.out V2.out).mono ?_
          rintro e wv5 ⟨rfl, b9⟩
          replace R := Lib.hid (R.out.grow b9)
          replace DA := Lib.hid (DA.out.grow b9)
          replace TA := Lib.hid (TA.out.grow b9)
          replace O8 := Lib.hid (O8.out.grow b9)
          replace BB := Lib.hid (BB.out.trans (b9.mono BB.out.size))
          clear b9
          go_wp2_with fail
          refine (tiesI_is O8.out.row ET.out).mono ?_
          rintro e wv6 ⟨rfl, b9⟩
          replace R := Lib.hid (R.out.grow b9)
          replace DA := Lib.hid (DA.out.grow b9)
          replace TA := Lib.hid (TA.out.grow b9)
          replace O8 := Lib.hid (O8.out.grow b9)
          replace BB := Lib.hid (BB.out.trans (b9.mono BB.out.size))
          clear b9
          go_wp2_with fail
          go_ret
          exact ⟨by first | rfl | (simp; done) | (simp; omega), BB.out⟩
        · skip
          have qp : ¬ cR = q := by omega
          have DA := Lib.hid (R.out.row.drop q qn)
          rw [Nat.zero_add] at DA
          have TA := Lib.hid (R.out.row.take q qn)
          have i0 : (0 : Int) < (a.length : Int) := by omega
          obtain ⟨x, hx⟩ : ∃ x, a[a.length - 1] = x := ⟨_, rfl⟩
          obtain ⟨z, hz⟩ : ∃ z, a.length - 1 = z := ⟨_, rfl⟩
          have hza : z < a.length := by omega
          have w2 : IntKind.i64.wrap ((a.length : Int) - 1) = (z : Int) := by rw [show (a.length : Int) - 1 = (z : Int) by omega]; exact IntWalk.i64_in _ (by omega)
          have i1 : (0 : Int) ≤ (z : Int) := by omega
          have i3 : (z : Int) < (a.length : Int) := by omega
          have i5 : ((a.length : Int) == 0) = false := beq_eq_false_iff_ne.2 (by omega)
          have ET : Hid (isTies (a ++ [x]) = false) := Lib.hid (by rw [← hx]; exact isTies_twice p0)
          have hx2 : a[z] = x := by subst hz; exact hx
          obtain ⟨g, pR, eR, k5, k6, k7, k8, hp⟩ := R.out.at p0
          simp only [Value.slice.injEq, Option.some.injEq, Addr.mk.injEq, and_true, true_and] at eR
          obtain ⟨rfl, rfl⟩ := eR
          have d1 := (hp z hza).top
          have d2 := (hp z hza).bot
          rw [hx2] at d1 d2
          obtain ⟨x1, x2⟩ := x
          have D1 := Lib.hid d1; have D2 := Lib.hid d2
          clear hp hx hx2 hz k5 k6 k7 k8 d1 d2
          go_wp2_with (first | (at_builtin; refine tcopy tieT rfl _ _ rfl (B := wv3.heap.size) _ rfl EA.out _ _ rfl XA.out (by omega) (by simp) ?_; intro v5 w5 hown5 b5; have O5 := Lib.hid hown5; have B5 := Lib.hid (BA.out.trans b5); have R5 := Lib.hid (R.out.grow B5.out); have hs5 := B5.out.size; clear hown5 b5; have e1 := (B5.out.cell (cell_below D1.out)).trans D1.out; have e2 := (B5.out.cell (cell_below D2.out)).trans D2.out; obtain ⟨n1, n2⟩ := new_two w5 (.int .i64 x1) (.int .i64 x2) 27; have N1 := Lib.hid n1; have N2 := Lib.hid n2; have A5 := Lib.hid ((Below.refl w5.heap.size w5).alloc (Nat.le_refl _) (.cells #[.int .i64 x1, .int .i64 x2] 27)); clear n1 n2) | (at_builtin; refine append_pair tieT rfl _ _ rfl (B := wv3.heap.size) _ _ rfl (O5.out.grow A5.out) ⟨w5.heap.size, 0, none⟩ (x1, x2) rfl N1.out N2.out (by omega) (by simp; omega) ?_; intro v8 w8 hown8 hg8; have O8 := Lib.hid hown8; have B8 := Lib.hid (B5.out.trans ((A5.out.mono hs5).trans ((O5.out.grow A5.out).below hg8 (by simp; omega)))); clear hown8 hg8))
          replace R := Lib.hid (R.out.grow B8.out)
          replace DA := Lib.hid (DA.out.grow B8.out)
          replace TA := Lib.hid (TA.out.grow B8.out)
          replace BB := Lib.hid (BB.out.trans (B8.out.mono BB.out.size))
          go_wp2_with fail
          refine (tiesI_is TA.out V1.out).mono ?_
          rintro e wv4 ⟨rfl, b9⟩
          replace R := Lib.hid (R.out.grow b9)
          replace DA := Lib.hid (DA.out.grow b9)
          replace TA := Lib.hid (TA.out.grow b9)
          replace O8 := Lib.hid (O8.out.grow b9)
          replace BB := Lib.hid (BB.out.trans (b9.mono BB.out.size))
          clear b9
          go_wp2_with fail
          refine (tiesI_is DA.out V2.out).mono ?_
          rintro e wv5 ⟨rfl, b9⟩
          replace R := Lib.hid (R.out.grow b9)
          replace DA := Lib.hid (DA.out.grow b9)
          replace TA := Lib.hid (TA.out.grow b9)
          replace O8 := Lib.hid (O8.out.grow b9)
          replace BB := Lib.hid (BB.out.trans (b9.mono BB.out.size))
          clear b9
          go_wp2_with fail
          refine (tiesI_is O8.out.row ET.out).mono ?_
          rintro e wv6 ⟨rfl, b9⟩
          replace R := Lib.hid (R.out.grow b9)
          replace DA := Lib.hid (DA.out.grow b9)
          replace TA := Lib.hid (TA.out.grow b9)
          replace O8 := Lib.hid (O8.out.grow b9)
          replace BB := Lib.hid (BB.out.trans (b9.mono BB.out.size))
          clear b9
          go_wp2_with fail
          go_ret
          exact ⟨by first | rfl | (simp; done) | (simp; omega), BB.out⟩

set_option maxRecDepth 100000 in
theorem lifted (os : Os) (started : os.Started) (H : Type) (enc : TypeId × Value → H) :
    ReturnsInHanded {} Try.checked os 3 .any (Rows.fnTiesSpec.pre6 enc Try.prog Try.f3 Rows.fnTiesRow.domain false) (Rows.fnTiesSpec.post enc Try.prog Try.f3 false true false false) := by
  refine returnsInHanded_of_change (C := Try.checked) own started (by kernel_rfl) Try.func3
    (ChangeSpec.witness6 (enc := enc) (C := Try.checked) false ⟨#[], #[.slice none 0 0, .slice none 0 0], []⟩ 8 (by kernel_rfl) (by kernel_rfl) (by kernel_rfl) (by kernel_rfl)) ?_
  intro W base args ds gs before hval0 hW hcnd _
  have hval : ∀ (j : Nat) t v, Try.f3.params[j]? = some t → args[j]? = some v → Value.okWide Try.prog W .any base t v := hval0
  have hW' := hW
  obtain ⟨p, q, hA0, hV, rfl, hfz, hnd⟩ := hW
  have hA : DataW.TrodAll enc Try.prog W 0 (fun _ => true) true Try.f3.params.toList args.toList ds p := hA0
  rw [Try.params3] at hA hval
  obtain ⟨v0, vs0, d0, ds0, p0, q0, hargs, rfl, rfl, h0, r0⟩ := trodAll_cons hA
  obtain ⟨v1, vs1, d1, ds1, p1, q1, rfl, rfl, rfl, h1, r1⟩ := trodAll_cons r0
  obtain ⟨rfl, rfl, rfl⟩ := trodAll_nil r1
  obtain rfl : args = #[v0, v1] := by cases args; simp_all
  obtain ⟨rfl, rfl⟩ := trodVars_none hV
  obtain ⟨a0, len0, cap0, rfl⟩ := okWide_slice Try.underlying22 (hval 0 22 v0 rfl rfl)
  have k0 := h0
  have lt0 : ∀ x ∈ p0, x.block < W.heap.size := by obtain ⟨m, hm⟩ := k0; exact DataW.trod_lt m _ _ _ hm
  obtain ⟨z0, w0⟩ : ∃ zs, IsRow .u8 W a0 len0 cap0 zs := by
    obtain ⟨fuel, hf⟩ := h0
    rcases open_ints Try.underlying22 Try.underlying5 (by kernel_rfl) hf with ⟨hcs, _⟩ | ⟨x, l, c, zs, hcs, _, hl, hm, hz, _, hcell, hwz⟩
    · simp [Value.cells] at hcs
      obtain ⟨rfl, rfl, rfl⟩ := hcs
      exact ⟨[], .inl ⟨rfl, rfl, rfl, rfl⟩⟩
    · simp [Value.cells] at hcs
      obtain ⟨rfl, rfl, rfl⟩ := hcs
      exact ⟨zs, .inr ⟨_, rfl, hl, hm, by simpa using hz, hcell, hwz⟩⟩
  obtain ⟨a1, len1, cap1, rfl⟩ := okWide_slice Try.underlying22 (hval 1 22 v1 rfl rfl)
  have k1 := h1
  have lt1 : ∀ x ∈ p1, x.block < W.heap.size := by obtain ⟨m, hm⟩ := k1; exact DataW.trod_lt m _ _ _ hm
  obtain ⟨z1, w1⟩ : ∃ zs, IsRow .u8 W a1 len1 cap1 zs := by
    obtain ⟨fuel, hf⟩ := h1
    rcases open_ints Try.underlying22 Try.underlying5 (by kernel_rfl) hf with ⟨hcs, _⟩ | ⟨x, l, c, zs, hcs, _, hl, hm, hz, _, hcell, hwz⟩
    · simp [Value.cells] at hcs
      obtain ⟨rfl, rfl, rfl⟩ := hcs
      exact ⟨[], .inl ⟨rfl, rfl, rfl, rfl⟩⟩
    · simp [Value.cells] at hcs
      obtain ⟨rfl, rfl, rfl⟩ := hcs
      exact ⟨zs, .inr ⟨_, rfl, hl, hm, by simpa using hz, hcell, hwz⟩⟩
  clear hA0 hval0
  refine (walk a0 len0 cap0 z0 a1 len1 cap1 z1 W w0 w1).mono fun e W' ⟨he, bel⟩ => ?_
  subst he
  exact ⟨_, rfl, _, _, _, [], _, [], hW', trodAll_mk1 (shut_bool Try.underlying4 _), (trodAll_cons_mk (Below.trod laidOut (by kernel_rfl) (of_decide_eq_true (by kernel_rfl)) k0 bel lt0) (trodAll_cons_mk (Below.trod laidOut (by kernel_rfl) (of_decide_eq_true (by kernel_rfl)) k1 bel lt1) trodAll_mk0)), rfl, bel.frame _, fun h => by cases h⟩

theorem over : Rows.fnTiesRow.holds Try.pinned (OpenSpec.ofChange Rows.fnTiesSpec) :=
  OpenClaim.holds_of_wide 3 Try.f3 rfl rfl rfl rfl rfl rfl rfl ⟨rfl, rfl, rfl, rfl, rfl⟩ rfl rfl rfl rfl rfl (by kernel_rfl) Try.func3 (by kernel_rfl)
    (of_decide_eq_true (by kernel_rfl)) (by unfold Func.isWrapper; first | (rw [if_pos (by decide +kernel)]; kernel_rfl) | (rw [if_neg (by decide +kernel)]; exact ⟨rfl, rfl⟩))
    (fun os started H enc _ => lifted os started H enc)

/-- ████ THE STATEMENT ████ -/
theorem proved : Rows.FnTiesSaid := over
#print axioms proved
end Go.Proofs.Ythhdpjkmjebjhaa.fnTies
