/- For every input, the law FnTiesJoinParts of the given statements returns true over the program at this commit, and its arguments read afterwards as before: no condition. -/
import Derived.Test.YthhdpjkmjebjhabRows
import Derived.Test.YthhdpjkmjebjhabLawT
import Derived.WalkKit
import Derived.ProofKit
import Derived.OpenShut
import Derived.ShutString
import Derived.ChangeOld
import Derived.Below
namespace Go.Proofs.Ythhdpjkmjebjhab.fnTiesJoinParts
open Go.ChangeShapes Go.WideShapes Go.ChangeAt Go.RowKit
open Go.ChangeMaps (open_string shut_string)
set_option linter.unusedVariables false

theorem own : ownKnob Try.prog.godebug = none := by kernel_rfl
theorem laidOut : laidOutB Try.prog = true := by kernel_rfl

/-- WHAT THE WALK IS TOLD OF A SLICE OF INTEGERS THAT CAME IN: it is nil; or it leads to a row of 'cap' cells, the numbers 'zs' (the first 'len' are its elements, the rest its spare room), each fitting its kind. -/
def IsRow (k : IntKind) (w : World) (a : Option Addr) (len cap : Nat) (zs : List Int) : Prop :=
  (a = none ∧ len = 0 ∧ cap = 0 ∧ zs = []) ∨
  ∃ x, a = some x ∧ len ≤ cap ∧ cap ≤ maxLen ∧ zs.length = cap ∧ (∀ i, i < zs.length → w.cell? (x.add i) = some (.int k (zs.getD i 0))) ∧ ∀ n ∈ zs, (Lit.int k n).wf = true

set_option maxRecDepth 100000 in
set_option maxHeartbeats 3200000 in
theorem walk (a0 : Option Addr) (len0 cap0 : Nat) (z0 : List Int) (a1 : Option Addr) (len1 cap1 : Nat) (z1 : List Int) (w : World) (w0 : IsRow .u8 w a0 len0 cap0 z0) (w1 : IsRow .u8 w a1 len1 cap1 z1) :
    Calls Try.prog 7 #[.slice a0 len0 cap0, .slice a1 len1 cap1] w fun e w' => e = .returned (.bool true) ∧ Below w.heap.size w w' := by
  have hB := bytes_of w0
  have hB1 := bytes_len (bytes_of w1)
  unfold maxLen at hB1
  by_cases hl : 1048576 < len0
  · have hdec : decide (1048576 < len0) = true := by simpa using hl
    go_enter Try.func7, Try.ntmps7
    go_wp2_with fail
    go_ret
    exact ⟨rfl, Below.refl _ _⟩
  have hdec : decide (1048576 < len0) = false := by simpa using hl
  by_cases hl1 : 1048576 < len1
  · go_enter Try.func7, Try.ntmps7
    go_wp2_with fail
    go_ret
    exact ⟨rfl, Below.refl _ _⟩
  have hm : len0 ≤ 1048576 := by omega
  have hm1 : len1 ≤ 1048576 := by omega
  clear hB1
  go_enter Try.func7, Try.ntmps7
  go_wp2_with fail
  refine (DrawTiesJoin_any hB).mono ?_
  rintro e wv1 ⟨v, u, a, b, rfl, r0, r1, da, db, b1⟩
  clear w0 w1 hB
  have BB := Lib.hid b1
  clear b1
  have R := Lib.hid r0
  clear r0
  have U := Lib.hid r1
  clear r1
  have ha8 := da.1
  have hb8 := db.1
  obtain ⟨aR, cR, rfl, kR, mR⟩ := tlen_n R.out.row
  obtain ⟨aU, cU, rfl, kU, mU⟩ := tlen_n U.out.row
  clear da db
  cases hb : joinT a b with
  | none =>
    have HB := Lib.hid hb
    clear hb
    go_wp2_with fail
    refine (lst_no (implJoin_any R.out.row U.out.row) HB.out).mono ?_
    rintro e wv2 ⟨vX, rfl, o9, b9⟩
    replace R := Lib.hid (R.out.grow b9)
    replace U := Lib.hid (U.out.grow b9)
    replace BB := Lib.hid (BB.out.trans (b9.mono BB.out.size))
    clear b9
    have X := Lib.hid o9
    clear o9
    go_wp2_with fail
    refine (lst_no (specJoin_any R.out.row U.out.row) HB.out).mono ?_
    rintro e wv3 ⟨vY, rfl, o9, b9⟩
    replace R := Lib.hid (R.out.grow b9)
    replace U := Lib.hid (U.out.grow b9)
    replace X := Lib.hid (X.out.grow b9)
    replace BB := Lib.hid (BB.out.trans (b9.mono BB.out.size))
    clear b9
    have Y := Lib.hid o9
    clear o9
    go_wp2_with fail
    refine (sameTies_yes X.out.row Y.out.row rfl).mono ?_
    rintro e wv4 ⟨rfl, b9⟩
    replace R := Lib.hid (R.out.grow b9)
    replace U := Lib.hid (U.out.grow b9)
    replace X := Lib.hid (X.out.grow b9)
    replace Y := Lib.hid (Y.out.grow b9)
    replace BB := Lib.hid (BB.out.trans (b9.mono BB.out.size))
    clear b9
    go_wp2_with fail
    refine (sameTies_yes X.out.row Y.out.row rfl).mono ?_
    rintro e wv5 ⟨rfl, b9⟩
    replace R := Lib.hid (R.out.grow b9)
    replace U := Lib.hid (U.out.grow b9)
    replace X := Lib.hid (X.out.grow b9)
    replace Y := Lib.hid (Y.out.grow b9)
    replace BB := Lib.hid (BB.out.trans (b9.mono BB.out.size))
    clear b9
    go_wp2_with fail
    go_ret
    exact ⟨by first | rfl | (simp; done) | (simp; omega), BB.out⟩
  | some m =>
    have HB := Lib.hid hb
    clear hb
    go_wp2_with fail
    refine (lst_yes (implJoin_any R.out.row U.out.row) HB.out).mono ?_
    rintro e wv2 ⟨vP, rfl, o9, b9⟩
    replace R := Lib.hid (R.out.grow b9)
    replace U := Lib.hid (U.out.grow b9)
    replace BB := Lib.hid (BB.out.trans (b9.mono BB.out.size))
    clear b9
    have P := Lib.hid o9
    clear o9
    go_wp2_with fail
    refine (lst_yes (specJoin_any R.out.row U.out.row) HB.out).mono ?_
    rintro e wv3 ⟨vY, rfl, o9, b9⟩
    replace R := Lib.hid (R.out.grow b9)
    replace U := Lib.hid (U.out.grow b9)
    replace P := Lib.hid (P.out.grow b9)
    replace BB := Lib.hid (BB.out.trans (b9.mono BB.out.size))
    clear b9
    have Y := Lib.hid o9
    clear o9
    go_wp2_with fail
    refine (sameTies_yes P.out.row Y.out.row rfl).mono ?_
    rintro e wv4 ⟨rfl, b9⟩
    replace R := Lib.hid (R.out.grow b9)
    replace U := Lib.hid (U.out.grow b9)
    replace P := Lib.hid (P.out.grow b9)
    replace Y := Lib.hid (Y.out.grow b9)
    replace BB := Lib.hid (BB.out.trans (b9.mono BB.out.size))
    clear b9
    clear Y
    obtain ⟨aP, cP, rfl, kP, mP⟩ := tlen_n P.out.row
    obtain ⟨q1, -, q3, q4⟩ := joinT_some HB.out
    have HF := Lib.hid q1; have VO := Lib.hid q4
    have VA := Lib.hid (fit_parts q1).1; have VB := Lib.hid (fit_parts q1).2
    have a12 := isTies_len VA.out
    have b12 := isTies_len VB.out
    clear q1 q4
    obtain ⟨q, hq⟩ : ∃ j : Nat, len1 % (m.length + 1) = j := ⟨_, rfl⟩
    have qn : q ≤ m.length := by have := Nat.mod_lt len1 (show 0 < m.length + 1 by omega); omega
    have qe : (len1 : Int) % ((m.length : Int) + 1) = (q : Int) := by rw [← hq, Int.natCast_emod]; rfl
    have qt : IntKind.i64.wrap ((len1 : Int).tmod ((m.length : Int) + 1)) = (q : Int) := by rw [Int.tmod_eq_emod_of_nonneg (by omega), qe]; exact IntWalk.i64_in _ (by omega)
    have q2 : IntKind.i64.wrap ((m.length : Int) + 1) = (m.length : Int) + 1 := IntWalk.i64_in _ (by omega)
    have qz : (((m.length : Int) + 1) == 0) = false := beq_eq_false_iff_ne.2 (by omega)
    have q3 : IntKind.i64.wrap (q : Int) = (q : Int) := IntWalk.i64_in _ (by omega)
    have q4 : (0 : Int) ≤ (q : Int) := by omega
    clear hq
    have J1 := Lib.hid ((join_parts VO.out q).1)
    have J2 := Lib.hid ((join_parts VO.out q).2)
    rcases own_base P.out with ⟨rfl, hn9, rfl, he9⟩ | ⟨gP, rfl, -⟩
    · subst he9
      clear hn9
      obtain rfl : q = 0 := by simpa using qn
      have TA : Hid (Row wv4 (.slice none 0 0) (List.take 0 ([] : List Pc))) := Lib.hid (row_none _)
      have DA : Hid (Row wv4 (.slice none 0 0) (List.drop 0 ([] : List Pc))) := Lib.hid (row_none _)
      go_wp2_with fail
      refine wp_region_held_drew (S := (fun w' => Below wv4.heap.size wv4 w')) (by kernel_rfl) (by exact (Below.refl _ _).drew) (fun hHeld => ?_)
      refine take_h 0 69 rfl rfl (by kernel_rfl) (by kernel_rfl) (by kernel_rfl) (fun _ _ _ h => h) (by kernel_rfl) (by intro w hSw; (try dsimp only at hSw); go_simp; try with_reducible rfl) (by assumption) ?_
      refine take_h 1 70 rfl rfl (by kernel_rfl) (by kernel_rfl) (by kernel_rfl) (fun _ _ _ h => h) (by kernel_rfl) (by intro w hSw; (try dsimp only at hSw); go_simp; try with_reducible rfl) (by assumption) ?_
      refine take_h 2 71 rfl rfl (by kernel_rfl) (by kernel_rfl) (by kernel_rfl) (fun _ _ _ h => h) (by kernel_rfl) (by intro w hSw; (try dsimp only at hSw); go_simp; try with_reducible rfl) (by assumption) ?_
      refine take_h 3 72 rfl rfl (by kernel_rfl) (by kernel_rfl) (by kernel_rfl) (fun _ _ _ h => h) (by kernel_rfl) (by intro w hSw; (try dsimp only at hSw); go_simp; try with_reducible rfl) (by assumption) ?_
      refine take_h 4 73 rfl rfl (by kernel_rfl) (by kernel_rfl) (by kernel_rfl) (fun _ _ _ h => h) (by kernel_rfl) (by intro w hSw; (try dsimp only at hSw); go_simp; try with_reducible rfl) (by assumption) ?_
      refine take_h 5 74 rfl rfl (by kernel_rfl) (by kernel_rfl) (by kernel_rfl) (fun _ _ _ h => h) (by kernel_rfl) (by intro w hSw; (try dsimp only at hSw); go_simp; try with_reducible rfl) (by assumption) ?_
      refine wpAnyH_ready (rs := [6]) (by kernel_rfl) (by simp) (AllReadyH.cons rfl (fun K hK => ?_) AllReadyH.nil)
      go_simp
      go_wp2_with ((refine (lst_yes (implJoin_any (TA.out.grow hHeld) (DA.out.grow hHeld)) J1.out).mono ?_; rintro e wv5 ⟨vX, rfl, o9, b9⟩; have hs := Below.trans hHeld (Below.mono b9 (Below.size hHeld))))
      refine hK.out _ _ (by (try dsimp only); exact hs) (fun hHeld => ?_)
      clear hK K
      refine take_h 7 68 rfl rfl (by kernel_rfl) (by kernel_rfl) (by kernel_rfl) (fun _ _ _ h => h) (by kernel_rfl) (by intro w hSw; (try dsimp only at hSw); go_simp; try with_reducible rfl) (by assumption) ?_
      refine take_h 8 76 rfl rfl (by kernel_rfl) (by kernel_rfl) (by kernel_rfl) (fun _ _ _ h => h) (by kernel_rfl) (by intro w hSw; (try dsimp only at hSw); go_simp; try with_reducible rfl) (by assumption) ?_
      refine take_h 9 77 rfl rfl (by kernel_rfl) (by kernel_rfl) (by kernel_rfl) (fun _ _ _ h => h) (by kernel_rfl) (by intro w hSw; (try dsimp only at hSw); go_simp; try with_reducible rfl) (by assumption) ?_
      refine take_h 10 12 rfl rfl (by kernel_rfl) (by kernel_rfl) (by kernel_rfl) (fun _ _ _ h => h) (by kernel_rfl) (by intro w hSw; (try dsimp only at hSw); go_simp; try with_reducible rfl) (by assumption) ?_
      refine take_h 11 13 rfl rfl (by kernel_rfl) (by kernel_rfl) (by kernel_rfl) (fun _ _ _ h => h) (by kernel_rfl) (by intro w hSw; (try dsimp only at hSw); go_simp; try with_reducible rfl) (by assumption) ?_
      refine wpAnyH_done (by kernel_rfl) ?_ _
      simp only [Exit.then]
      simp only [Act.put, List.setIfInBounds_toArray, List.set_cons_succ, List.set_cons_zero]
      replace R := Lib.hid (R.out.grow hs)
      replace U := Lib.hid (U.out.grow hs)
      replace P := Lib.hid (P.out.grow hs)
      replace TA := Lib.hid (TA.out.grow hs)
      replace DA := Lib.hid (DA.out.grow hs)
      replace BB := Lib.hid (BB.out.trans (hs.mono BB.out.size))
      clear hHeld hs
      have X := Lib.hid o9
      clear o9
      go_wp2_with fail
      refine wp_region_held_drew (S := (fun w' => Below wv5.heap.size wv5 w')) (by kernel_rfl) (by exact (Below.refl _ _).drew) (fun hHeld => ?_)
      refine take_h 0 79 rfl rfl (by kernel_rfl) (by kernel_rfl) (by kernel_rfl) (fun _ _ _ h => h) (by kernel_rfl) (by intro w hSw; (try dsimp only at hSw); go_simp; try with_reducible rfl) (by assumption) ?_
      refine take_h 1 80 rfl rfl (by kernel_rfl) (by kernel_rfl) (by kernel_rfl) (fun _ _ _ h => h) (by kernel_rfl) (by intro w hSw; (try dsimp only at hSw); go_simp; try with_reducible rfl) (by assumption) ?_
      refine take_h 2 81 rfl rfl (by kernel_rfl) (by kernel_rfl) (by kernel_rfl) (fun _ _ _ h => h) (by kernel_rfl) (by intro w hSw; (try dsimp only at hSw); go_simp; try with_reducible rfl) (by assumption) ?_
      refine take_h 3 82 rfl rfl (by kernel_rfl) (by kernel_rfl) (by kernel_rfl) (fun _ _ _ h => h) (by kernel_rfl) (by intro w hSw; (try dsimp only at hSw); go_simp; try with_reducible rfl) (by assumption) ?_
      refine take_h 4 83 rfl rfl (by kernel_rfl) (by kernel_rfl) (by kernel_rfl) (fun _ _ _ h => h) (by kernel_rfl) (by intro w hSw; (try dsimp only at hSw); go_simp; try with_reducible rfl) (by assumption) ?_
      refine take_h 5 84 rfl rfl (by kernel_rfl) (by kernel_rfl) (by kernel_rfl) (fun _ _ _ h => h) (by kernel_rfl) (by intro w hSw; (try dsimp only at hSw); go_simp; try with_reducible rfl) (by assumption) ?_
      refine wpAnyH_ready (rs := [6]) (by kernel_rfl) (by simp) (AllReadyH.cons rfl (fun K hK => ?_) AllReadyH.nil)
      go_simp
      go_wp2_with ((refine (lst_yes (implJoin_any (DA.out.grow hHeld) (TA.out.grow hHeld)) J2.out).mono ?_; rintro e wv6 ⟨vY, rfl, o9, b9⟩; have hs := Below.trans hHeld (Below.mono b9 (Below.size hHeld))))
      refine hK.out _ _ (by (try dsimp only); exact hs) (fun hHeld => ?_)
      clear hK K
      refine take_h 7 78 rfl rfl (by kernel_rfl) (by kernel_rfl) (by kernel_rfl) (fun _ _ _ h => h) (by kernel_rfl) (by intro w hSw; (try dsimp only at hSw); go_simp; try with_reducible rfl) (by assumption) ?_
      refine take_h 8 86 rfl rfl (by kernel_rfl) (by kernel_rfl) (by kernel_rfl) (fun _ _ _ h => h) (by kernel_rfl) (by intro w hSw; (try dsimp only at hSw); go_simp; try with_reducible rfl) (by assumption) ?_
      refine take_h 9 87 rfl rfl (by kernel_rfl) (by kernel_rfl) (by kernel_rfl) (fun _ _ _ h => h) (by kernel_rfl) (by intro w hSw; (try dsimp only at hSw); go_simp; try with_reducible rfl) (by assumption) ?_
      refine take_h 10 14 rfl rfl (by kernel_rfl) (by kernel_rfl) (by kernel_rfl) (fun _ _ _ h => h) (by kernel_rfl) (by intro w hSw; (try dsimp only at hSw); go_simp; try with_reducible rfl) (by assumption) ?_
      refine take_h 11 15 rfl rfl (by kernel_rfl) (by kernel_rfl) (by kernel_rfl) (fun _ _ _ h => h) (by kernel_rfl) (by intro w hSw; (try dsimp only at hSw); go_simp; try with_reducible rfl) (by assumption) ?_
      refine wpAnyH_done (by kernel_rfl) ?_ _
      simp only [Exit.then]
      simp only [Act.put, List.setIfInBounds_toArray, List.set_cons_succ, List.set_cons_zero]
      replace R := Lib.hid (R.out.grow hs)
      replace U := Lib.hid (U.out.grow hs)
      replace P := Lib.hid (P.out.grow hs)
      replace TA := Lib.hid (TA.out.grow hs)
      replace DA := Lib.hid (DA.out.grow hs)
      replace X := Lib.hid (X.out.grow hs)
      replace BB := Lib.hid (BB.out.trans (hs.mono BB.out.size))
      clear hHeld hs
      have Y := Lib.hid o9
      clear o9
      go_wp2_with fail
      refine (sameTies_yes X.out.row P.out.row rfl).mono ?_
      rintro e wv7 ⟨rfl, b9⟩
      replace R := Lib.hid (R.out.grow b9)
      replace U := Lib.hid (U.out.grow b9)
      replace P := Lib.hid (P.out.grow b9)
      replace TA := Lib.hid (TA.out.grow b9)
      replace DA := Lib.hid (DA.out.grow b9)
      replace X := Lib.hid (X.out.grow b9)
      replace Y := Lib.hid (Y.out.grow b9)
      replace BB := Lib.hid (BB.out.trans (b9.mono BB.out.size))
      clear b9
      go_wp2_with fail
      refine (sameTies_yes Y.out.row P.out.row rfl).mono ?_
      rintro e wv8 ⟨rfl, b9⟩
      replace R := Lib.hid (R.out.grow b9)
      replace U := Lib.hid (U.out.grow b9)
      replace P := Lib.hid (P.out.grow b9)
      replace TA := Lib.hid (TA.out.grow b9)
      replace DA := Lib.hid (DA.out.grow b9)
      replace X := Lib.hid (X.out.grow b9)
      replace Y := Lib.hid (Y.out.grow b9)
      replace BB := Lib.hid (BB.out.trans (b9.mono BB.out.size))
      clear b9
      go_wp2_with fail
      go_ret
      exact ⟨by first | rfl | (simp; done) | (simp; omega), BB.out⟩
    · have qc : (q : Int) ≤ (cP : Int) := by omega
      by_cases qx : q = cP
      · skip
        obtain rfl : cP = m.length := by omega
        subst qx
        have DA := Lib.hid (row_past (w := wv4) (l := m) gP m.length rfl)
        have TA := Lib.hid (P.out.row.take _ qn)
        go_wp2_with fail
        refine wp_region_held_drew (S := (fun w' => Below wv4.heap.size wv4 w')) (by kernel_rfl) (by exact (Below.refl _ _).drew) (fun hHeld => ?_)
        refine take_h 0 69 rfl rfl (by kernel_rfl) (by kernel_rfl) (by kernel_rfl) (fun _ _ _ h => h) (by kernel_rfl) (by intro w hSw; (try dsimp only at hSw); go_simp; try with_reducible rfl) (by assumption) ?_
        refine take_h 1 70 rfl rfl (by kernel_rfl) (by kernel_rfl) (by kernel_rfl) (fun _ _ _ h => h) (by kernel_rfl) (by intro w hSw; (try dsimp only at hSw); go_simp; try with_reducible rfl) (by assumption) ?_
        refine take_h 2 71 rfl rfl (by kernel_rfl) (by kernel_rfl) (by kernel_rfl) (fun _ _ _ h => h) (by kernel_rfl) (by intro w hSw; (try dsimp only at hSw); go_simp; try with_reducible rfl) (by assumption) ?_
        refine take_h 3 72 rfl rfl (by kernel_rfl) (by kernel_rfl) (by kernel_rfl) (fun _ _ _ h => h) (by kernel_rfl) (by intro w hSw; (try dsimp only at hSw); go_simp; try with_reducible rfl) (by assumption) ?_
        refine take_h 4 73 rfl rfl (by kernel_rfl) (by kernel_rfl) (by kernel_rfl) (fun _ _ _ h => h) (by kernel_rfl) (by intro w hSw; (try dsimp only at hSw); go_simp; try with_reducible rfl) (by assumption) ?_
        refine take_h 5 74 rfl rfl (by kernel_rfl) (by kernel_rfl) (by kernel_rfl) (fun _ _ _ h => h) (by kernel_rfl) (by intro w hSw; (try dsimp only at hSw); go_simp; try with_reducible rfl) (by assumption) ?_
        refine wpAnyH_ready (rs := [6]) (by kernel_rfl) (by simp) (AllReadyH.cons rfl (fun K hK => ?_) AllReadyH.nil)
        go_simp
        go_wp2_with ((refine (lst_yes (implJoin_any (TA.out.grow hHeld) (DA.out.grow hHeld)) J1.out).mono ?_; rintro e wv5 ⟨vX, rfl, o9, b9⟩; have hs := Below.trans hHeld (Below.mono b9 (Below.size hHeld))))
        refine hK.out _ _ (by (try dsimp only); exact hs) (fun hHeld => ?_)
        clear hK K
        refine take_h 7 68 rfl rfl (by kernel_rfl) (by kernel_rfl) (by kernel_rfl) (fun _ _ _ h => h) (by kernel_rfl) (by intro w hSw; (try dsimp only at hSw); go_simp; try with_reducible rfl) (by assumption) ?_
        refine take_h 8 76 rfl rfl (by kernel_rfl) (by kernel_rfl) (by kernel_rfl) (fun _ _ _ h => h) (by kernel_rfl) (by intro w hSw; (try dsimp only at hSw); go_simp; try with_reducible rfl) (by assumption) ?_
        refine take_h 9 77 rfl rfl (by kernel_rfl) (by kernel_rfl) (by kernel_rfl) (fun _ _ _ h => h) (by kernel_rfl) (by intro w hSw; (try dsimp only at hSw); go_simp; try with_reducible rfl) (by assumption) ?_
        refine take_h 10 12 rfl rfl (by kernel_rfl) (by kernel_rfl) (by kernel_rfl) (fun _ _ _ h => h) (by kernel_rfl) (by intro w hSw; (try dsimp only at hSw); go_simp; try with_reducible rfl) (by assumption) ?_
        refine take_h 11 13 rfl rfl (by kernel_rfl) (by kernel_rfl) (by kernel_rfl) (fun _ _ _ h => h) (by kernel_rfl) (by intro w hSw; (try dsimp only at hSw); go_simp; try with_reducible rfl) (by assumption) ?_
        refine wpAnyH_done (by kernel_rfl) ?_ _
        simp only [Exit.then]
        simp only [Act.put, List.setIfInBounds_toArray, List.set_cons_succ, List.set_cons_zero]
        replace R := Lib.hid (R.out.grow hs)
        replace U := Lib.hid (U.out.grow hs)
        replace P := Lib.hid (P.out.grow hs)
        replace DA := Lib.hid (DA.out.grow hs)
        replace TA := Lib.hid (TA.out.grow hs)
        replace BB := Lib.hid (BB.out.trans (hs.mono BB.out.size))
        clear hHeld hs
        have X := Lib.hid o9
        clear o9
        go_wp2_with fail
        refine wp_region_held_drew (S := (fun w' => Below wv5.heap.size wv5 w')) (by kernel_rfl) (by exact (Below.refl _ _).drew) (fun hHeld => ?_)
        refine take_h 0 79 rfl rfl (by kernel_rfl) (by kernel_rfl) (by kernel_rfl) (fun _ _ _ h => h) (by kernel_rfl) (by intro w hSw; (try dsimp only at hSw); go_simp; try with_reducible rfl) (by assumption) ?_
        refine take_h 1 80 rfl rfl (by kernel_rfl) (by kernel_rfl) (by kernel_rfl) (fun _ _ _ h => h) (by kernel_rfl) (by intro w hSw; (try dsimp only at hSw); go_simp; try with_reducible rfl) (by assumption) ?_
        refine take_h 2 81 rfl rfl (by kernel_rfl) (by kernel_rfl) (by kernel_rfl) (fun _ _ _ h => h) (by kernel_rfl) (by intro w hSw; (try dsimp only at hSw); go_simp; try with_reducible rfl) (by assumption) ?_
        refine take_h 3 82 rfl rfl (by kernel_rfl) (by kernel_rfl) (by kernel_rfl) (fun _ _ _ h => h) (by kernel_rfl) (by intro w hSw; (try dsimp only at hSw); go_simp; try with_reducible rfl) (by assumption) ?_
        refine take_h 4 83 rfl rfl (by kernel_rfl) (by kernel_rfl) (by kernel_rfl) (fun _ _ _ h => h) (by kernel_rfl) (by intro w hSw; (try dsimp only at hSw); go_simp; try with_reducible rfl) (by assumption) ?_
        refine take_h 5 84 rfl rfl (by kernel_rfl) (by kernel_rfl) (by kernel_rfl) (fun _ _ _ h => h) (by kernel_rfl) (by intro w hSw; (try dsimp only at hSw); go_simp; try with_reducible rfl) (by assumption) ?_
        refine wpAnyH_ready (rs := [6]) (by kernel_rfl) (by simp) (AllReadyH.cons rfl (fun K hK => ?_) AllReadyH.nil)
        go_simp
        go_wp2_with ((refine (lst_yes (implJoin_any (DA.out.grow hHeld) (TA.out.grow hHeld)) J2.out).mono ?_; rintro e wv6 ⟨vY, rfl, o9, b9⟩; have hs := Below.trans hHeld (Below.mono b9 (Below.size hHeld))))
        refine hK.out _ _ (by (try dsimp only); exact hs) (fun hHeld => ?_)
        clear hK K
        refine take_h 7 78 rfl rfl (by kernel_rfl) (by kernel_rfl) (by kernel_rfl) (fun _ _ _ h => h) (by kernel_rfl) (by intro w hSw; (try dsimp only at hSw); go_simp; try with_reducible rfl) (by assumption) ?_
        refine take_h 8 86 rfl rfl (by kernel_rfl) (by kernel_rfl) (by kernel_rfl) (fun _ _ _ h => h) (by kernel_rfl) (by intro w hSw; (try dsimp only at hSw); go_simp; try with_reducible rfl) (by assumption) ?_
        refine take_h 9 87 rfl rfl (by kernel_rfl) (by kernel_rfl) (by kernel_rfl) (fun _ _ _ h => h) (by kernel_rfl) (by intro w hSw; (try dsimp only at hSw); go_simp; try with_reducible rfl) (by assumption) ?_
        refine take_h 10 14 rfl rfl (by kernel_rfl) (by kernel_rfl) (by kernel_rfl) (fun _ _ _ h => h) (by kernel_rfl) (by intro w hSw; (try dsimp only at hSw); go_simp; try with_reducible rfl) (by assumption) ?_
        refine take_h 11 15 rfl rfl (by kernel_rfl) (by kernel_rfl) (by kernel_rfl) (fun _ _ _ h => h) (by kernel_rfl) (by intro w hSw; (try dsimp only at hSw); go_simp; try with_reducible rfl) (by assumption) ?_
        refine wpAnyH_done (by kernel_rfl) ?_ _
        simp only [Exit.then]
        simp only [Act.put, List.setIfInBounds_toArray, List.set_cons_succ, List.set_cons_zero]
        replace R := Lib.hid (R.out.grow hs)
        replace U := Lib.hid (U.out.grow hs)
        replace P := Lib.hid (P.out.grow hs)
        replace DA := Lib.hid (DA.out.grow hs)
        replace TA := Lib.hid (TA.out.grow hs)
        replace X := Lib.hid (X.out.grow hs)
        replace BB := Lib.hid (BB.out.trans (hs.mono BB.out.size))
        clear hHeld hs
        have Y := Lib.hid o9
        clear o9
        go_wp2_with fail
        refine (sameTies_yes X.out.row P.out.row rfl).mono ?_
        rintro e wv7 ⟨rfl, b9⟩
        replace R := Lib.hid (R.out.grow b9)
        replace U := Lib.hid (U.out.grow b9)
        replace P := Lib.hid (P.out.grow b9)
        replace DA := Lib.hid (DA.out.grow b9)
        replace TA := Lib.hid (TA.out.grow b9)
        replace X := Lib.hid (X.out.grow b9)
        replace Y := Lib.hid (Y.out.grow b9)
        replace BB := Lib.hid (BB.out.trans (b9.mono BB.out.size))
        clear b9
        go_wp2_with fail
        refine (sameTies_yes Y.out.row P.out.row rfl).mono ?_
        rintro e wv8 ⟨rfl, b9⟩
        replace R := Lib.hid (R.out.grow b9)
        replace U := Lib.hid (U.out.grow b9)
        replace P := Lib.hid (P.out.grow b9)
        replace DA := Lib.hid (DA.out.grow b9)
        replace TA := Lib.hid (TA.out.grow b9)
        replace X := Lib.hid (X.out.grow b9)
        replace Y := Lib.hid (Y.out.grow b9)
        replace BB := Lib.hid (BB.out.trans (b9.mono BB.out.size))
        clear b9
        go_wp2_with fail
        go_ret
        exact ⟨by first | rfl | (simp; done) | (simp; omega), BB.out⟩
      · skip
        have qp : ¬ cP = q := by omega
        have DA := Lib.hid (P.out.row.drop q qn)
        rw [Nat.zero_add] at DA
        have TA := Lib.hid (P.out.row.take q qn)
        go_wp2_with fail
        refine wp_region_held_drew (S := (fun w' => Below wv4.heap.size wv4 w')) (by kernel_rfl) (by exact (Below.refl _ _).drew) (fun hHeld => ?_)
        refine take_h 0 69 rfl rfl (by kernel_rfl) (by kernel_rfl) (by kernel_rfl) (fun _ _ _ h => h) (by kernel_rfl) (by intro w hSw; (try dsimp only at hSw); go_simp; try with_reducible rfl) (by assumption) ?_
        refine take_h 1 70 rfl rfl (by kernel_rfl) (by kernel_rfl) (by kernel_rfl) (fun _ _ _ h => h) (by kernel_rfl) (by intro w hSw; (try dsimp only at hSw); go_simp; try with_reducible rfl) (by assumption) ?_
        refine take_h 2 71 rfl rfl (by kernel_rfl) (by kernel_rfl) (by kernel_rfl) (fun _ _ _ h => h) (by kernel_rfl) (by intro w hSw; (try dsimp only at hSw); go_simp; try with_reducible rfl) (by assumption) ?_
        refine take_h 3 72 rfl rfl (by kernel_rfl) (by kernel_rfl) (by kernel_rfl) (fun _ _ _ h => h) (by kernel_rfl) (by intro w hSw; (try dsimp only at hSw); go_simp; try with_reducible rfl) (by assumption) ?_
        refine take_h 4 73 rfl rfl (by kernel_rfl) (by kernel_rfl) (by kernel_rfl) (fun _ _ _ h => h) (by kernel_rfl) (by intro w hSw; (try dsimp only at hSw); go_simp; try with_reducible rfl) (by assumption) ?_
        refine take_h 5 74 rfl rfl (by kernel_rfl) (by kernel_rfl) (by kernel_rfl) (fun _ _ _ h => h) (by kernel_rfl) (by intro w hSw; (try dsimp only at hSw); go_simp; try with_reducible rfl) (by assumption) ?_
        refine wpAnyH_ready (rs := [6]) (by kernel_rfl) (by simp) (AllReadyH.cons rfl (fun K hK => ?_) AllReadyH.nil)
        go_simp
        go_wp2_with ((refine (lst_yes (implJoin_any (TA.out.grow hHeld) (DA.out.grow hHeld)) J1.out).mono ?_; rintro e wv5 ⟨vX, rfl, o9, b9⟩; have hs := Below.trans hHeld (Below.mono b9 (Below.size hHeld))))
        refine hK.out _ _ (by (try dsimp only); exact hs) (fun hHeld => ?_)
        clear hK K
        refine take_h 7 68 rfl rfl (by kernel_rfl) (by kernel_rfl) (by kernel_rfl) (fun _ _ _ h => h) (by kernel_rfl) (by intro w hSw; (try dsimp only at hSw); go_simp; try with_reducible rfl) (by assumption) ?_
        refine take_h 8 76 rfl rfl (by kernel_rfl) (by kernel_rfl) (by kernel_rfl) (fun _ _ _ h => h) (by kernel_rfl) (by intro w hSw; (try dsimp only at hSw); go_simp; try with_reducible rfl) (by assumption) ?_
        refine take_h 9 77 rfl rfl (by kernel_rfl) (by kernel_rfl) (by kernel_rfl) (fun _ _ _ h => h) (by kernel_rfl) (by intro w hSw; (try dsimp only at hSw); go_simp; try with_reducible rfl) (by assumption) ?_
        refine take_h 10 12 rfl rfl (by kernel_rfl) (by kernel_rfl) (by kernel_rfl) (fun _ _ _ h => h) (by kernel_rfl) (by intro w hSw; (try dsimp only at hSw); go_simp; try with_reducible rfl) (by assumption) ?_
        refine take_h 11 13 rfl rfl (by kernel_rfl) (by kernel_rfl) (by kernel_rfl) (fun _ _ _ h => h) (by kernel_rfl) (by intro w hSw; (try dsimp only at hSw); go_simp; try with_reducible rfl) (by assumption) ?_
        refine wpAnyH_done (by kernel_rfl) ?_ _
        simp only [Exit.then]
        simp only [Act.put, List.setIfInBounds_toArray, List.set_cons_succ, List.set_cons_zero]
        replace R := Lib.hid (R.out.grow hs)
        replace U := Lib.hid (U.out.grow hs)
        replace P := Lib.hid (P.out.grow hs)
        replace DA := Lib.hid (DA.out.grow hs)
        replace TA := Lib.hid (TA.out.grow hs)
        replace BB := Lib.hid (BB.out.trans (hs.mono BB.out.size))
        clear hHeld hs
        have X := Lib.hid o9
        clear o9
        go_wp2_with fail
        refine wp_region_held_drew (S := (fun w' => Below wv5.heap.size wv5 w')) (by kernel_rfl) (by exact (Below.refl _ _).drew) (fun hHeld => ?_)
        refine take_h 0 79 rfl rfl (by kernel_rfl) (by kernel_rfl) (by kernel_rfl) (fun _ _ _ h => h) (by kernel_rfl) (by intro w hSw; (try dsimp only at hSw); go_simp; try with_reducible rfl) (by assumption) ?_
        refine take_h 1 80 rfl rfl (by kernel_rfl) (by kernel_rfl) (by kernel_rfl) (fun _ _ _ h => h) (by kernel_rfl) (by intro w hSw; (try dsimp only at hSw); go_simp; try with_reducible rfl) (by assumption) ?_
        refine take_h 2 81 rfl rfl (by kernel_rfl) (by kernel_rfl) (by kernel_rfl) (fun _ _ _ h => h) (by kernel_rfl) (by intro w hSw; (try dsimp only at hSw); go_simp; try with_reducible rfl) (by assumption) ?_
        refine take_h 3 82 rfl rfl (by kernel_rfl) (by kernel_rfl) (by kernel_rfl) (fun _ _ _ h => h) (by kernel_rfl) (by intro w hSw; (try dsimp only at hSw); go_simp; try with_reducible rfl) (by assumption) ?_
        refine take_h 4 83 rfl rfl (by kernel_rfl) (by kernel_rfl) (by kernel_rfl) (fun _ _ _ h => h) (by kernel_rfl) (by intro w hSw; (try dsimp only at hSw); go_simp; try with_reducible rfl) (by assumption) ?_
        refine take_h 5 84 rfl rfl (by kernel_rfl) (by kernel_rfl) (by kernel_rfl) (fun _ _ _ h => h) (by kernel_rfl) (by intro w hSw; (try dsimp only at hSw); go_simp; try with_reducible rfl) (by assumption) ?_
        refine wpAnyH_ready (rs := [6]) (by kernel_rfl) (by simp) (AllReadyH.cons rfl (fun K hK => ?_) AllReadyH.nil)
        go_simp
        go_wp2_with ((refine (lst_yes (implJoin_any (DA.out.grow hHeld) (TA.out.grow hHeld)) J2.out).mono ?_; rintro e wv6 ⟨vY, rfl, o9, b9⟩; have hs := Below.trans hHeld (Below.mono b9 (Below.size hHeld))))
        refine hK.out _ _ (by (try dsimp only); exact hs) (fun hHeld => ?_)
        clear hK K
        refine take_h 7 78 rfl rfl (by kernel_rfl) (by kernel_rfl) (by kernel_rfl) (fun _ _ _ h => h) (by kernel_rfl) (by intro w hSw; (try dsimp only at hSw); go_simp; try with_reducible rfl) (by assumption) ?_
        refine take_h 8 86 rfl rfl (by kernel_rfl) (by kernel_rfl) (by kernel_rfl) (fun _ _ _ h => h) (by kernel_rfl) (by intro w hSw; (try dsimp only at hSw); go_simp; try with_reducible rfl) (by assumption) ?_
        refine take_h 9 87 rfl rfl (by kernel_rfl) (by kernel_rfl) (by kernel_rfl) (fun _ _ _ h => h) (by kernel_rfl) (by intro w hSw; (try dsimp only at hSw); go_simp; try with_reducible rfl) (by assumption) ?_
        refine take_h 10 14 rfl rfl (by kernel_rfl) (by kernel_rfl) (by kernel_rfl) (fun _ _ _ h => h) (by kernel_rfl) (by intro w hSw; (try dsimp only at hSw); go_simp; try with_reducible rfl) (by assumption) ?_
        refine take_h 11 15 rfl rfl (by kernel_rfl) (by kernel_rfl) (by kernel_rfl) (fun _ _ _ h => h) (by kernel_rfl) (by intro w hSw; (try dsimp only at hSw); go_simp; try with_reducible rfl) (by assumption) ?_
        refine wpAnyH_done (by kernel_rfl) ?_ _
        simp only [Exit.then]
        simp only [Act.put, List.setIfInBounds_toArray, List.set_cons_succ, List.set_cons_zero]
        replace R := Lib.hid (R.out.grow hs)
        replace U := Lib.hid (U.out.grow hs)
        replace P := Lib.hid (P.out.grow hs)
        replace DA := Lib.hid (DA.out.grow hs)
        replace TA := Lib.hid (TA.out.grow hs)
        replace X := Lib.hid (X.out.grow hs)
        replace BB := Lib.hid (BB.out.trans (hs.mono BB.out.size))
        clear hHeld hs
        have Y := Lib.hid o9
        clear o9
        go_wp2_with fail
        refine (sameTies_yes X.out.row P.out.row rfl).mono ?_
        rintro e wv7 ⟨rfl, b9⟩
        replace R := Lib.hid (R.out.grow b9)
        replace U := Lib.hid (U.out.grow b9)
        replace P := Lib.hid (P.out.grow b9)
        replace DA := Lib.hid (DA.out.grow b9)
        replace TA := Lib.hid (TA.out.grow b9)
        replace X := Lib.hid (X.out.grow b9)
        replace Y := Lib.hid (Y.out.grow b9)
        replace BB := Lib.hid (BB.out.trans (b9.mono BB.out.size))
        clear b9
        go_wp2_with fail
        refine (sameTies_yes Y.out.row P.out.row rfl).mono ?_
        rintro e wv8 ⟨rfl, b9⟩
        replace R := Lib.hid (R.out.grow b9)
        replace U := Lib.hid (U.out.grow b9)
        replace P := Lib.hid (P.out.grow b9)
        replace DA := Lib.hid (DA.out.grow b9)
        replace TA := Lib.hid (TA.out.grow b9)
        replace X := Lib.hid (X.out.grow b9)
        replace Y := Lib.hid (Y.out.grow b9)
        replace BB := Lib.hid (BB.out.trans (b9.mono BB.out.size))
        clear b9
        go_wp2_with fail
        go_ret
        exact ⟨by first | rfl | (simp; done) | (simp; omega), BB.out⟩

set_option maxRecDepth 100000 in
theorem lifted (os : Os) (started : os.Started) (H : Type) (enc : TypeId × Value → H) :
    ReturnsInHanded {} Try.checked os 7 .any (Rows.fnTiesJoinPartsSpec.pre6 enc Try.prog Try.f7 Rows.fnTiesJoinPartsRow.domain false) (Rows.fnTiesJoinPartsSpec.post enc Try.prog Try.f7 false true false false) := by
  refine returnsInHanded_of_change (C := Try.checked) own started (by kernel_rfl) Try.func7
    (ChangeSpec.witness6 (enc := enc) (C := Try.checked) false ⟨#[], #[.slice none 0 0, .slice none 0 0], []⟩ 8 (by kernel_rfl) (by kernel_rfl) (by kernel_rfl) (by kernel_rfl)) ?_
  intro W base args ds gs before hval0 hW hcnd _
  have hval : ∀ (j : Nat) t v, Try.f7.params[j]? = some t → args[j]? = some v → Value.okWide Try.prog W .any base t v := hval0
  have hW' := hW
  obtain ⟨p, q, hA0, hV, rfl, hfz, hnd⟩ := hW
  have hA : DataW.TrodAll enc Try.prog W 0 (fun _ => true) true Try.f7.params.toList args.toList ds p := hA0
  rw [Try.params7] at hA hval
  obtain ⟨v0, vs0, d0, ds0, p0, q0, hargs, rfl, rfl, h0, r0⟩ := trodAll_cons hA
  obtain ⟨v1, vs1, d1, ds1, p1, q1, rfl, rfl, rfl, h1, r1⟩ := trodAll_cons r0
  obtain ⟨rfl, rfl, rfl⟩ := trodAll_nil r1
  obtain rfl : args = #[v0, v1] := by cases args; simp_all
  obtain ⟨rfl, rfl⟩ := trodVars_none hV
  obtain ⟨a0, len0, cap0, rfl⟩ := okWide_slice Try.underlying22 (hval 0 22 v0 rfl rfl)
  have k0 := h0
  have lt0 : ∀ x ∈ p0, x.block < W.heap.size := by obtain ⟨m, hm⟩ := k0; exact DataW.trod_lt m _ _ _ hm
  obtain ⟨z0, w0⟩ : ∃ zs, IsRow .u8 W a0 len0 cap0 zs := by
    obtain ⟨fuel, hf⟩ := h0
    rcases open_ints Try.underlying22 Try.underlying5 (by kernel_rfl) hf with ⟨hcs, _⟩ | ⟨x, l, c, zs, hcs, _, hl, hm, hz, _, hcell, hwz⟩
    · simp [Value.cells] at hcs
      obtain ⟨rfl, rfl, rfl⟩ := hcs
      exact ⟨[], .inl ⟨rfl, rfl, rfl, rfl⟩⟩
    · simp [Value.cells] at hcs
      obtain ⟨rfl, rfl, rfl⟩ := hcs
      exact ⟨zs, .inr ⟨_, rfl, hl, hm, by simpa using hz, hcell, hwz⟩⟩
  obtain ⟨a1, len1, cap1, rfl⟩ := okWide_slice Try.underlying22 (hval 1 22 v1 rfl rfl)
  have k1 := h1
  have lt1 : ∀ x ∈ p1, x.block < W.heap.size := by obtain ⟨m, hm⟩ := k1; exact DataW.trod_lt m _ _ _ hm
  obtain ⟨z1, w1⟩ : ∃ zs, IsRow .u8 W a1 len1 cap1 zs := by
    obtain ⟨fuel, hf⟩ := h1
    rcases open_ints Try.underlying22 Try.underlying5 (by kernel_rfl) hf with ⟨hcs, _⟩ | ⟨x, l, c, zs, hcs, _, hl, hm, hz, _, hcell, hwz⟩
    · simp [Value.cells] at hcs
      obtain ⟨rfl, rfl, rfl⟩ := hcs
      exact ⟨[], .inl ⟨rfl, rfl, rfl, rfl⟩⟩
    · simp [Value.cells] at hcs
      obtain ⟨rfl, rfl, rfl⟩ := hcs
      exact ⟨zs, .inr ⟨_, rfl, hl, hm, by simpa using hz, hcell, hwz⟩⟩
  clear hA0 hval0
  refine (walk a0 len0 cap0 z0 a1 len1 cap1 z1 W w0 w1).mono fun e W' ⟨he, bel⟩ => ?_
  subst he
  exact ⟨_, rfl, _, _, _, [], _, [], hW', trodAll_mk1 (shut_bool Try.underlying4 _), (trodAll_cons_mk (Below.trod laidOut (by kernel_rfl) (of_decide_eq_true (by kernel_rfl)) k0 bel lt0) (trodAll_cons_mk (Below.trod laidOut (by kernel_rfl) (of_decide_eq_true (by kernel_rfl)) k1 bel lt1) trodAll_mk0)), rfl, bel.frame _, fun h => by cases h⟩

theorem over : Rows.fnTiesJoinPartsRow.holds Try.pinned (OpenSpec.ofChange Rows.fnTiesJoinPartsSpec) :=
  OpenClaim.holds_of_wide 7 Try.f7 rfl rfl rfl rfl rfl rfl rfl ⟨rfl, rfl, rfl, rfl, rfl⟩ rfl rfl rfl rfl rfl (by kernel_rfl) Try.func7 (by kernel_rfl)
    (of_decide_eq_true (by kernel_rfl)) (by unfold Func.isWrapper; first | (rw [if_pos (by decide +kernel)]; kernel_rfl) | (rw [if_neg (by decide +kernel)]; exact ⟨rfl, rfl⟩))
    (fun os started H enc _ => lifted os started H enc)

/-- ████ THE STATEMENT ████ -/
theorem proved : Rows.FnTiesJoinPartsSaid := over
#print axioms proved
end Go.Proofs.Ythhdpjkmjebjhab.fnTiesJoinParts
