/- For every input, the law FnTightFirst of the given statements returns true over the program at this commit, and its arguments read afterwards as before: its conditions: the package-level variables that the row lists hold what the program's own text lays into them, which the card ties. -/
import Derived.Test.YtanfalkpmmkklabDoorRows
import Derived.Test.YtanfalkpmmkklabDoorCards
import Derived.Test.YtanfalkpmmkklabDoorTie
import Derived.Test.YtanfalkpmmkklabDoorLawW
import Derived.Deep.DeepWitnessRowRef
import Derived.LaidMore
import Derived.MakeChecks
import Derived.SevenTiedAt
import Derived.WalkKit
import Derived.ProofKit
import Derived.OpenShut
import Derived.ShutString
import Derived.ChangeOld
import Derived.Below
namespace Go.Proofs.YtanfalkpmmkklabDoor.fnTightFirst
open Go.ChangeShapes Go.WideShapes Go.ChangeAt Go.RowKit
open Go.ChangeMaps (open_string shut_string)
set_option linter.unusedVariables false

theorem own : ownKnob Tryd.prog.godebug = none := by kernel_rfl
theorem laidOut : laidOutB Tryd.prog = true := by kernel_rfl

/-- WHAT THE WALK IS TOLD OF A SLICE OF INTEGERS THAT CAME IN: it is nil; or it leads to a row of 'cap' cells, the numbers 'zs' (the first 'len' are its elements, the rest its spare room), each fitting its kind. -/
def IsRow (k : IntKind) (w : World) (a : Option Addr) (len cap : Nat) (zs : List Int) : Prop :=
  (a = none ∧ len = 0 ∧ cap = 0 ∧ zs = []) ∨
  ∃ x, a = some x ∧ len ≤ cap ∧ cap ≤ maxLen ∧ zs.length = cap ∧ (∀ i, i < zs.length → w.cell? (x.add i) = some (.int k (zs.getD i 0))) ∧ ∀ n ∈ zs, (Lit.int k n).wf = true

set_option maxRecDepth 100000 in
set_option maxHeartbeats 3200000 in
theorem walk (a0 : Option Addr) (len0 cap0 : Nat) (z0 : List Int) (a1 : Option Addr) (len1 cap1 : Nat) (z1 : List Int) (w : World) (w0 : IsRow .u8 w a0 len0 cap0 z0) (w1 : IsRow .u8 w a1 len1 cap1 z1) (hL : laidMet Tryd.prog Rows.fnTightFirstRow.laid w) (hSh : w.ShapedOpen Tryd.prog) :
    Calls Tryd.prog 6 #[.slice a0 len0 cap0, .slice a1 len1 cap1] w fun e w' => e = .returned (.bool true) ∧ Below w.heap.size w w' := by
  have hB := bytes_of w0
  have hB1 := bytes_len (bytes_of w1)
  unfold maxLen at hB1
  by_cases hl : 1048576 < len0
  · have hdec : decide (1048576 < len0) = true := by simpa using hl
    go_enter Tryd.func6, Tryd.ntmps6
    go_wp2_with fail
    go_ret
    exact ⟨rfl, Below.refl _ _⟩
  have hdec : decide (1048576 < len0) = false := by simpa using hl
  by_cases hl1 : 1048576 < len1
  · go_enter Tryd.func6, Tryd.ntmps6
    go_wp2_with fail
    go_ret
    exact ⟨rfl, Below.refl _ _⟩
  have hm : len0 ≤ 1048576 := by omega
  have hm1 : len1 ≤ 1048576 := by omega
  clear hB1
  go_enter Tryd.func6, Tryd.ntmps6
  go_wp2_with fail
  refine (DrawWindowsTight_any hB).mono ?_
  rintro e wv1 ⟨v, u, l, s, rfl, r0, r1, l1, l6, s6, sm, b1⟩
  clear w0 w1 hB
  have BB := Lib.hid b1
  clear b1
  have R := Lib.hid r0
  clear r0
  have U := Lib.hid r1
  clear r1
  have SN := Lib.hid ((sent_of hL).grow BB.out)
  obtain ⟨aR, cR, rfl, kR, mR⟩ := tlen_n R.out.row
  obtain ⟨aU, cU, rfl, kU, mU⟩ := tlen_n U.out.row
  cases hb : tightOf l s with
  | none =>
    have HB := Lib.hid hb
    clear hb
    go_wp2_with fail
    refine (lst_no (implTightW_any SN.out R.out.row U.out.row) HB.out).mono ?_
    rintro e wv2 ⟨vX, rfl, o9, b9⟩
    replace R := Lib.hid (R.out.grow b9)
    replace U := Lib.hid (U.out.grow b9)
    replace SN := Lib.hid (SN.out.grow b9)
    replace BB := Lib.hid (BB.out.trans (b9.mono BB.out.size))
    clear b9
    have X := Lib.hid o9
    clear o9
    go_wp2_with fail
    refine (lst_no (specTight_any R.out.row U.out.row) HB.out).mono ?_
    rintro e wv3 ⟨vY, rfl, o9, b9⟩
    replace R := Lib.hid (R.out.grow b9)
    replace U := Lib.hid (U.out.grow b9)
    replace SN := Lib.hid (SN.out.grow b9)
    replace X := Lib.hid (X.out.grow b9)
    replace BB := Lib.hid (BB.out.trans (b9.mono BB.out.size))
    clear b9
    have Y := Lib.hid o9
    clear o9
    go_wp2_with fail
    refine (sameWindows_yes X.out.row Y.out.row rfl).mono ?_
    rintro e wv4 ⟨rfl, b9⟩
    replace R := Lib.hid (R.out.grow b9)
    replace U := Lib.hid (U.out.grow b9)
    replace SN := Lib.hid (SN.out.grow b9)
    replace X := Lib.hid (X.out.grow b9)
    replace Y := Lib.hid (Y.out.grow b9)
    replace BB := Lib.hid (BB.out.trans (b9.mono BB.out.size))
    clear b9
    go_wp2_with fail
    refine (sameWindows_yes X.out.row Y.out.row rfl).mono ?_
    rintro e wv5 ⟨rfl, b9⟩
    replace R := Lib.hid (R.out.grow b9)
    replace U := Lib.hid (U.out.grow b9)
    replace SN := Lib.hid (SN.out.grow b9)
    replace X := Lib.hid (X.out.grow b9)
    replace Y := Lib.hid (Y.out.grow b9)
    replace BB := Lib.hid (BB.out.trans (b9.mono BB.out.size))
    clear b9
    go_wp2_with fail
    go_ret
    exact ⟨by first | rfl | (simp; done) | (simp; omega), BB.out⟩
  | some m =>
    have HB := Lib.hid hb; have TG := Lib.hid (tightOf_some hb)
    have ml := TG.out.len
    clear hb
    go_wp2_with fail
    refine (lst_yes (implTightW_any SN.out R.out.row U.out.row) HB.out).mono ?_
    rintro e wv2 ⟨vP, rfl, o9, b9⟩
    replace R := Lib.hid (R.out.grow b9)
    replace U := Lib.hid (U.out.grow b9)
    replace SN := Lib.hid (SN.out.grow b9)
    replace BB := Lib.hid (BB.out.trans (b9.mono BB.out.size))
    clear b9
    have P := Lib.hid o9
    clear o9
    go_wp2_with fail
    refine (lst_yes (specTight_any R.out.row U.out.row) HB.out).mono ?_
    rintro e wv3 ⟨vY, rfl, o9, b9⟩
    replace R := Lib.hid (R.out.grow b9)
    replace U := Lib.hid (U.out.grow b9)
    replace SN := Lib.hid (SN.out.grow b9)
    replace P := Lib.hid (P.out.grow b9)
    replace BB := Lib.hid (BB.out.trans (b9.mono BB.out.size))
    clear b9
    have Y := Lib.hid o9
    clear o9
    go_wp2_with fail
    refine (sameWindows_yes P.out.row Y.out.row rfl).mono ?_
    rintro e wv4 ⟨rfl, b9⟩
    replace R := Lib.hid (R.out.grow b9)
    replace U := Lib.hid (U.out.grow b9)
    replace SN := Lib.hid (SN.out.grow b9)
    replace P := Lib.hid (P.out.grow b9)
    replace Y := Lib.hid (Y.out.grow b9)
    replace BB := Lib.hid (BB.out.trans (b9.mono BB.out.size))
    clear b9
    clear Y
    obtain ⟨aP, cP, rfl, kP, mP⟩ := tlen_n P.out.row
    have ML := Lib.hid ml
    rw [ml] at P kP ⊢
    clear ml
    obtain ⟨q, hq⟩ : ∃ j : Nat, len1 % l.length = j := ⟨_, rfl⟩
    have qn : q < l.length := by rw [← hq]; exact Nat.mod_lt _ (by omega)
    have qe : (len1 : Int) % (l.length : Int) = (q : Int) := by rw [← hq, Int.natCast_emod]
    have qt : IntKind.i64.wrap ((len1 : Int).tmod (l.length : Int)) = (q : Int) := by rw [Int.tmod_eq_emod_of_nonneg (by omega), qe]; exact IntWalk.i64_in _ (by omega)
    have qz : ((l.length : Int) == 0) = false := beq_eq_false_iff_ne.2 (by omega)
    have q3 : IntKind.i64.wrap (q : Int) = (q : Int) := IntWalk.i64_in _ (by omega)
    have q4 : (0 : Int) ≤ (q : Int) := by omega
    have q5 : (q : Int) < (l.length : Int) := by omega
    clear hq
    obtain ⟨n, hn⟩ : ∃ n, n = q + 1 := ⟨_, rfl⟩
    have w1 : IntKind.i64.wrap (1 + (q : Int)) = (n : Int) := by rw [show (1 : Int) + (q : Int) = (n : Int) by omega]; exact IntWalk.i64_in _ (by omega)
    have w2 : IntKind.i64.wrap ((n : Int) - 1) = (q : Int) := by rw [show (n : Int) - 1 = (q : Int) by omega]; exact IntWalk.i64_in _ (by omega)
    have n1 : 1 ≤ n := by omega
    have nl : n ≤ l.length := by omega
    have n4 : (0 : Int) ≤ (n : Int) := by omega
    have nc : (n : Int) ≤ (cR : Int) := by omega
    have sl := TG.out.win.len
    have qc : (q : Int) ≤ (cU : Int) := by omega
    have qs : q ≤ s.length := by omega
    obtain ⟨x, hx, xl, xw⟩ := tight_first TG.out n1 nl
    rw [show n - 1 = q by omega] at hx
    have HX := Lib.hid hx; have XW := Lib.hid xw; have XL := Lib.hid xl
    have cn : ((n : Int) != (n : Int)) = false := by simp
    have HN := Lib.hid hn
    clear hx xw hn
    obtain ⟨gR, pR, eR, k5, k6, k7, k8, hp⟩ := R.out.at (by omega)
    simp only [Value.slice.injEq] at eR
    obtain ⟨rfl, hclR, rfl⟩ := eR
    have dd1 := (hp 0 (by omega)).top
    clear hp hclR k5 k6 k7 k8
    clear dd1
    rcases own_base U.out with ⟨rfl, hn9, rfl, he9⟩ | ⟨gU, rfl, -⟩
    · subst he9
      clear hn9
      obtain rfl : q = 0 := by simp at sl; omega
      obtain rfl : n = 1 := by have := HN.out; omega
      have wz : IntKind.i64.wrap 0 = 0 := IntWalk.i64_in _ (by omega)
      have nc1 : (1 : Int) ≤ (cR : Int) := by omega
      have TB : Hid (Row wv4 (.slice none 0 0) (List.take 0 ([] : List Pc))) := Lib.hid (row_none _)
      have TA := Lib.hid (R.out.row.take 1 nl)
      go_wp2_with fail
      refine wp_region_held_drew (S := (fun w' => Below wv4.heap.size wv4 w')) (by kernel_rfl) (by exact (Below.refl _ _).drew) (fun hHeld => ?_)
      refine take_h 0 68 rfl rfl (by kernel_rfl) (by kernel_rfl) (by kernel_rfl) (fun _ _ _ h => h) (by kernel_rfl) (by intro w hSw; (try dsimp only at hSw); go_simp; try with_reducible rfl) (by assumption) ?_
      refine take_h 1 69 rfl rfl (by kernel_rfl) (by kernel_rfl) (by kernel_rfl) (fun _ _ _ h => h) (by kernel_rfl) (by intro w hSw; (try dsimp only at hSw); go_simp; try with_reducible rfl) (by assumption) ?_
      refine take_h 2 70 rfl rfl (by kernel_rfl) (by kernel_rfl) (by kernel_rfl) (fun _ _ _ h => h) (by kernel_rfl) (by intro w hSw; (try dsimp only at hSw); go_simp; try with_reducible rfl) (by assumption) ?_
      refine take_h 3 71 rfl rfl (by kernel_rfl) (by kernel_rfl) (by kernel_rfl) (fun _ _ _ h => h) (by kernel_rfl) (by intro w hSw; (try dsimp only at hSw); go_simp; try with_reducible rfl) (by assumption) ?_
      refine take_h 4 72 rfl rfl (by kernel_rfl) (by kernel_rfl) (by kernel_rfl) (fun _ _ _ h => h) (by kernel_rfl) (by intro w hSw; (try dsimp only at hSw); go_simp; try with_reducible rfl) (by assumption) ?_
      refine take_h 5 73 rfl rfl (by kernel_rfl) (by kernel_rfl) (by kernel_rfl) (fun _ _ _ h => h) (by kernel_rfl) (by intro w hSw; (try dsimp only at hSw); go_simp; try with_reducible rfl) (by assumption) ?_
      refine take_h 6 74 rfl rfl (by kernel_rfl) (by kernel_rfl) (by kernel_rfl) (fun _ _ _ h => h) (by kernel_rfl) (by intro w hSw; (try dsimp only at hSw); go_simp; try with_reducible rfl) (by assumption) ?_
      refine wpAnyH_ready (rs := [7]) (by kernel_rfl) (by simp) (AllReadyH.cons rfl (fun K hK => ?_) AllReadyH.nil)
      go_simp
      go_wp2_with ((refine (lst_yes (implTightW_any (SN.out.grow hHeld) (TA.out.grow hHeld) (TB.out.grow hHeld)) HX.out).mono ?_; rintro e wv5 ⟨vX, rfl, o9, b9⟩; have hs := Below.trans hHeld (Below.mono b9 (Below.size hHeld))))
      refine hK.out _ _ (by (try dsimp only); exact hs) (fun hHeld => ?_)
      clear hK K
      refine take_h 8 67 rfl rfl (by kernel_rfl) (by kernel_rfl) (by kernel_rfl) (fun _ _ _ h => h) (by kernel_rfl) (by intro w hSw; (try dsimp only at hSw); go_simp; try with_reducible rfl) (by assumption) ?_
      refine take_h 9 76 rfl rfl (by kernel_rfl) (by kernel_rfl) (by kernel_rfl) (fun _ _ _ h => h) (by kernel_rfl) (by intro w hSw; (try dsimp only at hSw); go_simp; try with_reducible rfl) (by assumption) ?_
      refine take_h 10 77 rfl rfl (by kernel_rfl) (by kernel_rfl) (by kernel_rfl) (fun _ _ _ h => h) (by kernel_rfl) (by intro w hSw; (try dsimp only at hSw); go_simp; try with_reducible rfl) (by assumption) ?_
      refine take_h 11 12 rfl rfl (by kernel_rfl) (by kernel_rfl) (by kernel_rfl) (fun _ _ _ h => h) (by kernel_rfl) (by intro w hSw; (try dsimp only at hSw); go_simp; try with_reducible rfl) (by assumption) ?_
      refine take_h 12 13 rfl rfl (by kernel_rfl) (by kernel_rfl) (by kernel_rfl) (fun _ _ _ h => h) (by kernel_rfl) (by intro w hSw; (try dsimp only at hSw); go_simp; try with_reducible rfl) (by assumption) ?_
      refine wpAnyH_done (by kernel_rfl) ?_ _
      simp only [Exit.then]
      simp only [Act.put, List.setIfInBounds_toArray, List.set_cons_succ, List.set_cons_zero]
      replace R := Lib.hid (R.out.grow hs)
      replace U := Lib.hid (U.out.grow hs)
      replace SN := Lib.hid (SN.out.grow hs)
      replace P := Lib.hid (P.out.grow hs)
      replace BB := Lib.hid (BB.out.trans (hs.mono BB.out.size))
      clear hHeld hs
      have X := Lib.hid o9
      clear o9
      obtain ⟨aX, cX, rfl, kX, mX⟩ := tlen_n X.out.row
      have XL2 := Lib.hid xl
      rw [xl] at X kX ⊢
      clear xl TA TB
      go_wp2_with fail
      go_loopg [14] 1 (fun k x wr => ∃ j : Nat, x = .int .i64 j ∧ j + k = 1 ∧ Below wv5.heap.size wv5 wr)
      case atStart => exact ⟨0, rfl, by omega, Below.refl _ _⟩
      case round =>
        obtain ⟨wv6, rfl⟩ : ∃ x, x = wr := ⟨wr, rfl⟩
        obtain ⟨j, rfl, hk, hb⟩ := hrel
        have K := Lib.hid hk; have B := Lib.hid hb
        have hjn : j ≤ 1 := by omega
        clear hk hb
        replace R := Lib.hid (R.out.grow B.out)
        replace U := Lib.hid (U.out.grow B.out)
        replace SN := Lib.hid (SN.out.grow B.out)
        replace P := Lib.hid (P.out.grow B.out)
        replace X := Lib.hid (X.out.grow B.out)
        replace BB := Lib.hid (BB.out.trans (B.out.mono BB.out.size))
        by_cases hlt : j < 1
        · have i1 : (j : Int) < (1 : Int) := by omega
          have i2 : (0 : Int) ≤ (j : Int) := by omega
          have i3 : (j : Int) < (l.length : Int) := by omega
          have hlm : j < m.length := by have := ML.out; omega
          have hlx : j < x.length := by have := XL.out; omega
          have xw := XW.out j hlt
          rw [gW_get hlm, gW_get hlx] at xw
          have c1 : ¬ m[j].1 < x[j].1 := by omega
          have c2 : ¬ x[j].2 < m[j].2 := by omega
          obtain ⟨gP, pP, eP, k5, k6, k7, k8, hp⟩ := P.out.at (by omega)
          simp only [Value.slice.injEq] at eP
          obtain ⟨rfl, hclP, rfl⟩ := eP
          have d1 := (hp j hlm).top
          have d2 := (hp j hlm).bot
          clear hp hclP k5 k6 k7 k8
          obtain ⟨gX, pX, eX, k5, k6, k7, k8, hp⟩ := X.out.at (by omega)
          simp only [Value.slice.injEq] at eX
          obtain ⟨rfl, hclX, rfl⟩ := eX
          have f1 := (hp j hlx).top
          have f2 := (hp j hlx).bot
          clear hp hclX k5 k6 k7 k8
          go_wp2_with fail
          go_quiet (fail)
          go_wp2_with fail
          go_roundg (gk - 1)
          case measure => have := K.out; omega
          case rel => exact ⟨j + 1, by go_num, by have := K.out; omega, by first | exact B.out | exact below_drews B.out _⟩
        · have hj : j = 1 := by omega
          have i1 : ¬ (j : Int) < (1 : Int) := by omega
          clear hj hlt
          go_wp2_with fail
          go_ret
          exact ⟨by first | rfl | (simp; done) | (simp; omega), BB.out⟩
    · have TB := Lib.hid (U.out.row.take q qs)
      have TA := Lib.hid (R.out.row.take n nl)
      go_wp2_with fail
      refine wp_region_held_drew (S := (fun w' => Below wv4.heap.size wv4 w')) (by kernel_rfl) (by exact (Below.refl _ _).drew) (fun hHeld => ?_)
      refine take_h 0 68 rfl rfl (by kernel_rfl) (by kernel_rfl) (by kernel_rfl) (fun _ _ _ h => h) (by kernel_rfl) (by intro w hSw; (try dsimp only at hSw); go_simp; try with_reducible rfl) (by assumption) ?_
      refine take_h 1 69 rfl rfl (by kernel_rfl) (by kernel_rfl) (by kernel_rfl) (fun _ _ _ h => h) (by kernel_rfl) (by intro w hSw; (try dsimp only at hSw); go_simp; try with_reducible rfl) (by assumption) ?_
      refine take_h 2 70 rfl rfl (by kernel_rfl) (by kernel_rfl) (by kernel_rfl) (fun _ _ _ h => h) (by kernel_rfl) (by intro w hSw; (try dsimp only at hSw); go_simp; try with_reducible rfl) (by assumption) ?_
      refine take_h 3 71 rfl rfl (by kernel_rfl) (by kernel_rfl) (by kernel_rfl) (fun _ _ _ h => h) (by kernel_rfl) (by intro w hSw; (try dsimp only at hSw); go_simp; try with_reducible rfl) (by assumption) ?_
      refine take_h 4 72 rfl rfl (by kernel_rfl) (by kernel_rfl) (by kernel_rfl) (fun _ _ _ h => h) (by kernel_rfl) (by intro w hSw; (try dsimp only at hSw); go_simp; try with_reducible rfl) (by assumption) ?_
      refine take_h 5 73 rfl rfl (by kernel_rfl) (by kernel_rfl) (by kernel_rfl) (fun _ _ _ h => h) (by kernel_rfl) (by intro w hSw; (try dsimp only at hSw); go_simp; try with_reducible rfl) (by assumption) ?_
      refine take_h 6 74 rfl rfl (by kernel_rfl) (by kernel_rfl) (by kernel_rfl) (fun _ _ _ h => h) (by kernel_rfl) (by intro w hSw; (try dsimp only at hSw); go_simp; try with_reducible rfl) (by assumption) ?_
      refine wpAnyH_ready (rs := [7]) (by kernel_rfl) (by simp) (AllReadyH.cons rfl (fun K hK => ?_) AllReadyH.nil)
      go_simp
      go_wp2_with ((refine (lst_yes (implTightW_any (SN.out.grow hHeld) (TA.out.grow hHeld) (TB.out.grow hHeld)) HX.out).mono ?_; rintro e wv5 ⟨vX, rfl, o9, b9⟩; have hs := Below.trans hHeld (Below.mono b9 (Below.size hHeld))))
      refine hK.out _ _ (by (try dsimp only); exact hs) (fun hHeld => ?_)
      clear hK K
      refine take_h 8 67 rfl rfl (by kernel_rfl) (by kernel_rfl) (by kernel_rfl) (fun _ _ _ h => h) (by kernel_rfl) (by intro w hSw; (try dsimp only at hSw); go_simp; try with_reducible rfl) (by assumption) ?_
      refine take_h 9 76 rfl rfl (by kernel_rfl) (by kernel_rfl) (by kernel_rfl) (fun _ _ _ h => h) (by kernel_rfl) (by intro w hSw; (try dsimp only at hSw); go_simp; try with_reducible rfl) (by assumption) ?_
      refine take_h 10 77 rfl rfl (by kernel_rfl) (by kernel_rfl) (by kernel_rfl) (fun _ _ _ h => h) (by kernel_rfl) (by intro w hSw; (try dsimp only at hSw); go_simp; try with_reducible rfl) (by assumption) ?_
      refine take_h 11 12 rfl rfl (by kernel_rfl) (by kernel_rfl) (by kernel_rfl) (fun _ _ _ h => h) (by kernel_rfl) (by intro w hSw; (try dsimp only at hSw); go_simp; try with_reducible rfl) (by assumption) ?_
      refine take_h 12 13 rfl rfl (by kernel_rfl) (by kernel_rfl) (by kernel_rfl) (fun _ _ _ h => h) (by kernel_rfl) (by intro w hSw; (try dsimp only at hSw); go_simp; try with_reducible rfl) (by assumption) ?_
      refine wpAnyH_done (by kernel_rfl) ?_ _
      simp only [Exit.then]
      simp only [Act.put, List.setIfInBounds_toArray, List.set_cons_succ, List.set_cons_zero]
      replace R := Lib.hid (R.out.grow hs)
      replace U := Lib.hid (U.out.grow hs)
      replace SN := Lib.hid (SN.out.grow hs)
      replace P := Lib.hid (P.out.grow hs)
      replace BB := Lib.hid (BB.out.trans (hs.mono BB.out.size))
      clear hHeld hs
      have X := Lib.hid o9
      clear o9
      obtain ⟨aX, cX, rfl, kX, mX⟩ := tlen_n X.out.row
      have XL2 := Lib.hid xl
      rw [xl] at X kX ⊢
      clear xl TA TB
      go_wp2_with fail
      go_loopg [14] n (fun k x wr => ∃ j : Nat, x = .int .i64 j ∧ j + k = n ∧ Below wv5.heap.size wv5 wr)
      case atStart => exact ⟨0, rfl, by omega, Below.refl _ _⟩
      case round =>
        obtain ⟨wv6, rfl⟩ : ∃ x, x = wr := ⟨wr, rfl⟩
        obtain ⟨j, rfl, hk, hb⟩ := hrel
        have K := Lib.hid hk; have B := Lib.hid hb
        have hjn : j ≤ n := by omega
        clear hk hb
        replace R := Lib.hid (R.out.grow B.out)
        replace U := Lib.hid (U.out.grow B.out)
        replace SN := Lib.hid (SN.out.grow B.out)
        replace P := Lib.hid (P.out.grow B.out)
        replace X := Lib.hid (X.out.grow B.out)
        replace BB := Lib.hid (BB.out.trans (B.out.mono BB.out.size))
        by_cases hlt : j < n
        · have i1 : (j : Int) < (n : Int) := by omega
          have i2 : (0 : Int) ≤ (j : Int) := by omega
          have i3 : (j : Int) < (l.length : Int) := by omega
          have hlm : j < m.length := by have := ML.out; omega
          have hlx : j < x.length := by have := XL.out; omega
          have xw := XW.out j hlt
          rw [gW_get hlm, gW_get hlx] at xw
          have c1 : ¬ m[j].1 < x[j].1 := by omega
          have c2 : ¬ x[j].2 < m[j].2 := by omega
          obtain ⟨gP, pP, eP, k5, k6, k7, k8, hp⟩ := P.out.at (by omega)
          simp only [Value.slice.injEq] at eP
          obtain ⟨rfl, hclP, rfl⟩ := eP
          have d1 := (hp j hlm).top
          have d2 := (hp j hlm).bot
          clear hp hclP k5 k6 k7 k8
          obtain ⟨gX, pX, eX, k5, k6, k7, k8, hp⟩ := X.out.at (by omega)
          simp only [Value.slice.injEq] at eX
          obtain ⟨rfl, hclX, rfl⟩ := eX
          have f1 := (hp j hlx).top
          have f2 := (hp j hlx).bot
          clear hp hclX k5 k6 k7 k8
          go_wp2_with fail
          go_quiet (fail)
          go_wp2_with fail
          go_roundg (gk - 1)
          case measure => have := K.out; omega
          case rel => exact ⟨j + 1, by go_num, by have := K.out; omega, by first | exact B.out | exact below_drews B.out _⟩
        · have hj : j = n := by omega
          have i1 : ¬ (j : Int) < (n : Int) := by omega
          clear hj hlt
          go_wp2_with fail
          go_ret
          exact ⟨by first | rfl | (simp; done) | (simp; omega), BB.out⟩

/-- A start that fits: the heap that the program's own start-up code for the listed variables leaves. -/
noncomputable def laidWorld (os : Os) : World := World.doorLaid Tryd.prog 600 os
theorem laid_met (os : Os) (args : Array Value) : laidMetH Tryd.prog Rows.fnTightFirstRow.laid ((laidWorld os).forCall (fun _ _ => 0) ⟨#[], args, []⟩).memory := by
  rw [MakeChecks.laidMetH_plain _ _ _ (by kernel_rfl)]
  exact laidMet_of_run' 8 (by kernel_rfl) (by kernel_rfl)
theorem reads (os : Os) {H : Type} (enc : TypeId × Value → H) : ∃ x, DataW.whole enc Tryd.prog ((laidWorld os).forCall (fun _ _ => 0) ⟨#[], #[.slice none 0 0, .slice none 0 0], []⟩).memory Tryd.f6.params.toList Rows.fnTightFirstSpec.vars false #[(Value.slice none 0 0), (Value.slice none 0 0)].toList 8 = some x :=
  Option.isSome_iff_exists.1 (by kernel_rfl)

set_option maxRecDepth 100000 in
theorem lifted (os : Os) (started : os.Started) (H : Type) (enc : TypeId × Value → H) (F : Stop.Interp) :
    ReturnsInHanded {} Tryd.checked os 6 .any ((OpenSpec.ofChange Rows.fnTightFirstSpec).preRow enc Tryd.prog Tryd.f6 Rows.fnTightFirstRow.domain false Rows.fnTightFirstRow.laid) (((OpenSpec.ofChange Rows.fnTightFirstSpec).at F).post enc Tryd.prog Tryd.f6 false true false false) := by
  obtain ⟨x, hx⟩ := reads os enc
  refine returnsInHanded_of_row (C := Tryd.checked) (s := OpenSpec.ofChange Rows.fnTightFirstSpec) own started (by kernel_rfl) Tryd.func6
    (witness_row_atRef (enc := enc) (C := Tryd.checked) false (laidWorld os) #[.slice none 0 0, .slice none 0 0] rfl (by kernel_rfl) (by kernel_rfl) (by kernel_rfl)
      (OpenSpec.preRow_of_cond 8 hx (by kernel_rfl) (fun k hk => by cases hk) (by kernel_rfl) (laid_met os _))) ?_
  intro W base args ds gs before hval0 hW hcnd _ hsz hLH hSh _
  have hL : laidMet Tryd.prog Rows.fnTightFirstRow.laid W := by rw [← MakeChecks.laidMetH_plain _ _ _ (by kernel_rfl)]; exact hLH
  have hval : ∀ (j : Nat) t v, Tryd.f6.params[j]? = some t → args[j]? = some v → Value.okWide Tryd.prog W .any base t v := hval0
  have hW' := hW
  obtain ⟨p, q, hA0, hV, rfl, hfz, hnd⟩ := hW
  have hA : DataW.TrodAll enc Tryd.prog W 0 (fun _ => true) true Tryd.f6.params.toList args.toList ds p := hA0
  rw [Tryd.params6] at hA hval
  obtain ⟨v0, vs0, d0, ds0, p0, q0, hargs, rfl, rfl, h0, r0⟩ := trodAll_cons hA
  obtain ⟨v1, vs1, d1, ds1, p1, q1, rfl, rfl, rfl, h1, r1⟩ := trodAll_cons r0
  obtain ⟨rfl, rfl, rfl⟩ := trodAll_nil r1
  obtain rfl : args = #[v0, v1] := by cases args; simp_all
  obtain ⟨g1, rfl, hback⟩ := sent_back0 hL hV
  obtain ⟨a0, len0, cap0, rfl⟩ := okWide_slice Tryd.underlying22 (hval 0 22 v0 rfl rfl)
  have k0 := h0
  have lt0 : ∀ x ∈ p0, x.block < W.heap.size := by obtain ⟨m, hm⟩ := k0; exact DataW.trod_lt m _ _ _ hm
  obtain ⟨z0, w0⟩ : ∃ zs, IsRow .u8 W a0 len0 cap0 zs := by
    obtain ⟨fuel, hf⟩ := h0
    rcases open_ints Tryd.underlying22 Tryd.underlying5 (by kernel_rfl) hf with ⟨hcs, _⟩ | ⟨x, l, c, zs, hcs, _, hl, hm, hz, _, hcell, hwz⟩
    · simp [Value.cells] at hcs
      obtain ⟨rfl, rfl, rfl⟩ := hcs
      exact ⟨[], .inl ⟨rfl, rfl, rfl, rfl⟩⟩
    · simp [Value.cells] at hcs
      obtain ⟨rfl, rfl, rfl⟩ := hcs
      exact ⟨zs, .inr ⟨_, rfl, hl, hm, by simpa using hz, hcell, hwz⟩⟩
  obtain ⟨a1, len1, cap1, rfl⟩ := okWide_slice Tryd.underlying22 (hval 1 22 v1 rfl rfl)
  have k1 := h1
  have lt1 : ∀ x ∈ p1, x.block < W.heap.size := by obtain ⟨m, hm⟩ := k1; exact DataW.trod_lt m _ _ _ hm
  obtain ⟨z1, w1⟩ : ∃ zs, IsRow .u8 W a1 len1 cap1 zs := by
    obtain ⟨fuel, hf⟩ := h1
    rcases open_ints Tryd.underlying22 Tryd.underlying5 (by kernel_rfl) hf with ⟨hcs, _⟩ | ⟨x, l, c, zs, hcs, _, hl, hm, hz, _, hcell, hwz⟩
    · simp [Value.cells] at hcs
      obtain ⟨rfl, rfl, rfl⟩ := hcs
      exact ⟨[], .inl ⟨rfl, rfl, rfl, rfl⟩⟩
    · simp [Value.cells] at hcs
      obtain ⟨rfl, rfl, rfl⟩ := hcs
      exact ⟨zs, .inr ⟨_, rfl, hl, hm, by simpa using hz, hcell, hwz⟩⟩
  clear hA0 hval0
  refine (walk a0 len0 cap0 z0 a1 len1 cap1 z1 W w0 w1 hL hSh).mono fun e W' ⟨he, bel⟩ => ?_
  subst he
  exact ⟨_, rfl, _, _, _, [], _, _, hW', trodAll_mk1 (shut_bool Tryd.underlying4 _), (trodAll_cons_mk (Below.trod laidOut (by kernel_rfl) (of_decide_eq_true (by kernel_rfl)) k0 bel lt0) (trodAll_cons_mk (Below.trod laidOut (by kernel_rfl) (of_decide_eq_true (by kernel_rfl)) k1 bel lt1) trodAll_mk0)), hback _ _ bel, bel.frame _, fun h => by cases h⟩

theorem said : Rows.fnTightFirstRow.holds Tryd.pinned (OpenSpec.ofChange Rows.fnTightFirstSpec) :=
  OpenClaim.holds_of_cond 6 Tryd.f6 rfl rfl rfl rfl rfl rfl rfl ⟨rfl, rfl, rfl, rfl, rfl⟩ rfl rfl rfl rfl rfl (by kernel_rfl) Tryd.func6 (by kernel_rfl)
    (of_decide_eq_true (by kernel_rfl)) (by unfold Func.isWrapper; first | (rw [if_pos (by decide +kernel)]; kernel_rfl) | (rw [if_neg (by decide +kernel)]; exact ⟨rfl, rfl⟩))
    (fun os started H enc _ F => by rw [OpenClaim.pre_eq_preRow]; exact lifted os started H enc F)

/-- No parameter wants a stand-in; the program's own looks are as the card says. -/
theorem plain (f : FuncId) (fn : Func) (hf : Tryd.pinned.checked.prog.funcNamed "loop.example/icecores/laws.FnTightFirst" = some f) (hfn : Tryd.pinned.checked.prog.funcs[f]? = some fn) :
    true = Tryd.pinned.checked.prog.looks [] ∧ ∀ (j : Nat) t, fn.params[j]? = some t → Tryd.pinned.checked.prog.wantsStandIn t = false := by
  obtain rfl : f = 6 := Option.some.inj ((show Tryd.prog.funcNamed "loop.example/icecores/laws.FnTightFirst" = some 6 by kernel_rfl).symm.trans hf) |>.symm
  obtain rfl : fn = Tryd.f6 := (Option.some.inj (Tryd.func6.symm.trans hfn)).symm
  refine ⟨by kernel_rfl, fun j t ht => ?_⟩
  have hall : (Tryd.f6.params.toList.all fun u => !Tryd.prog.wantsStandIn u) = true := by kernel_rfl
  exact (show Tryd.prog.wantsStandIn t = false by simpa using List.all_eq_true.1 hall t (by simpa using Array.mem_of_getElem? ht))

/-- The card: the row, and what its listed variables hold tied to the program's text. -/
theorem proved : Rows.FnTightFirstCardSaid :=
  Claim7.holds_tied_plain_at .later [] _ _ _ _ said (fun _ h => by cases h) (by kernel_rfl) (fun _ h => by cases h) fnTightFirst_row_tie rfl ⟨rfl, rfl⟩ (by kernel_rfl) rfl plain (by kernel_rfl)
#print axioms proved
end Go.Proofs.YtanfalkpmmkklabDoor.fnTightFirst
