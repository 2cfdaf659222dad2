/- For every input, the law FnOrderFirst of the given statements returns true over the program at this commit, and its arguments read afterwards as before: no condition. -/
import Derived.Test.YtcemgdekcfdfhaaRows
import Derived.Test.YtcemgdekcfdfhaaLawF
import Derived.WalkKit
import Derived.ProofKit
import Derived.OpenShut
import Derived.ShutString
import Derived.ChangeOld
import Derived.Below
namespace Go.Proofs.Ytcemgdekcfdfhaa.fnOrderFirst
open Go.ChangeShapes Go.WideShapes Go.ChangeAt Go.RowKit
open Go.ChangeMaps (open_string shut_string)
set_option linter.unusedVariables false

theorem own : ownKnob Try.prog.godebug = none := by kernel_rfl
theorem laidOut : laidOutB Try.prog = true := by kernel_rfl

/-- WHAT THE WALK IS TOLD OF A SLICE OF INTEGERS THAT CAME IN: it is nil; or it leads to a row of 'cap' cells, the numbers 'zs' (the first 'len' are its elements, the rest its spare room), each fitting its kind. -/
def IsRow (k : IntKind) (w : World) (a : Option Addr) (len cap : Nat) (zs : List Int) : Prop :=
  (a = none ∧ len = 0 ∧ cap = 0 ∧ zs = []) ∨
  ∃ x, a = some x ∧ len ≤ cap ∧ cap ≤ maxLen ∧ zs.length = cap ∧ (∀ i, i < zs.length → w.cell? (x.add i) = some (.int k (zs.getD i 0))) ∧ ∀ n ∈ zs, (Lit.int k n).wf = true

set_option maxRecDepth 100000 in
set_option maxHeartbeats 3200000 in
theorem walk (a0 : Option Addr) (len0 cap0 : Nat) (z0 : List Int) (w : World) (w0 : IsRow .u8 w a0 len0 cap0 z0) :
    Calls Try.prog 6 #[.slice a0 len0 cap0] w fun e w' => e = .returned (.bool true) ∧ Below w.heap.size w w' := by
  have hB := bytes_of w0
  by_cases hl : 1048576 < len0
  · have hdec : decide (1048576 < len0) = true := by simpa using hl
    go_enter Try.func6, Try.ntmps6
    go_wp2_with fail
    go_ret
    exact ⟨rfl, Below.refl _ _⟩
  have hdec : decide (1048576 < len0) = false := by simpa using hl
  have hm : len0 ≤ 1048576 := by omega
  go_enter Try.func6, Try.ntmps6
  go_wp2_with fail
  refine (DrawOrderNth_any hB).mono ?_
  rintro e wv1 ⟨v, u, l, s, n, rfl, ⟨r0, r1, l1, l3, s1, s4, bl, bs⟩, n0, n9, b1⟩
  clear w0 hB
  have BB := Lib.hid b1
  clear b1
  have R := Lib.hid r0
  clear r0
  have U := Lib.hid r1
  clear r1
  replace R := Lib.hid R.out.row
  replace U := Lib.hid U.out.row
  obtain ⟨aR, cR, rfl, kR, mR⟩ := plen_n R.out
  obtain ⟨aU, cU, rfl, kU, mU⟩ := plen_n U.out
  have e9 : (str []).toList = [] := str_toList []
  have n63 : I63 n := by unfold I63; omega
  rcases nth_cases l s n with hc | ⟨N, rfl, hw, hN, hc⟩
  · have HC := Lib.hid hc
    clear hc
    go_wp2_with fail
    refine (nI_no R.out U.out HC.out).mono ?_
    rintro e wv2 ⟨rfl, b9⟩
    replace R := Lib.hid (R.out.grow b9)
    replace U := Lib.hid (U.out.grow b9)
    replace BB := Lib.hid (BB.out.trans (b9.mono BB.out.size))
    clear b9
    go_wp2_with fail
    refine (nS_no R.out U.out n63 HC.out).mono ?_
    rintro e wv3 ⟨rfl, b9⟩
    replace R := Lib.hid (R.out.grow b9)
    replace U := Lib.hid (U.out.grow b9)
    replace BB := Lib.hid (BB.out.trans (b9.mono BB.out.size))
    clear b9
    go_wp2_with fail
    go_ret
    exact ⟨by first | rfl | (simp; done) | (simp; omega), BB.out⟩
  obtain ⟨t, ht⟩ : ∃ t, jn (txs (par l s) N) = t := ⟨_, rfl⟩
  rw [ht] at hc
  have TT := Lib.hid hc; have TX := Lib.hid ht; have W := Lib.hid hw; have NL := Lib.hid hN
  have t9 : t.length ≤ 52 := by rw [← ht]; exact nth_len hw N
  have so : (str t).size = t.length := str_size t
  clear hc ht hw hN
  go_wp2_with fail
  refine (nI_yes R.out U.out TT.out).mono ?_
  rintro e wv2 ⟨rfl, b9⟩
  replace R := Lib.hid (R.out.grow b9)
  replace U := Lib.hid (U.out.grow b9)
  replace BB := Lib.hid (BB.out.trans (b9.mono BB.out.size))
  clear b9
  go_wp2_with fail
  refine (nS_yes R.out U.out n63 TT.out).mono ?_
  rintro e wv3 ⟨rfl, b9⟩
  replace R := Lib.hid (R.out.grow b9)
  replace U := Lib.hid (U.out.grow b9)
  replace BB := Lib.hid (BB.out.trans (b9.mono BB.out.size))
  clear b9
  obtain ⟨gR, oR, qR, eR, _, _⟩ := R.out.known (by omega)
  simp only [Value.slice.injEq, true_and] at eR
  obtain ⟨rfl, rfl⟩ := eR
  obtain ⟨gU, oU, qU, eU, _, _⟩ := U.out.known (by have := W.out.len; omega)
  simp only [Value.slice.injEq, true_and] at eU
  obtain ⟨rfl, rfl⟩ := eU
  obtain ⟨F, hF⟩ : ∃ F, (par l s).map (fun p => List.replicate p.1 false ++ List.replicate p.2 true) = F := ⟨_, rfl⟩
  obtain ⟨G, hG⟩ : ∃ F, (par l s).map (fun p => List.replicate p.2 true ++ List.replicate p.1 false) = F := ⟨_, rfl⟩
  have FF := Lib.hid hF; have GG := Lib.hid hG
  have fl : F.length = l.length := by rw [← hF, List.length_map, par_length l s W.out.len]
  have gl : G.length = l.length := by rw [← hG, List.length_map, par_length l s W.out.len]
  have FL := Lib.hid fl; have GL := Lib.hid gl
  clear hF hG fl gl
  go_wp2_with fail
  go_loopg [10, 11, 12] l.length (fun k x y v wr => ∃ j : Nat, v = .int .i64 j ∧ j + k = l.length ∧ x = .string (str (jn (F.take j))) ∧ y = .string (str (jn (G.take j))) ∧ Below wv3.heap.size wv3 wr)
  case atStart => exact ⟨0, rfl, by omega, rfl, rfl, Below.refl _ _⟩
  case round =>
    obtain ⟨wv4, rfl⟩ : ∃ x, x = wr := ⟨wr, rfl⟩
    obtain ⟨j, rfl, hk, rfl, rfl, hb⟩ := hrel
    obtain ⟨gj, rfl⟩ : ∃ g, g = gk := ⟨_, rfl⟩
    have K := Lib.hid hk; have B := Lib.hid hb
    have hjl : j ≤ l.length := by omega
    clear hk hb
    replace R := Lib.hid (R.out.grow B.out)
    replace U := Lib.hid (U.out.grow B.out)
    replace BB := Lib.hid (BB.out.trans (B.out.mono BB.out.size))
    by_cases hlt : j < l.length
    · have hls : j < s.length := by have := W.out.len; omega
      have i0 : (0 : Int) ≤ (j : Int) := by omega
      have i1 : (j : Int) < (l.length : Int) := by omega
      have i2 : (j : Int) < (s.length : Int) := by omega
      have d1 := R.out.cells j hlt
      have d2 := U.out.cells j hls
      have a6 := W.out.a6 j hlt; have b6 := W.out.b6 j hls
      obtain ⟨A, hA⟩ : ∃ A : Nat, l[j] = A := ⟨l[j].toNat, by omega⟩
      obtain ⟨B', hB'⟩ : ∃ A : Nat, s[j] = A := ⟨s[j].toNat, by omega⟩
      rw [hA] at d1 a6
      rw [hB'] at d2 b6
      obtain ⟨e1, e2, o1, o2⟩ := first_step W.out FF.out GG.out hlt hA hB'
      have E1 := Lib.hid e1; have E2 := Lib.hid e2
      have j9 : IntKind.i64.wrap ((j : Int) + 1) = (j : Int) + 1 := IntWalk.i64_in _ (by omega)
      obtain ⟨o, ho⟩ : ∃ o, jn (F.take j) = o := ⟨_, rfl⟩
      obtain ⟨p, hp⟩ : ∃ o, jn (G.take j) = o := ⟨_, rfl⟩
      rw [ho] at o1 E1 ⊢
      rw [hp] at o2 E2 ⊢
      have HO := Lib.hid ho; have HP := Lib.hid hp
      clear e1 e2 ho hp hA hB'
      by_cases j0 : 0 < j
      · have ba1 : ∀ w, (Op.stringOp .add (str o) ⟨#[124]⟩).run Try.prog w = .ok (.string (str (o ++ [124]))) w := fun w => add_str o [124] w (by simp; omega)
        have ba2 : ∀ w, (Op.stringOp .add (str p) ⟨#[124]⟩).run Try.prog w = .ok (.string (str (p ++ [124]))) w := fun w => add_str p [124] w (by simp; omega)
        have j1 : (0 : Int) < (j : Int) := by omega
        go_wp2_with fail
        go_loopg [13, 15] A (fun k x y wr => ∃ q : Nat, y = .int .i64 q ∧ q + k = A ∧ x = .string (str (List.replicate q 97)) ∧ wv4 = wr)
        case atStart => exact ⟨0, rfl, by omega, rfl, rfl⟩
        case round =>
          obtain ⟨q, rfl, hk, rfl, rfl⟩ := hrel
          obtain ⟨gx, rfl⟩ : ∃ g, g = gk := ⟨_, rfl⟩
          have K := Lib.hid hk
          have hq : q ≤ A := by omega
          clear hk
          by_cases hlq : q < A
          · have q1 : (q : Int) < (A : Int) := by omega
            have add1 : ∀ w, (Op.stringOp .add (str (List.replicate q 97)) ⟨#[97]⟩).run Try.prog w = .ok (.string (str (List.replicate (q + 1) 97))) w := fun w => by rw [List.replicate_succ']; exact add_str (List.replicate q 97) [97] w (by simp; omega)
            have q9 : IntKind.i64.wrap ((q : Int) + 1) = (q : Int) + 1 := IntWalk.i64_in _ (by omega)
            go_wp2_with fail
            go_roundg (gx - 1)
            case measure => have := K.out; omega
            case rel => exact ⟨q + 1, by go_num, by have := K.out; omega, rfl, rfl⟩
          obtain rfl : A = q := by omega
          clear hlq hq K
          go_wp2_with fail
          go_loopg [14, 16] B' (fun k x y wr => ∃ q : Nat, y = .int .i64 q ∧ q + k = B' ∧ x = .string (str (List.replicate q 98)) ∧ wv4 = wr)
          case atStart => exact ⟨0, rfl, by omega, rfl, rfl⟩
          case round =>
            obtain ⟨q, rfl, hk, rfl, rfl⟩ := hrel
            obtain ⟨gy, rfl⟩ : ∃ g, g = gk := ⟨_, rfl⟩
            have K := Lib.hid hk
            have hq : q ≤ B' := by omega
            clear hk
            by_cases hlq : q < B'
            · have q1 : (q : Int) < (B' : Int) := by omega
              have add1 : ∀ w, (Op.stringOp .add (str (List.replicate q 98)) ⟨#[98]⟩).run Try.prog w = .ok (.string (str (List.replicate (q + 1) 98))) w := fun w => by rw [List.replicate_succ']; exact add_str (List.replicate q 98) [98] w (by simp; omega)
              have q9 : IntKind.i64.wrap ((q : Int) + 1) = (q : Int) + 1 := IntWalk.i64_in _ (by omega)
              go_wp2_with fail
              go_roundg (gy - 1)
              case measure => have := K.out; omega
              case rel => exact ⟨q + 1, by go_num, by have := K.out; omega, rfl, rfl⟩
            obtain rfl : B' = q := by omega
            clear hlq hq K
            obtain ⟨o2, h2⟩ : ∃ x : List UInt8, (o ++ [124]) ++ List.replicate A 97 = x := ⟨_, rfl⟩
            obtain ⟨o3, h3⟩ : ∃ x : List UInt8, o2 ++ List.replicate B' 98 = x := ⟨_, rfl⟩
            have l2 : o2.length ≤ 60 := by rw [← h2]; simp; omega
            have od1 : ∀ w, (Op.stringOp .add (str (o ++ [124])) (str (List.replicate A 97))).run Try.prog w = .ok (.string (str o2)) w := fun w => by rw [← h2]; exact add_str _ _ w (by simp; omega)
            have od2 : ∀ w, (Op.stringOp .add (str o2) (str (List.replicate B' 98))).run Try.prog w = .ok (.string (str o3)) w := fun w => by rw [← h3]; exact add_str _ _ w (by simp; omega)
            have E1X := Lib.hid (show jn (F.take (j + 1)) = o3 from by rw [E1.out, if_neg (by omega), ← h3, ← h2])
            clear h2 h3 l2
            obtain ⟨p2, h2⟩ : ∃ x : List UInt8, (p ++ [124]) ++ List.replicate B' 98 = x := ⟨_, rfl⟩
            obtain ⟨p3, h3⟩ : ∃ x : List UInt8, p2 ++ List.replicate A 97 = x := ⟨_, rfl⟩
            have l2 : p2.length ≤ 60 := by rw [← h2]; simp; omega
            have pd1 : ∀ w, (Op.stringOp .add (str (p ++ [124])) (str (List.replicate B' 98))).run Try.prog w = .ok (.string (str p2)) w := fun w => by rw [← h2]; exact add_str _ _ w (by simp; omega)
            have pd2 : ∀ w, (Op.stringOp .add (str p2) (str (List.replicate A 97))).run Try.prog w = .ok (.string (str p3)) w := fun w => by rw [← h3]; exact add_str _ _ w (by simp; omega)
            have E2X := Lib.hid (show jn (G.take (j + 1)) = p3 from by rw [E2.out, if_neg (by omega), ← h3, ← h2])
            clear h2 h3 l2
            go_wp2_with fail
            go_roundg (gj - 1)
            case measure => have := K.out; omega
            case rel => exact ⟨j + 1, by go_num, by have := K.out; omega, by rw [E1X.out], by rw [E2X.out], B.out⟩
      · have j2 : decide (0 < j) = false := decide_eq_false j0
        have on : o = [] := by rw [← HO.out, show j = 0 by omega]; rfl
        have pn : p = [] := by rw [← HP.out, show j = 0 by omega]; rfl
        subst on pn
        go_wp2_with fail
        go_loopg [13, 15] A (fun k x y wr => ∃ q : Nat, y = .int .i64 q ∧ q + k = A ∧ x = .string (str (List.replicate q 97)) ∧ wv4 = wr)
        case atStart => exact ⟨0, rfl, by omega, rfl, rfl⟩
        case round =>
          obtain ⟨q, rfl, hk, rfl, rfl⟩ := hrel
          obtain ⟨gx, rfl⟩ : ∃ g, g = gk := ⟨_, rfl⟩
          have K := Lib.hid hk
          have hq : q ≤ A := by omega
          clear hk
          by_cases hlq : q < A
          · have q1 : (q : Int) < (A : Int) := by omega
            have add1 : ∀ w, (Op.stringOp .add (str (List.replicate q 97)) ⟨#[97]⟩).run Try.prog w = .ok (.string (str (List.replicate (q + 1) 97))) w := fun w => by rw [List.replicate_succ']; exact add_str (List.replicate q 97) [97] w (by simp; omega)
            have q9 : IntKind.i64.wrap ((q : Int) + 1) = (q : Int) + 1 := IntWalk.i64_in _ (by omega)
            go_wp2_with fail
            go_roundg (gx - 1)
            case measure => have := K.out; omega
            case rel => exact ⟨q + 1, by go_num, by have := K.out; omega, rfl, rfl⟩
          obtain rfl : A = q := by omega
          clear hlq hq K
          go_wp2_with fail
          go_loopg [14, 16] B' (fun k x y wr => ∃ q : Nat, y = .int .i64 q ∧ q + k = B' ∧ x = .string (str (List.replicate q 98)) ∧ wv4 = wr)
          case atStart => exact ⟨0, rfl, by omega, rfl, rfl⟩
          case round =>
            obtain ⟨q, rfl, hk, rfl, rfl⟩ := hrel
            obtain ⟨gy, rfl⟩ : ∃ g, g = gk := ⟨_, rfl⟩
            have K := Lib.hid hk
            have hq : q ≤ B' := by omega
            clear hk
            by_cases hlq : q < B'
            · have q1 : (q : Int) < (B' : Int) := by omega
              have add1 : ∀ w, (Op.stringOp .add (str (List.replicate q 98)) ⟨#[98]⟩).run Try.prog w = .ok (.string (str (List.replicate (q + 1) 98))) w := fun w => by rw [List.replicate_succ']; exact add_str (List.replicate q 98) [98] w (by simp; omega)
              have q9 : IntKind.i64.wrap ((q : Int) + 1) = (q : Int) + 1 := IntWalk.i64_in _ (by omega)
              go_wp2_with fail
              go_roundg (gy - 1)
              case measure => have := K.out; omega
              case rel => exact ⟨q + 1, by go_num, by have := K.out; omega, rfl, rfl⟩
            obtain rfl : B' = q := by omega
            clear hlq hq K
            obtain ⟨o2, h2⟩ : ∃ x : List UInt8, [] ++ List.replicate A 97 = x := ⟨_, rfl⟩
            obtain ⟨o3, h3⟩ : ∃ x : List UInt8, o2 ++ List.replicate B' 98 = x := ⟨_, rfl⟩
            have l2 : o2.length ≤ 60 := by rw [← h2]; simp; omega
            have od1 : ∀ w, (Op.stringOp .add (str []) (str (List.replicate A 97))).run Try.prog w = .ok (.string (str o2)) w := fun w => by rw [← h2]; exact add_str _ _ w (by simp; omega)
            have od2 : ∀ w, (Op.stringOp .add (str o2) (str (List.replicate B' 98))).run Try.prog w = .ok (.string (str o3)) w := fun w => by rw [← h3]; exact add_str _ _ w (by simp; omega)
            have E1X := Lib.hid (show jn (F.take (j + 1)) = o3 from by rw [E1.out, if_pos (by omega), ← h3, ← h2])
            clear h2 h3 l2
            obtain ⟨p2, h2⟩ : ∃ x : List UInt8, [] ++ List.replicate B' 98 = x := ⟨_, rfl⟩
            obtain ⟨p3, h3⟩ : ∃ x : List UInt8, p2 ++ List.replicate A 97 = x := ⟨_, rfl⟩
            have l2 : p2.length ≤ 60 := by rw [← h2]; simp; omega
            have pd1 : ∀ w, (Op.stringOp .add (str []) (str (List.replicate B' 98))).run Try.prog w = .ok (.string (str p2)) w := fun w => by rw [← h2]; exact add_str _ _ w (by simp; omega)
            have pd2 : ∀ w, (Op.stringOp .add (str p2) (str (List.replicate A 97))).run Try.prog w = .ok (.string (str p3)) w := fun w => by rw [← h3]; exact add_str _ _ w (by simp; omega)
            have E2X := Lib.hid (show jn (G.take (j + 1)) = p3 from by rw [E2.out, if_pos (by omega), ← h3, ← h2])
            clear h2 h3 l2
            go_wp2_with fail
            go_roundg (gj - 1)
            case measure => have := K.out; omega
            case rel => exact ⟨j + 1, by go_num, by have := K.out; omega, by rw [E1X.out], by rw [E2X.out], B.out⟩
    have hj : j = l.length := by omega
    have FE : Hid (F.take j = F) := Lib.hid (List.take_of_length_le (by rw [FL.out]; omega))
    have GE : Hid (G.take j = G) := Lib.hid (List.take_of_length_le (by rw [GL.out]; omega))
    rw [FE.out, GE.out]
    obtain ⟨c, hc⟩ : ∃ c, cnt (par l s) = c := ⟨_, rfl⟩
    have CC : Hid (countOf l s = (c : Int)) := Lib.hid (by rw [count_of W.out, hc])
    have cp := cnt_pos (par l s)
    have c9 := cnt_four W.out.small (by rw [par_length l s W.out.len]; exact W.out.most)
    have T1 : Hid (nthOf l s 0 = some (jn F)) := Lib.hid (by rw [show (0 : Int) = ((0 : Nat) : Int) from rfl, nth_of W.out cp, txs_first, FF.out])
    have T2 : Hid (nthOf l s ((c : Int) - 1) = some (jn G)) := Lib.hid (by rw [← hc, show ((cnt (par l s) : Nat) : Int) - 1 = ((cnt (par l s) - 1 : Nat) : Int) by omega, nth_of W.out (by omega), txs_last, GG.out])
    have tl : t.length = (jn F).length := by rw [← TX.out, ← FF.out, ← txs_first]; exact nth_same W.out _ _
    rw [hc] at cp c9
    have wc : IntKind.i64.wrap ((c : Int) - 1) = (c : Int) - 1 := IntWalk.i64_in _ (by omega)
    obtain ⟨f, hf⟩ : ∃ f, jn F = f := ⟨_, rfl⟩
    obtain ⟨g, hg⟩ : ∃ f, jn G = f := ⟨_, rfl⟩
    rw [hf] at T1 tl ⊢
    rw [hg] at T2 ⊢
    have sf : (str f).size = t.length := by rw [str_size, tl]
    have i1 : decide (j < l.length) = false := decide_eq_false hlt
    clear hc hf hg tl hlt hj FE GE
    go_wp2_with fail
    refine (nI_yes R.out U.out T1.out).mono ?_
    rintro e wv5 ⟨rfl, b9⟩
    replace R := Lib.hid (R.out.grow b9)
    replace U := Lib.hid (U.out.grow b9)
    replace BB := Lib.hid (BB.out.trans (b9.mono BB.out.size))
    clear b9
    go_wp2_with fail
    refine (cntI_is R.out U.out CC.out).mono ?_
    rintro e wv6 ⟨rfl, b9⟩
    replace R := Lib.hid (R.out.grow b9)
    replace U := Lib.hid (U.out.grow b9)
    replace BB := Lib.hid (BB.out.trans (b9.mono BB.out.size))
    clear b9
    go_wp2_with fail
    refine (nI_yes R.out U.out T2.out).mono ?_
    rintro e wv7 ⟨rfl, b9⟩
    replace R := Lib.hid (R.out.grow b9)
    replace U := Lib.hid (U.out.grow b9)
    replace BB := Lib.hid (BB.out.trans (b9.mono BB.out.size))
    clear b9
    go_wp2_with fail
    go_ret
    exact ⟨by first | rfl | (simp; done) | (simp; omega), BB.out⟩

set_option maxRecDepth 100000 in
theorem lifted (os : Os) (started : os.Started) (H : Type) (enc : TypeId × Value → H) :
    ReturnsInHanded {} Try.checked os 6 .any (Rows.fnOrderFirstSpec.pre6 enc Try.prog Try.f6 Rows.fnOrderFirstRow.domain false) (Rows.fnOrderFirstSpec.post enc Try.prog Try.f6 false true false false) := by
  refine returnsInHanded_of_change (C := Try.checked) own started (by kernel_rfl) Try.func6
    (ChangeSpec.witness6 (enc := enc) (C := Try.checked) false ⟨#[], #[.slice none 0 0], []⟩ 8 (by kernel_rfl) (by kernel_rfl) (by kernel_rfl) (by kernel_rfl)) ?_
  intro W base args ds gs before hval0 hW hcnd _
  have hval : ∀ (j : Nat) t v, Try.f6.params[j]? = some t → args[j]? = some v → Value.okWide Try.prog W .any base t v := hval0
  have hW' := hW
  obtain ⟨p, q, hA0, hV, rfl, hfz, hnd⟩ := hW
  have hA : DataW.TrodAll enc Try.prog W 0 (fun _ => true) true Try.f6.params.toList args.toList ds p := hA0
  rw [Try.params6] at hA hval
  obtain ⟨v0, vs0, d0, ds0, p0, q0, hargs, rfl, rfl, h0, r0⟩ := trodAll_cons hA
  obtain ⟨rfl, rfl, rfl⟩ := trodAll_nil r0
  obtain rfl : args = #[v0] := by cases args; simp_all
  obtain ⟨rfl, rfl⟩ := trodVars_none hV
  obtain ⟨a0, len0, cap0, rfl⟩ := okWide_slice Try.underlying22 (hval 0 22 v0 rfl rfl)
  have k0 := h0
  have lt0 : ∀ x ∈ p0, x.block < W.heap.size := by obtain ⟨m, hm⟩ := k0; exact DataW.trod_lt m _ _ _ hm
  obtain ⟨z0, w0⟩ : ∃ zs, IsRow .u8 W a0 len0 cap0 zs := by
    obtain ⟨fuel, hf⟩ := h0
    rcases open_ints Try.underlying22 Try.underlying5 (by kernel_rfl) hf with ⟨hcs, _⟩ | ⟨x, l, c, zs, hcs, _, hl, hm, hz, _, hcell, hwz⟩
    · simp [Value.cells] at hcs
      obtain ⟨rfl, rfl, rfl⟩ := hcs
      exact ⟨[], .inl ⟨rfl, rfl, rfl, rfl⟩⟩
    · simp [Value.cells] at hcs
      obtain ⟨rfl, rfl, rfl⟩ := hcs
      exact ⟨zs, .inr ⟨_, rfl, hl, hm, by simpa using hz, hcell, hwz⟩⟩
  clear hA0 hval0
  refine (walk a0 len0 cap0 z0 W w0).mono fun e W' ⟨he, bel⟩ => ?_
  subst he
  exact ⟨_, rfl, _, _, _, [], _, [], hW', trodAll_mk1 (shut_bool Try.underlying4 _), (trodAll_cons_mk (Below.trod laidOut (by kernel_rfl) (of_decide_eq_true (by kernel_rfl)) k0 bel lt0) trodAll_mk0), rfl, bel.frame _, fun h => by cases h⟩

theorem over : Rows.fnOrderFirstRow.holds Try.pinned (OpenSpec.ofChange Rows.fnOrderFirstSpec) :=
  OpenClaim.holds_of_wide 6 Try.f6 rfl rfl rfl rfl rfl rfl rfl ⟨rfl, rfl, rfl, rfl, rfl⟩ rfl rfl rfl rfl rfl (by kernel_rfl) Try.func6 (by kernel_rfl)
    (of_decide_eq_true (by kernel_rfl)) (by unfold Func.isWrapper; first | (rw [if_pos (by decide +kernel)]; kernel_rfl) | (rw [if_neg (by decide +kernel)]; exact ⟨rfl, rfl⟩))
    (fun os started H enc _ => lifted os started H enc)

/-- ████ THE STATEMENT ████ -/
theorem proved : Rows.FnOrderFirstSaid := over
#print axioms proved
end Go.Proofs.Ytcemgdekcfdfhaa.fnOrderFirst
