/- For every input, the law FnPassAdd of the given statements returns true over the program at this commit, and its arguments read afterwards as before: no condition. -/
import Derived.Test.YtdnalkppligodaaRows
import Derived.Test.YtdnalkppligodaaLawS
import Derived.WalkKit
import Derived.ProofKit
import Derived.OpenShut
import Derived.ShutString
import Derived.ChangeOld
import Derived.Below
namespace Go.Proofs.Ytdnalkppligodaa.fnPassAdd
open Go.ChangeShapes Go.WideShapes Go.ChangeAt Go.RowKit
open Go.ChangeMaps (open_string shut_string)
set_option linter.unusedVariables false

theorem own : ownKnob Try.prog.godebug = none := by kernel_rfl
theorem laidOut : laidOutB Try.prog = true := by kernel_rfl

/-- WHAT THE WALK IS TOLD OF A SLICE OF INTEGERS THAT CAME IN: it is nil; or it leads to a row of 'cap' cells, the numbers 'zs' (the first 'len' are its elements, the rest its spare room), each fitting its kind. -/
def IsRow (k : IntKind) (w : World) (a : Option Addr) (len cap : Nat) (zs : List Int) : Prop :=
  (a = none ∧ len = 0 ∧ cap = 0 ∧ zs = []) ∨
  ∃ x, a = some x ∧ len ≤ cap ∧ cap ≤ maxLen ∧ zs.length = cap ∧ (∀ i, i < zs.length → w.cell? (x.add i) = some (.int k (zs.getD i 0))) ∧ ∀ n ∈ zs, (Lit.int k n).wf = true

set_option maxRecDepth 100000 in
set_option maxHeartbeats 3200000 in
theorem walk (a0 : Option Addr) (len0 cap0 : Nat) (z0 : List Int) (a1 : Option Addr) (len1 cap1 : Nat) (z1 : List Int) (w : World) (w0 : IsRow .u8 w a0 len0 cap0 z0) (w1 : IsRow .u8 w a1 len1 cap1 z1) :
    Calls Try.prog 5 #[.slice a0 len0 cap0, .slice a1 len1 cap1] w fun e w' => e = .returned (.bool true) ∧ Below w.heap.size w w' := by
  have hB := bytes_of w0
  have hB1 := bytes_len (bytes_of w1)
  unfold maxLen at hB1
  by_cases hl : 1048576 < len0
  · have hdec : decide (1048576 < len0) = true := by simpa using hl
    go_enter Try.func5, Try.ntmps5
    go_wp2_with fail
    go_ret
    exact ⟨rfl, Below.refl _ _⟩
  have hdec : decide (1048576 < len0) = false := by simpa using hl
  by_cases hl1 : 1048576 < len1
  · go_enter Try.func5, Try.ntmps5
    go_wp2_with fail
    go_ret
    exact ⟨rfl, Below.refl _ _⟩
  have hm : len0 ≤ 1048576 := by omega
  have hm1 : len1 ≤ 1048576 := by omega
  clear hB1
  go_enter Try.func5, Try.ntmps5
  go_wp2_with fail
  refine (DrawSmoothPass_any hB).mono ?_
  rintro e wv1 ⟨v, l, rfl, r0, b1⟩
  clear w0 w1 hB
  have BB := Lib.hid b1
  clear b1
  have R := Lib.hid r0
  clear r0
  cases hr : isRow l
  · have HR := Lib.hid hr
    clear hr
    go_wp2_with fail
    refine (passI_no R.out HR.out).mono ?_
    rintro e wv2 ⟨vX, rfl, o9, b9⟩
    replace R := Lib.hid (R.out.grow b9)
    replace BB := Lib.hid (BB.out.trans (b9.mono BB.out.size))
    clear b9
    have X := Lib.hid o9
    clear o9
    go_wp2_with fail
    refine (passS_no R.out HR.out).mono ?_
    rintro e wv3 ⟨vY, rfl, o9, b9⟩
    replace R := Lib.hid (R.out.grow b9)
    replace X := Lib.hid (X.out.grow b9)
    replace BB := Lib.hid (BB.out.trans (b9.mono BB.out.size))
    clear b9
    have Y := Lib.hid o9
    clear o9
    go_wp2_with fail
    refine (isame_yes X.out.row Y.out.row rfl).mono ?_
    rintro e wv4 ⟨rfl, b9⟩
    replace R := Lib.hid (R.out.grow b9)
    replace X := Lib.hid (X.out.grow b9)
    replace Y := Lib.hid (Y.out.grow b9)
    replace BB := Lib.hid (BB.out.trans (b9.mono BB.out.size))
    clear b9
    go_wp2_with fail
    refine (isame_yes X.out.row Y.out.row rfl).mono ?_
    rintro e wv5 ⟨rfl, b9⟩
    replace R := Lib.hid (R.out.grow b9)
    replace X := Lib.hid (X.out.grow b9)
    replace Y := Lib.hid (Y.out.grow b9)
    replace BB := Lib.hid (BB.out.trans (b9.mono BB.out.size))
    clear b9
    go_wp2_with fail
    go_ret
    exact ⟨by first | rfl | (simp; done) | (simp; omega), BB.out⟩
  · have HR := Lib.hid hr
    clear hr
    go_wp2_with fail
    refine (passI_yes R.out HR.out).mono ?_
    rintro e wv2 ⟨vP, rfl, o9, b9⟩
    replace R := Lib.hid (R.out.grow b9)
    replace BB := Lib.hid (BB.out.trans (b9.mono BB.out.size))
    clear b9
    have P := Lib.hid o9
    clear o9
    go_wp2_with fail
    refine (passS_yes R.out HR.out).mono ?_
    rintro e wv3 ⟨vY, rfl, o9, b9⟩
    replace R := Lib.hid (R.out.grow b9)
    replace P := Lib.hid (P.out.grow b9)
    replace BB := Lib.hid (BB.out.trans (b9.mono BB.out.size))
    clear b9
    have Y := Lib.hid o9
    clear o9
    go_wp2_with fail
    refine (isame_yes P.out.row Y.out.row rfl).mono ?_
    rintro e wv4 ⟨rfl, b9⟩
    replace R := Lib.hid (R.out.grow b9)
    replace P := Lib.hid (P.out.grow b9)
    replace Y := Lib.hid (Y.out.grow b9)
    replace BB := Lib.hid (BB.out.trans (b9.mono BB.out.size))
    clear b9
    clear Y
    have h1 := (isRow_iff.1 HR.out).1
    have h20 := (isRow_iff.1 HR.out).2.1
    obtain ⟨n, hn⟩ : ∃ n, l.length = n := ⟨_, rfl⟩
    rw [hn] at h1 h20
    have HN := Lib.hid hn
    clear hn
    obtain ⟨gR, pR, cR, rfl, kR, mR⟩ := known_n R.out HN.out (by omega)
    have HP : Hid ((pass l).length = n) := Lib.hid (by rw [pass_length]; exact HN.out)
    have SP := Lib.hid (pass_small HR.out)
    obtain ⟨gP, pP, cP, rfl, kP, mP⟩ := known_n P.out.row HP.out (by omega)
    obtain ⟨y, hy⟩ : ∃ y : Int, (len1 : Int).tmod (n : Int) = y := ⟨_, rfl⟩
    have hy0 : 0 ≤ y := by rw [← hy]; exact Int.tmod_nonneg _ (by omega)
    have hy1 : y < (n : Int) := by rw [← hy]; exact Int.tmod_lt_of_pos _ (by omega)
    have hye : (len1 : Int) % (n : Int) = y := by rw [← hy, Int.tmod_eq_emod_of_nonneg (by omega)]
    have z2 : ¬ ((n : Int) = 0) := by omega
    obtain ⟨i, rfl⟩ : ∃ i : Nat, y = i := ⟨y.toNat, by omega⟩
    have hi : i < n := by omega
    have hil : i < l.length := by rw [HN.out]; exact hi
    have z3 : IntKind.i64.wrap (i : Int) = (i : Int) := IntWalk.i64_in _ (by omega)
    have j2 : (0 : Int) ≤ (i : Int) := by omega
    have j1 : (i : Int) < (n : Int) := by omega
    have bi := (isRow_iff.1 HR.out).2.2 _ (List.getElem_mem hil)
    obtain ⟨x, hx⟩ : ∃ x : Int, l[i]'hil = x := ⟨_, rfl⟩
    rw [hx] at bi
    have z4 : IntKind.i64.wrap (x + 1) = x + 1 := IntWalk.i64_in _ (by omega)
    have HX := Lib.hid hx
    have BU : Hid (l.set i (x + 1) = bump l i) := Lib.hid (by unfold bump; rw [getD_at hil, hx])
    have LB : Hid ((bump l i).length = n) := Lib.hid (by rw [bump_length]; exact HN.out)
    clear hx
    have BA := Lib.hid ((Below.refl wv4.heap.size wv4).alloc (Nat.le_refl _) (.cells #[] 3))
    have TA := Lib.hid (rests_row (R.out.grow BA.out))
    have z20 : n ≤ 1000 := by omega
    go_wp2_with (at_builtin; refine iappend_list intT rfl _ _ rfl (B := wv4.heap.size) _ [] rfl (iown_empty (W := wv4) Array.getElem?_push_size (Nat.le_refl _)) ⟨gR, pR, none⟩ n cR l rfl HN.out TA.out (by simp; omega) (by simp) ?_; intro v5 w5 hown5 hg5)
    rw [List.nil_append] at hown5
    have B5 : Below wv4.heap.size wv4 w5 := Below.grown BA.out hg5 BA.out.size (fun k hk => Nat.le_of_eq (Option.some.inj hk))
    obtain ⟨g5, c5, hu5, hc5, hc5m, hB5, hg5w, hp5⟩ := hown5.at (by rw [HN.out]; omega)
    unfold maxLen at hc5m
    rw [HN.out] at hu5 hc5
    have e5 := (hp5 i hil).cell
    rw [HX.out] at e5
    have f5 := (hp5 i hil).froz
    have OX := (hp5 i hil).set (x + 1)
    rw [BU.out] at OX
    have OX := Lib.hid OX
    have B6 := Lib.hid (B5.setCell (p := ⟨g5, i, none⟩) hB5 (.int .i64 (x + 1)))
    subst hu5
    clear hp5 hown5 hg5 TA BA B5
    go_simp
    go_upto_region 11 with fail
    generalize (w5.setCell ⟨g5, i, none⟩ (.int .i64 (x + 1))) = WX at OX B6 ⊢
    clear e5 f5
    obtain ⟨wv5, hWX⟩ : ∃ W, W = WX := ⟨WX, rfl⟩
    subst hWX
    have b6 := B6.out
    replace R := Lib.hid (R.out.grow b6)
    replace P := Lib.hid (P.out.grow b6)
    replace BB := Lib.hid (BB.out.trans (b6.mono BB.out.size))
    clear b6 B6
    obtain ⟨i0, hi0, hz0, hz1, hz2⟩ := info_parts intInfo
    go_upto_region 12 with (refine wpList_make_full _ rfl _ _ 23 rfl wv5.heap.size 3 i0 _ 1 Try.underlying23 hi0 hz0 hz1 .i64 .i64 _ _ n rfl rfl rfl rfl (by rw [hz2]; omega) (by unfold maxLen; omega) (Nat.le_refl _) ?_; intro w1 hown hg)
    have ow : IOwn w1 wv5.heap.size (.slice (some ⟨wv5.heap.size, 0, none⟩) n n) (zeros n) := by
      show w1.ownsRow _ _ 1 _ (zeros n).length (cells1 (zeros n))
      have e : cells1 (zeros n) = (madeCells #[Value.int .i64 0] (n * 1)).toList := by
        rw [Nat.mul_one, toList_madeCells_one]; simp [cells1, zeros]
      rw [e, show (zeros n).length = n by simp [zeros]]; exact hown
    have B7 : Below wv5.heap.size wv5 w1 := (Below.refl wv5.heap.size wv5).grown hg (Nat.le_refl _) (fun k hk => by simp at hk)
    have LZ0 : (zeros n).length = n := by simp [zeros]
    obtain ⟨g7, c7, hu7, hc7, hc7m, hB7, hg7w, hp7⟩ := ow.at (by rw [LZ0]; omega)
    have hin : i < (zeros n).length := by rw [LZ0]; exact hi
    have e7 := (hp7 i hin).cell
    have f7 := (hp7 i hin).froz
    have ox := (hp7 i hin).set 1
    rw [show (zeros n).set i 1 = unit n i from rfl] at ox
    simp only [Value.slice.injEq, Option.some.injEq, Addr.mk.injEq, and_true] at hu7
    obtain ⟨hu8, hu9, hu10⟩ := hu7
    obtain ⟨b, hb⟩ : ∃ b, wv5.heap.size = b := ⟨_, rfl⟩
    rw [hb] at hu8 ox hB7 B7
    have OZ := Lib.hid ox
    have B8 := Lib.hid (B7.setCell (p := ⟨g7, i, none⟩) hB7 (.int .i64 1))
    obtain ⟨q7, hq7⟩ : ∃ x : Int, (zeros n)[i]'hin = x := ⟨_, rfl⟩
    rw [hq7] at e7
    subst hu8
    have HB := Lib.hid hb
    rw [hb]
    clear hp7 ow hown hg ox hu9 hu10 B7 hi0 hz0 hz1 hz2 hq7 hb LZ0 hin
    clear i0
    go_upto_region 13 with fail
    generalize (w1.setCell ⟨b, i, none⟩ (.int .i64 1)) = WZ at OZ B8 ⊢
    clear e7 f7
    have b8 := B8.out
    rw [← HB.out] at b8
    obtain ⟨wv6, hWZ⟩ : ∃ W, W = WZ := ⟨WZ, rfl⟩
    subst hWZ
    replace R := Lib.hid (R.out.grow b8)
    replace P := Lib.hid (P.out.grow b8)
    replace OX := Lib.hid (OX.out.grow b8)
    replace BB := Lib.hid (BB.out.trans (b8.mono BB.out.size))
    clear b8 B8
    have LU : Hid ((unit n i).length = n) := Lib.hid (unit_length n i)
    have UR : Hid (isRow (unit n i) = true) := Lib.hid (row_unit (k := i) (by omega) h20)
    have LV : Hid ((pass (unit n i)).length = n) := Lib.hid (by rw [pass_length, LU.out])
    cases hr2 : isRow (bump l i)
    · have HR2 := Lib.hid hr2
      clear hr2
      go_wp2_with fail
      refine (passI_no OX.out.row HR2.out).mono ?_
      rintro e wv7 ⟨vY, rfl, o9, b9⟩
      replace R := Lib.hid (R.out.grow b9)
      replace P := Lib.hid (P.out.grow b9)
      replace OX := Lib.hid (OX.out.grow b9)
      replace OZ := Lib.hid (OZ.out.grow b9)
      replace BB := Lib.hid (BB.out.trans (b9.mono BB.out.size))
      clear b9
      have Y := Lib.hid o9
      clear o9
      obtain ⟨aY, cY, hvY, _, _⟩ := Y.out.row.len
      rw [List.length_nil] at hvY
      subst hvY
      go_wp2_with fail
      refine (passI_yes OZ.out.row UR.out).mono ?_
      rintro e wv8 ⟨vZ, rfl, o9, b9⟩
      replace R := Lib.hid (R.out.grow b9)
      replace P := Lib.hid (P.out.grow b9)
      replace OX := Lib.hid (OX.out.grow b9)
      replace OZ := Lib.hid (OZ.out.grow b9)
      replace Y := Lib.hid (Y.out.grow b9)
      replace BB := Lib.hid (BB.out.trans (b9.mono BB.out.size))
      clear b9
      have Z := Lib.hid o9
      clear o9
      go_wp2_with fail
      go_loopg [17] 0 (fun k x wr => ∃ j : Nat, x = .int .i64 j ∧ j + k = 0 ∧ wv8 = wr)
      case atStart => exact ⟨0, rfl, rfl, rfl⟩
      case round =>
        obtain ⟨j, rfl, hk, rfl⟩ := hrel
        obtain rfl : j = 0 := by omega
        clear hk
        go_wp2_with fail
        go_ret
        exact ⟨by first | rfl | (simp; done) | (simp; omega), BB.out⟩
    · have HR2 := Lib.hid hr2
      clear hr2
      go_wp2_with fail
      refine (passI_yes OX.out.row HR2.out).mono ?_
      rintro e wv7 ⟨vY, rfl, o9, b9⟩
      replace R := Lib.hid (R.out.grow b9)
      replace P := Lib.hid (P.out.grow b9)
      replace OX := Lib.hid (OX.out.grow b9)
      replace OZ := Lib.hid (OZ.out.grow b9)
      replace BB := Lib.hid (BB.out.trans (b9.mono BB.out.size))
      clear b9
      have Y := Lib.hid o9
      clear o9
      have LY : Hid ((pass (bump l i)).length = n) := Lib.hid (by rw [pass_length, LB.out])
      obtain ⟨gY, pY, cY, rfl, kY, mY⟩ := known_n Y.out.row LY.out (by omega)
      go_wp2_with fail
      refine (passI_yes OZ.out.row UR.out).mono ?_
      rintro e wv8 ⟨vZ, rfl, o9, b9⟩
      replace R := Lib.hid (R.out.grow b9)
      replace P := Lib.hid (P.out.grow b9)
      replace OX := Lib.hid (OX.out.grow b9)
      replace OZ := Lib.hid (OZ.out.grow b9)
      replace Y := Lib.hid (Y.out.grow b9)
      replace BB := Lib.hid (BB.out.trans (b9.mono BB.out.size))
      clear b9
      have Z := Lib.hid o9
      clear o9
      obtain ⟨gZ, pZ, cZ, rfl, kZ, mZ⟩ := known_n Z.out.row LV.out (by omega)
      go_wp2_with fail
      go_loopg [17] n (fun k x wr => ∃ j : Nat, x = .int .i64 j ∧ j + k = n ∧ Below wv8.heap.size wv8 wr)
      case atStart => exact ⟨0, rfl, by omega, Below.refl _ _⟩
      case round =>
        obtain ⟨wv9, rfl⟩ : ∃ x, x = wr := ⟨wr, rfl⟩
        obtain ⟨j, rfl, hk, hb⟩ := hrel
        have K := Lib.hid hk; have B := Lib.hid hb
        have hjn : j ≤ n := by omega
        clear hk hb
        replace R := Lib.hid (R.out.grow B.out)
        replace P := Lib.hid (P.out.grow B.out)
        replace OX := Lib.hid (OX.out.grow B.out)
        replace OZ := Lib.hid (OZ.out.grow B.out)
        replace Y := Lib.hid (Y.out.grow B.out)
        replace Z := Lib.hid (Z.out.grow B.out)
        replace BB := Lib.hid (BB.out.trans (B.out.mono BB.out.size))
        by_cases hlt : j < n
        · have i1 : (j : Int) < (n : Int) := by omega
          have i2 : (0 : Int) ≤ (j : Int) := by omega
          have cy := Y.out.row.cells j (by rw [LY.out]; exact hlt)
          have cz := Z.out.row.cells j (by rw [LV.out]; exact hlt)
          have cq := P.out.row.cells j (by rw [HP.out]; exact hlt)
          have pe := pass_bump hil (show j < l.length by rw [HN.out]; exact hlt)
          simp only [HN.out] at pe
          have qb := SP.out _ (List.getElem_mem (show j < (pass l).length by rw [HP.out]; exact hlt))
          have rb := pass_small HR2.out _ (List.getElem_mem (show j < (pass (bump l i)).length by rw [LY.out]; exact hlt))
          obtain ⟨q, hq⟩ : ∃ x : Int, (pass l)[j]'(by rw [HP.out]; exact hlt) = x := ⟨_, rfl⟩
          obtain ⟨r, hr⟩ : ∃ x : Int, (pass (bump l i))[j]'(by rw [LY.out]; exact hlt) = x := ⟨_, rfl⟩
          obtain ⟨s, hs⟩ : ∃ x : Int, (pass (unit n i))[j]'(by rw [LV.out]; exact hlt) = x := ⟨_, rfl⟩
          rw [hq] at cq pe qb
          rw [hr] at cy pe rb
          rw [hs] at cz pe
          clear hq hr hs
          rw [pe] at cy rb
          clear pe
          have z9 : IntKind.i64.wrap (q + s) = q + s := IntWalk.i64_in _ (by omega)
          have t1 : ((q + s) != (q + s)) = false := by simp
          have t2 : ((n : Int) != (n : Int)) = false := by simp
          go_wp2_with fail
          go_quiet (fail)
          go_wp2_with fail
          go_roundg (gk - 1)
          case measure => have := K.out; omega
          case rel => exact ⟨j + 1, by go_num, by have := K.out; omega, below_drews B.out _⟩
        · have hj : j = n := by omega
          have nlt : ¬ (j : Int) < (n : Int) := by omega
          clear hlt
          go_wp2_with fail
          go_ret
          exact ⟨by first | rfl | (simp; done) | (simp; omega), BB.out⟩

set_option maxRecDepth 100000 in
theorem lifted (os : Os) (started : os.Started) (H : Type) (enc : TypeId × Value → H) :
    ReturnsInHanded {} Try.checked os 5 .any (Rows.fnPassAddSpec.pre6 enc Try.prog Try.f5 Rows.fnPassAddRow.domain false) (Rows.fnPassAddSpec.post enc Try.prog Try.f5 false true false false) := by
  refine returnsInHanded_of_change (C := Try.checked) own started (by kernel_rfl) Try.func5
    (ChangeSpec.witness6 (enc := enc) (C := Try.checked) false ⟨#[], #[.slice none 0 0, .slice none 0 0], []⟩ 8 (by kernel_rfl) (by kernel_rfl) (by kernel_rfl) (by kernel_rfl)) ?_
  intro W base args ds gs before hval0 hW hcnd _
  have hval : ∀ (j : Nat) t v, Try.f5.params[j]? = some t → args[j]? = some v → Value.okWide Try.prog W .any base t v := hval0
  have hW' := hW
  obtain ⟨p, q, hA0, hV, rfl, hfz, hnd⟩ := hW
  have hA : DataW.TrodAll enc Try.prog W 0 (fun _ => true) true Try.f5.params.toList args.toList ds p := hA0
  rw [Try.params5] at hA hval
  obtain ⟨v0, vs0, d0, ds0, p0, q0, hargs, rfl, rfl, h0, r0⟩ := trodAll_cons hA
  obtain ⟨v1, vs1, d1, ds1, p1, q1, rfl, rfl, rfl, h1, r1⟩ := trodAll_cons r0
  obtain ⟨rfl, rfl, rfl⟩ := trodAll_nil r1
  obtain rfl : args = #[v0, v1] := by cases args; simp_all
  obtain ⟨rfl, rfl⟩ := trodVars_none hV
  obtain ⟨a0, len0, cap0, rfl⟩ := okWide_slice Try.underlying22 (hval 0 22 v0 rfl rfl)
  have k0 := h0
  have lt0 : ∀ x ∈ p0, x.block < W.heap.size := by obtain ⟨m, hm⟩ := k0; exact DataW.trod_lt m _ _ _ hm
  obtain ⟨z0, w0⟩ : ∃ zs, IsRow .u8 W a0 len0 cap0 zs := by
    obtain ⟨fuel, hf⟩ := h0
    rcases open_ints Try.underlying22 Try.underlying5 (by kernel_rfl) hf with ⟨hcs, _⟩ | ⟨x, l, c, zs, hcs, _, hl, hm, hz, _, hcell, hwz⟩
    · simp [Value.cells] at hcs
      obtain ⟨rfl, rfl, rfl⟩ := hcs
      exact ⟨[], .inl ⟨rfl, rfl, rfl, rfl⟩⟩
    · simp [Value.cells] at hcs
      obtain ⟨rfl, rfl, rfl⟩ := hcs
      exact ⟨zs, .inr ⟨_, rfl, hl, hm, by simpa using hz, hcell, hwz⟩⟩
  obtain ⟨a1, len1, cap1, rfl⟩ := okWide_slice Try.underlying22 (hval 1 22 v1 rfl rfl)
  have k1 := h1
  have lt1 : ∀ x ∈ p1, x.block < W.heap.size := by obtain ⟨m, hm⟩ := k1; exact DataW.trod_lt m _ _ _ hm
  obtain ⟨z1, w1⟩ : ∃ zs, IsRow .u8 W a1 len1 cap1 zs := by
    obtain ⟨fuel, hf⟩ := h1
    rcases open_ints Try.underlying22 Try.underlying5 (by kernel_rfl) hf with ⟨hcs, _⟩ | ⟨x, l, c, zs, hcs, _, hl, hm, hz, _, hcell, hwz⟩
    · simp [Value.cells] at hcs
      obtain ⟨rfl, rfl, rfl⟩ := hcs
      exact ⟨[], .inl ⟨rfl, rfl, rfl, rfl⟩⟩
    · simp [Value.cells] at hcs
      obtain ⟨rfl, rfl, rfl⟩ := hcs
      exact ⟨zs, .inr ⟨_, rfl, hl, hm, by simpa using hz, hcell, hwz⟩⟩
  clear hA0 hval0
  refine (walk a0 len0 cap0 z0 a1 len1 cap1 z1 W w0 w1).mono fun e W' ⟨he, bel⟩ => ?_
  subst he
  exact ⟨_, rfl, _, _, _, [], _, [], hW', trodAll_mk1 (shut_bool Try.underlying4 _), (trodAll_cons_mk (Below.trod laidOut (by kernel_rfl) (of_decide_eq_true (by kernel_rfl)) k0 bel lt0) (trodAll_cons_mk (Below.trod laidOut (by kernel_rfl) (of_decide_eq_true (by kernel_rfl)) k1 bel lt1) trodAll_mk0)), rfl, bel.frame _, fun h => by cases h⟩

theorem over : Rows.fnPassAddRow.holds Try.pinned (OpenSpec.ofChange Rows.fnPassAddSpec) :=
  OpenClaim.holds_of_wide 5 Try.f5 rfl rfl rfl rfl rfl rfl rfl ⟨rfl, rfl, rfl, rfl, rfl⟩ rfl rfl rfl rfl rfl (by kernel_rfl) Try.func5 (by kernel_rfl)
    (of_decide_eq_true (by kernel_rfl)) (by unfold Func.isWrapper; first | (rw [if_pos (by decide +kernel)]; kernel_rfl) | (rw [if_neg (by decide +kernel)]; exact ⟨rfl, rfl⟩))
    (fun os started H enc _ => lifted os started H enc)

/-- ████ THE STATEMENT ████ -/
theorem proved : Rows.FnPassAddSaid := over
#print axioms proved
end Go.Proofs.Ytdnalkppligodaa.fnPassAdd
