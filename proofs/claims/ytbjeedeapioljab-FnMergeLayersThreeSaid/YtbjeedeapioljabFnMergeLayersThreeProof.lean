/- For every input, the law FnMergeLayersThree of the given statements returns true over the program at this commit, and its arguments read afterwards as before: no condition. -/
import Derived.Test.YtbjeedeapioljabRows
import Derived.Test.YtbjeedeapioljabLawL2
import Derived.WalkKit
import Derived.ProofKit
import Derived.OpenShut
import Derived.ShutString
import Derived.ChangeOld
import Derived.Below
namespace Go.Proofs.Ytbjeedeapioljab.fnMergeLayersThree
open Go.ChangeShapes Go.WideShapes Go.ChangeAt Go.RowKit
open Go.ChangeMaps (open_string shut_string)
set_option linter.unusedVariables false

theorem own : ownKnob Try.prog.godebug = none := by kernel_rfl
theorem laidOut : laidOutB Try.prog = true := by kernel_rfl

/-- WHAT THE WALK IS TOLD OF A SLICE OF INTEGERS THAT CAME IN: it is nil; or it leads to a row of 'cap' cells, the numbers 'zs' (the first 'len' are its elements, the rest its spare room), each fitting its kind. -/
def IsRow (k : IntKind) (w : World) (a : Option Addr) (len cap : Nat) (zs : List Int) : Prop :=
  (a = none ∧ len = 0 ∧ cap = 0 ∧ zs = []) ∨
  ∃ x, a = some x ∧ len ≤ cap ∧ cap ≤ maxLen ∧ zs.length = cap ∧ (∀ i, i < zs.length → w.cell? (x.add i) = some (.int k (zs.getD i 0))) ∧ ∀ n ∈ zs, (Lit.int k n).wf = true

set_option maxRecDepth 100000 in
set_option maxHeartbeats 3200000 in
theorem walk (a0 : Option Addr) (len0 cap0 : Nat) (z0 : List Int) (w : World) (w0 : IsRow .u8 w a0 len0 cap0 z0) :
    Calls Try.prog 7 #[.slice a0 len0 cap0] w fun e w' => e = .returned (.bool true) ∧ Below w.heap.size w w' := by
  have hB := bytes_of w0
  by_cases hl : 1048576 < len0
  · have hdec : decide (1048576 < len0) = true := by simpa using hl
    go_enter Try.func7, Try.ntmps7
    go_wp2_with fail
    go_ret
    exact ⟨rfl, Below.refl _ _⟩
  have hdec : decide (1048576 < len0) = false := by simpa using hl
  have hm : len0 ≤ 1048576 := by omega
  go_enter Try.func7, Try.ntmps7
  go_wp2_with fail
  refine (DrawLayersMerge_any hB).mono ?_
  rintro e wv1 ⟨v, z, l, m, rfl, r0, s0, b1⟩
  clear w0 hB
  have BB := Lib.hid b1
  clear b1
  have R := Lib.hid r0
  clear r0
  have S := Lib.hid s0
  clear s0
  cases ho : mgOf l m with
  | none =>
    have HO := Lib.hid ho
    clear ho
    go_wp2_with fail
    refine (mgI_no R.out S.out HO.out).mono ?_
    rintro e wv2 ⟨vX, rfl, o9, b9⟩
    replace R := Lib.hid (R.out.grow b9)
    replace S := Lib.hid (S.out.grow b9)
    replace BB := Lib.hid (BB.out.trans (b9.mono BB.out.size))
    clear b9
    have X := Lib.hid o9
    clear o9
    go_wp2_with fail
    refine (mgS_no R.out S.out HO.out).mono ?_
    rintro e wv3 ⟨vY, rfl, o9, b9⟩
    replace R := Lib.hid (R.out.grow b9)
    replace S := Lib.hid (S.out.grow b9)
    replace X := Lib.hid (X.out.grow b9)
    replace BB := Lib.hid (BB.out.trans (b9.mono BB.out.size))
    clear b9
    have Y := Lib.hid o9
    clear o9
    go_wp2_with fail
    refine (lsame_yes X.out.row Y.out.row rfl).mono ?_
    rintro e wv4 ⟨rfl, b9⟩
    replace R := Lib.hid (R.out.grow b9)
    replace S := Lib.hid (S.out.grow b9)
    replace X := Lib.hid (X.out.grow b9)
    replace Y := Lib.hid (Y.out.grow b9)
    replace BB := Lib.hid (BB.out.trans (b9.mono BB.out.size))
    clear b9
    go_wp2_with fail
    refine (lsame_yes X.out.row Y.out.row rfl).mono ?_
    rintro e wv5 ⟨rfl, b9⟩
    replace R := Lib.hid (R.out.grow b9)
    replace S := Lib.hid (S.out.grow b9)
    replace X := Lib.hid (X.out.grow b9)
    replace Y := Lib.hid (Y.out.grow b9)
    replace BB := Lib.hid (BB.out.trans (b9.mono BB.out.size))
    clear b9
    go_wp2_with fail
    go_ret
    exact ⟨by first | rfl | (simp; done) | (simp; omega), BB.out⟩
  | some o =>
    obtain ⟨hl1, hl2, hl3, he⟩ := mg_is ho
    have HO := Lib.hid ho; have HL := Lib.hid hl1; have HM := Lib.hid hl2; have HV := Lib.hid hl3; have HE := Lib.hid he
    have l40 := lay_len hl1
    have UL := Lib.hid (isLay_iff.1 hl1).2.1; have UM := Lib.hid (isLay_iff.1 hl2).2.1
    clear ho hl1 hl2 hl3 he
    go_wp2_with fail
    refine (mgI_yes R.out S.out HO.out).mono ?_
    rintro e wv2 ⟨vO, rfl, o9, b9⟩
    replace R := Lib.hid (R.out.grow b9)
    replace S := Lib.hid (S.out.grow b9)
    replace BB := Lib.hid (BB.out.trans (b9.mono BB.out.size))
    clear b9
    have O := Lib.hid o9
    clear o9
    go_wp2_with fail
    refine (mgS_yes R.out S.out HO.out).mono ?_
    rintro e wv3 ⟨vY, rfl, o9, b9⟩
    replace R := Lib.hid (R.out.grow b9)
    replace S := Lib.hid (S.out.grow b9)
    replace O := Lib.hid (O.out.grow b9)
    replace BB := Lib.hid (BB.out.trans (b9.mono BB.out.size))
    clear b9
    have Y := Lib.hid o9
    clear o9
    go_wp2_with fail
    refine (lsame_yes O.out.row Y.out.row rfl).mono ?_
    rintro e wv4 ⟨rfl, b9⟩
    replace R := Lib.hid (R.out.grow b9)
    replace S := Lib.hid (S.out.grow b9)
    replace O := Lib.hid (O.out.grow b9)
    replace Y := Lib.hid (Y.out.grow b9)
    replace BB := Lib.hid (BB.out.trans (b9.mono BB.out.size))
    clear b9
    clear Y
    have hw := O.out
    have W := Lib.hid hw
    clear hw
    clear O
    obtain ⟨n, hn⟩ : ∃ n, l.length = n := ⟨_, rfl⟩
    rw [hn] at l40
    have HN := Lib.hid hn
    clear hn
    obtain ⟨aR, cR, rfl, kR, mR⟩ := lslice R.out HN.out
    have O9 := Lib.hid (lown_new (w := wv4) 37 (Nat.le_refl wv4.heap.size))
    have A9 := Lib.hid ((Below.refl wv4.heap.size wv4).alloc (Nat.le_refl _) (.cells #[] 37))
    go_wp2_with fail
    go_loopg [9, 10] n (fun k y x wr => ∃ j : Nat, x = .int .i64 j ∧ j + k = n ∧ LOwn 37 wr wv4.heap.size y (shf (l.take j)) ∧ Below wv4.heap.size wv4 wr)
    case atStart => exact ⟨0, rfl, by omega, O9.out, A9.out⟩
    case round =>
      obtain ⟨wv5, rfl⟩ : ∃ x, x = wr := ⟨wr, rfl⟩
      obtain ⟨j, rfl, hk, ho, hb⟩ := hrel
      have K := Lib.hid hk; have O := Lib.hid ho; have B := Lib.hid hb
      have hjn : j ≤ n := by omega
      have hz7 := hb.size
      clear hk ho hb O9 A9
      replace R := Lib.hid (R.out.grow B.out)
      replace S := Lib.hid (S.out.grow B.out)
      replace W := Lib.hid (W.out.grow B.out)
      replace BB := Lib.hid (BB.out.trans (B.out.mono BB.out.size))
      by_cases hlt : j < n
      · have i1 : (j : Int) < (n : Int) := by omega
        have i2 : (0 : Int) ≤ (j : Int) := by omega
        have hjl : j < l.length := by rw [HN.out]; exact hlt
        obtain ⟨g, o', rfl, x1, _⟩ := llies_cell (show LLies _ aR l by obtain ⟨a9, c9, e9, _, _, h9⟩ := R.out.parts; simp only [Value.slice.injEq] at e9; rw [e9.1]; exact h9) j hjl
        have tk := take_one l j hjl
        have din := lay_in HL.out _ (List.getElem_mem hjl)
        obtain ⟨q, hq⟩ : ∃ q, (l[j]'hjl).1 = q := ⟨_, rfl⟩
        rw [hq] at x1 din
        have z1 : IntKind.i64.wrap (q + 1) = q + 1 := IntWalk.i64_in _ (by omega)
        have n1 := new_two wv5 (.int .i64 (q + 1)) (.bool (false)) 37
        have N1 := Lib.hid n1
        have BW := Lib.hid ((Below.refl wv5.heap.size wv5).alloc (Nat.le_refl _) (.cells #[.int .i64 (q + 1), .bool (false)] 37))
        have ST : Hid (shf (l.take j) ++ [(q + 1, false)] = shf (l.take (j + 1))) := Lib.hid (by rw [tk]; simp only [shf, List.map_append, List.map_cons, List.map_nil, hq])
        clear n1
        go_wp2_with (at_builtin; refine lappend_lay layI rfl _ _ rfl (B := wv4.heap.size) _ _ rfl (O.out.grow BW.out) ⟨wv5.heap.size, 0, none⟩ (q + 1, false) rfl N1.out.1 N1.out.2 (by rw [shf_length]; simp; omega) (by simp; omega) ?_; intro v8 w8 hown8 hg8)
        rw [ST.out] at hown8
        have O8 := Lib.hid hown8
        have B8 := Lib.hid (B.out.trans ((BW.out.mono hz7).trans ((O.out.grow BW.out).below hg8 (by simp; omega))))
        clear hown8 hg8
        go_wp2_with fail
        go_roundg (gk - 1)
        case measure => have := K.out; omega
        case rel => exact ⟨j + 1, by go_num, by have := K.out; omega, O8.out, B8.out⟩
      · have hj : j = n := by omega
        have hd := O.out
        rw [hj] at hd
        clear hlt hz7
        have nlt : ¬ (j : Int) < (n : Int) := by omega
        have C := Lib.hid hd
        clear hd
        clear O
        replace C := Lib.hid (show LOwn _ _ _ _ (shf l) by have := C.out; rwa [List.take_of_length_le (by rw [HN.out]; exact Nat.le_refl _)] at this)
        cases hx : mgOf o (shf l) with
        | none =>
          have HXO := Lib.hid hx
          clear hx
          go_wp2_with fail
          refine (mgI_no W.out.row C.out.row HXO.out).mono ?_
          rintro e wv6 ⟨vX, rfl, o9, b9⟩
          replace R := Lib.hid (R.out.grow b9)
          replace S := Lib.hid (S.out.grow b9)
          replace W := Lib.hid (W.out.grow b9)
          replace C := Lib.hid (C.out.grow b9)
          replace BB := Lib.hid (BB.out.trans (b9.mono BB.out.size))
          clear b9
          have X := Lib.hid o9
          clear o9
          go_wp2_with fail
          refine (mgI_any S.out C.out.row).mono ?_
          rintro e wv7 ⟨vY, rfl, o9, b9⟩
          replace R := Lib.hid (R.out.grow b9)
          replace S := Lib.hid (S.out.grow b9)
          replace W := Lib.hid (W.out.grow b9)
          replace C := Lib.hid (C.out.grow b9)
          replace X := Lib.hid (X.out.grow b9)
          replace BB := Lib.hid (BB.out.trans (b9.mono BB.out.size))
          clear b9
          have Y := Lib.hid o9
          clear o9
          go_wp2_with fail
          refine (mgI_any R.out Y.out.row).mono ?_
          rintro e wv8 ⟨vZ, rfl, o9, b9⟩
          replace R := Lib.hid (R.out.grow b9)
          replace S := Lib.hid (S.out.grow b9)
          replace W := Lib.hid (W.out.grow b9)
          replace C := Lib.hid (C.out.grow b9)
          replace X := Lib.hid (X.out.grow b9)
          replace Y := Lib.hid (Y.out.grow b9)
          replace BB := Lib.hid (BB.out.trans (b9.mono BB.out.size))
          clear b9
          have Z := Lib.hid o9
          clear o9
          go_wp2_with fail
          go_ret
          exact ⟨by first | rfl | (simp; done) | (simp; omega), BB.out⟩
        | some x =>
          have HXO := Lib.hid hx
          obtain ⟨_, hc, hxl, hxe⟩ := mg_is hx
          clear hx
          go_wp2_with fail
          refine (mgI_yes W.out.row C.out.row HXO.out).mono ?_
          rintro e wv6 ⟨vX, rfl, o9, b9⟩
          replace R := Lib.hid (R.out.grow b9)
          replace S := Lib.hid (S.out.grow b9)
          replace W := Lib.hid (W.out.grow b9)
          replace C := Lib.hid (C.out.grow b9)
          replace BB := Lib.hid (BB.out.trans (b9.mono BB.out.size))
          clear b9
          have X := Lib.hid o9
          clear o9
          cases hy : mgOf m (shf l) with
          | none =>
            have HYO := Lib.hid hy
            clear hy
            go_wp2_with fail
            refine (mgI_no S.out C.out.row HYO.out).mono ?_
            rintro e wv7 ⟨vY, rfl, o9, b9⟩
            replace R := Lib.hid (R.out.grow b9)
            replace S := Lib.hid (S.out.grow b9)
            replace W := Lib.hid (W.out.grow b9)
            replace C := Lib.hid (C.out.grow b9)
            replace X := Lib.hid (X.out.grow b9)
            replace BB := Lib.hid (BB.out.trans (b9.mono BB.out.size))
            clear b9
            have Y := Lib.hid o9
            clear o9
            go_wp2_with fail
            refine (mgI_any R.out Y.out.row).mono ?_
            rintro e wv8 ⟨vZ, rfl, o9, b9⟩
            replace R := Lib.hid (R.out.grow b9)
            replace S := Lib.hid (S.out.grow b9)
            replace W := Lib.hid (W.out.grow b9)
            replace C := Lib.hid (C.out.grow b9)
            replace X := Lib.hid (X.out.grow b9)
            replace Y := Lib.hid (Y.out.grow b9)
            replace BB := Lib.hid (BB.out.trans (b9.mono BB.out.size))
            clear b9
            have Z := Lib.hid o9
            clear o9
            go_wp2_with fail
            go_ret
            exact ⟨by first | rfl | (simp; done) | (simp; omega), BB.out⟩
          | some y =>
            have HYO := Lib.hid hy
            obtain ⟨_, _, hyl, hye⟩ := mg_is hy
            have HZO := Lib.hid (mg_eq_of HL.out hyl hxl (by rw [hxe, hye, HE.out]; exact (mg_assoc UL.out UM.out (isLay_iff.1 hc).2.1).symm))
            clear hy hc hxl hxe hyl hye
            go_wp2_with fail
            refine (mgI_yes S.out C.out.row HYO.out).mono ?_
            rintro e wv7 ⟨vY, rfl, o9, b9⟩
            replace R := Lib.hid (R.out.grow b9)
            replace S := Lib.hid (S.out.grow b9)
            replace W := Lib.hid (W.out.grow b9)
            replace C := Lib.hid (C.out.grow b9)
            replace X := Lib.hid (X.out.grow b9)
            replace BB := Lib.hid (BB.out.trans (b9.mono BB.out.size))
            clear b9
            have Y := Lib.hid o9
            clear o9
            go_wp2_with fail
            refine (mgI_yes R.out Y.out.row HZO.out).mono ?_
            rintro e wv8 ⟨vZ, rfl, o9, b9⟩
            replace R := Lib.hid (R.out.grow b9)
            replace S := Lib.hid (S.out.grow b9)
            replace W := Lib.hid (W.out.grow b9)
            replace C := Lib.hid (C.out.grow b9)
            replace X := Lib.hid (X.out.grow b9)
            replace Y := Lib.hid (Y.out.grow b9)
            replace BB := Lib.hid (BB.out.trans (b9.mono BB.out.size))
            clear b9
            have Z := Lib.hid o9
            clear o9
            go_wp2_with fail
            refine (lsame_yes X.out.row Z.out.row rfl).mono ?_
            rintro e wv9 ⟨rfl, b9⟩
            replace R := Lib.hid (R.out.grow b9)
            replace S := Lib.hid (S.out.grow b9)
            replace W := Lib.hid (W.out.grow b9)
            replace C := Lib.hid (C.out.grow b9)
            replace X := Lib.hid (X.out.grow b9)
            replace Y := Lib.hid (Y.out.grow b9)
            replace Z := Lib.hid (Z.out.grow b9)
            replace BB := Lib.hid (BB.out.trans (b9.mono BB.out.size))
            clear b9
            go_wp2_with fail
            go_ret
            exact ⟨by first | rfl | (simp; done) | (simp; omega), BB.out⟩

set_option maxRecDepth 100000 in
theorem lifted (os : Os) (started : os.Started) (H : Type) (enc : TypeId × Value → H) :
    ReturnsInHanded {} Try.checked os 7 .any (Rows.fnMergeLayersThreeSpec.pre6 enc Try.prog Try.f7 Rows.fnMergeLayersThreeRow.domain false) (Rows.fnMergeLayersThreeSpec.post enc Try.prog Try.f7 false true false false) := by
  refine returnsInHanded_of_change (C := Try.checked) own started (by kernel_rfl) Try.func7
    (ChangeSpec.witness6 (enc := enc) (C := Try.checked) false ⟨#[], #[.slice none 0 0], []⟩ 8 (by kernel_rfl) (by kernel_rfl) (by kernel_rfl) (by kernel_rfl)) ?_
  intro W base args ds gs before hval0 hW hcnd _
  have hval : ∀ (j : Nat) t v, Try.f7.params[j]? = some t → args[j]? = some v → Value.okWide Try.prog W .any base t v := hval0
  have hW' := hW
  obtain ⟨p, q, hA0, hV, rfl, hfz, hnd⟩ := hW
  have hA : DataW.TrodAll enc Try.prog W 0 (fun _ => true) true Try.f7.params.toList args.toList ds p := hA0
  rw [Try.params7] at hA hval
  obtain ⟨v0, vs0, d0, ds0, p0, q0, hargs, rfl, rfl, h0, r0⟩ := trodAll_cons hA
  obtain ⟨rfl, rfl, rfl⟩ := trodAll_nil r0
  obtain rfl : args = #[v0] := by cases args; simp_all
  obtain ⟨rfl, rfl⟩ := trodVars_none hV
  obtain ⟨a0, len0, cap0, rfl⟩ := okWide_slice Try.underlying22 (hval 0 22 v0 rfl rfl)
  have k0 := h0
  have lt0 : ∀ x ∈ p0, x.block < W.heap.size := by obtain ⟨m, hm⟩ := k0; exact DataW.trod_lt m _ _ _ hm
  obtain ⟨z0, w0⟩ : ∃ zs, IsRow .u8 W a0 len0 cap0 zs := by
    obtain ⟨fuel, hf⟩ := h0
    rcases open_ints Try.underlying22 Try.underlying5 (by kernel_rfl) hf with ⟨hcs, _⟩ | ⟨x, l, c, zs, hcs, _, hl, hm, hz, _, hcell, hwz⟩
    · simp [Value.cells] at hcs
      obtain ⟨rfl, rfl, rfl⟩ := hcs
      exact ⟨[], .inl ⟨rfl, rfl, rfl, rfl⟩⟩
    · simp [Value.cells] at hcs
      obtain ⟨rfl, rfl, rfl⟩ := hcs
      exact ⟨zs, .inr ⟨_, rfl, hl, hm, by simpa using hz, hcell, hwz⟩⟩
  clear hA0 hval0
  refine (walk a0 len0 cap0 z0 W w0).mono fun e W' ⟨he, bel⟩ => ?_
  subst he
  exact ⟨_, rfl, _, _, _, [], _, [], hW', trodAll_mk1 (shut_bool Try.underlying4 _), (trodAll_cons_mk (Below.trod laidOut (by kernel_rfl) (of_decide_eq_true (by kernel_rfl)) k0 bel lt0) trodAll_mk0), rfl, bel.frame _, fun h => by cases h⟩

theorem over : Rows.fnMergeLayersThreeRow.holds Try.pinned (OpenSpec.ofChange Rows.fnMergeLayersThreeSpec) :=
  OpenClaim.holds_of_wide 7 Try.f7 rfl rfl rfl rfl rfl rfl rfl ⟨rfl, rfl, rfl, rfl, rfl⟩ rfl rfl rfl rfl rfl (by kernel_rfl) Try.func7 (by kernel_rfl)
    (of_decide_eq_true (by kernel_rfl)) (by unfold Func.isWrapper; first | (rw [if_pos (by decide +kernel)]; kernel_rfl) | (rw [if_neg (by decide +kernel)]; exact ⟨rfl, rfl⟩))
    (fun os started H enc _ => lifted os started H enc)

/-- ████ THE STATEMENT ████ -/
theorem proved : Rows.FnMergeLayersThreeSaid := over
#print axioms proved
end Go.Proofs.Ytbjeedeapioljab.fnMergeLayersThree
