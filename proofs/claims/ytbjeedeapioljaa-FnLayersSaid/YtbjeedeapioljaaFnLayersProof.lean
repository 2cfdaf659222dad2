/- For every input, the law FnLayers of the given statements returns true over the program at this commit, and its arguments read afterwards as before: no condition. -/
import Derived.Test.YtbjeedeapioljaaRows
import Derived.Test.YtbjeedeapioljaaLawL
import Derived.WalkKit
import Derived.ProofKit
import Derived.OpenShut
import Derived.ShutString
import Derived.ChangeOld
import Derived.Below
namespace Go.Proofs.Ytbjeedeapioljaa.fnLayers
open Go.ChangeShapes Go.WideShapes Go.ChangeAt Go.RowKit
open Go.ChangeMaps (open_string shut_string)
set_option linter.unusedVariables false

theorem own : ownKnob Try.prog.godebug = none := by kernel_rfl
theorem laidOut : laidOutB Try.prog = true := by kernel_rfl

/-- WHAT THE WALK IS TOLD OF A SLICE OF INTEGERS THAT CAME IN: it is nil; or it leads to a row of 'cap' cells, the numbers 'zs' (the first 'len' are its elements, the rest its spare room), each fitting its kind. -/
def IsRow (k : IntKind) (w : World) (a : Option Addr) (len cap : Nat) (zs : List Int) : Prop :=
  (a = none ∧ len = 0 ∧ cap = 0 ∧ zs = []) ∨
  ∃ x, a = some x ∧ len ≤ cap ∧ cap ≤ maxLen ∧ zs.length = cap ∧ (∀ i, i < zs.length → w.cell? (x.add i) = some (.int k (zs.getD i 0))) ∧ ∀ n ∈ zs, (Lit.int k n).wf = true

set_option maxRecDepth 100000 in
set_option maxHeartbeats 3200000 in
theorem walk (a0 : Option Addr) (len0 cap0 : Nat) (z0 : List Int) (a1 : Option Addr) (len1 cap1 : Nat) (z1 : List Int) (w : World) (w0 : IsRow .u8 w a0 len0 cap0 z0) (w1 : IsRow .u8 w a1 len1 cap1 z1) :
    Calls Try.prog 3 #[.slice a0 len0 cap0, .slice a1 len1 cap1] w fun e w' => e = .returned (.bool true) ∧ Below w.heap.size w w' := by
  have hB := bytes_of w0
  have hB1 := bytes_len (bytes_of w1)
  unfold maxLen at hB1
  by_cases hl : 1048576 < len0
  · have hdec : decide (1048576 < len0) = true := by simpa using hl
    go_enter Try.func3, Try.ntmps3
    go_wp2_with fail
    go_ret
    exact ⟨rfl, Below.refl _ _⟩
  have hdec : decide (1048576 < len0) = false := by simpa using hl
  by_cases hl1 : 1048576 < len1
  · go_enter Try.func3, Try.ntmps3
    go_wp2_with fail
    go_ret
    exact ⟨rfl, Below.refl _ _⟩
  have hm : len0 ≤ 1048576 := by omega
  have hm1 : len1 ≤ 1048576 := by omega
  clear hB1
  go_enter Try.func3, Try.ntmps3
  go_wp2_with fail
  refine (DrawLayersValid_any hB).mono ?_
  rintro e wv1 ⟨v, l, rfl, r0, b1⟩
  clear w0 w1 hB
  have BB := Lib.hid b1
  clear b1
  have R := Lib.hid r0
  clear r0
  cases hr : isLay l
  · have HR := Lib.hid hr
    clear hr
    go_wp2_with fail
    refine (implValid_is R.out.row HR.out).mono ?_
    rintro e wv2 ⟨rfl, b9⟩
    replace R := Lib.hid (R.out.grow b9)
    replace BB := Lib.hid (BB.out.trans (b9.mono BB.out.size))
    clear b9
    go_wp2_with fail
    refine (specValid_is R.out.row HR.out).mono ?_
    rintro e wv3 ⟨rfl, b9⟩
    replace R := Lib.hid (R.out.grow b9)
    replace BB := Lib.hid (BB.out.trans (b9.mono BB.out.size))
    clear b9
    go_wp2_with fail
    go_ret
    exact ⟨by first | rfl | (simp; done) | (simp; omega), BB.out⟩
  · have HR := Lib.hid hr
    have l40 := lay_len hr
    have S1 := Lib.hid (setS_lay true hr); have S0 := Lib.hid (setS_lay false hr)
    clear hr
    go_wp2_with fail
    refine (implValid_is R.out.row HR.out).mono ?_
    rintro e wv2 ⟨rfl, b9⟩
    replace R := Lib.hid (R.out.grow b9)
    replace BB := Lib.hid (BB.out.trans (b9.mono BB.out.size))
    clear b9
    go_wp2_with fail
    refine (specValid_is R.out.row HR.out).mono ?_
    rintro e wv3 ⟨rfl, b9⟩
    replace R := Lib.hid (R.out.grow b9)
    replace BB := Lib.hid (BB.out.trans (b9.mono BB.out.size))
    clear b9
    obtain ⟨n, hn⟩ : ∃ n, l.length = n := ⟨_, rfl⟩
    rw [hn] at l40
    have HN := Lib.hid hn
    clear hn
    obtain ⟨q, hq⟩ : ∃ q : Int, (len1 : Int).tmod ((n : Int) + 1) = q := ⟨_, rfl⟩
    have hq0 : 0 ≤ q := by rw [← hq]; exact Int.tmod_nonneg _ (by omega)
    have hq1 : q < (n : Int) + 1 := by rw [← hq]; exact Int.tmod_lt_of_pos _ (by omega)
    have hqe : (len1 : Int) % ((n : Int) + 1) = q := by rw [← hq, Int.tmod_eq_emod_of_nonneg (by omega)]
    obtain ⟨j, rfl⟩ : ∃ j : Nat, q = j := ⟨q.toNat, by omega⟩
    have z1 : IntKind.i64.wrap (j : Int) = (j : Int) := IntWalk.i64_in _ (by omega)
    have z2 : IntKind.i64.wrap ((n : Int) + 1) = (n : Int) + 1 := IntWalk.i64_in _ (by omega)
    have zz : ¬ ((n : Int) + 1 = 0) := by omega
    have hjn : j ≤ n := by omega
    have HJ := Lib.hid (lay_take j HR.out)
    clear hq
    by_cases n0 : n = 0
    · subst n0
      obtain rfl : j = 0 := by omega
      have L0 : l = [] := List.eq_nil_of_length_eq_zero HN.out
      subst L0
      have OE := Lib.hid (lown_new (w := wv3) 27 (Nat.le_refl wv3.heap.size))
      have BE := Lib.hid ((Below.refl wv3.heap.size wv3).alloc (Nat.le_refl _) (.cells #[] 27))
      rcases R.out.none_or with rfl | ⟨g, c, rfl, hc⟩
      · skip
        go_wp2_with (at_builtin; refine lappend_none layI rfl _ _ rfl (B := wv3.heap.size) _ [] rfl OE.out rfl ?_)
        have b9 := BE.out
        have oe := OE.out
        replace R := Lib.hid (R.out.grow b9)
        replace BB := Lib.hid (BB.out.trans (b9.mono BB.out.size))
        clear b9
        have Y := Lib.hid oe
        clear oe
        refine (implValid_is (lrow_none _) lay_nil).mono ?_
        rintro e wv4 ⟨rfl, b9⟩
        replace R := Lib.hid (R.out.grow b9)
        replace Y := Lib.hid (Y.out.grow b9)
        replace BB := Lib.hid (BB.out.trans (b9.mono BB.out.size))
        clear b9
        go_wp2_with fail
        refine (allSure_any true R.out.row (by rw [HN.out]; omega)).mono ?_
        rintro e wv5 ⟨vA, rfl, o9, b9⟩
        replace R := Lib.hid (R.out.grow b9)
        replace Y := Lib.hid (Y.out.grow b9)
        replace BB := Lib.hid (BB.out.trans (b9.mono BB.out.size))
        clear b9
        have A := Lib.hid o9
        clear o9
        go_wp2_with fail
        refine (implValid_is A.out.row S1.out).mono ?_
        rintro e wv6 ⟨rfl, b9⟩
        replace R := Lib.hid (R.out.grow b9)
        replace Y := Lib.hid (Y.out.grow b9)
        replace A := Lib.hid (A.out.grow b9)
        replace BB := Lib.hid (BB.out.trans (b9.mono BB.out.size))
        clear b9
        go_wp2_with fail
        refine (allSure_any false R.out.row (by rw [HN.out]; omega)).mono ?_
        rintro e wv7 ⟨vB, rfl, o9, b9⟩
        replace R := Lib.hid (R.out.grow b9)
        replace Y := Lib.hid (Y.out.grow b9)
        replace A := Lib.hid (A.out.grow b9)
        replace BB := Lib.hid (BB.out.trans (b9.mono BB.out.size))
        clear b9
        have B := Lib.hid o9
        clear o9
        go_wp2_with fail
        refine (implValid_is B.out.row S0.out).mono ?_
        rintro e wv8 ⟨rfl, b9⟩
        replace R := Lib.hid (R.out.grow b9)
        replace Y := Lib.hid (Y.out.grow b9)
        replace A := Lib.hid (A.out.grow b9)
        replace B := Lib.hid (B.out.grow b9)
        replace BB := Lib.hid (BB.out.trans (b9.mono BB.out.size))
        clear b9
        go_wp2_with fail
        refine (implValid_is Y.out.row lay_nil).mono ?_
        rintro e wv9 ⟨rfl, b9⟩
        replace R := Lib.hid (R.out.grow b9)
        replace Y := Lib.hid (Y.out.grow b9)
        replace A := Lib.hid (A.out.grow b9)
        replace B := Lib.hid (B.out.grow b9)
        replace BB := Lib.hid (BB.out.trans (b9.mono BB.out.size))
        clear b9
        go_wp2_with fail
        go_ret
        exact ⟨by first | rfl | (simp; done) | (simp; omega), BB.out⟩
      · skip
        unfold maxLen at hc
        go_wp2_with (at_builtin; refine lappend_list layI rfl _ _ rfl (B := wv3.heap.size) _ [] rfl OE.out ⟨g, 0, none⟩ 0 c [] rfl rfl (fun j u hu => by simp [cellsL] at hu) (by simp) (by simp) ?_; intro v5 w5 hown5 hg5)
        have b9 : Below wv3.heap.size wv3 w5 := Below.grown BE.out hg5 BE.out.size (fun k hk => Nat.le_of_eq (Option.some.inj hk))
        have oe : LOwn 27 w5 wv3.heap.size v5 [] := hown5
        clear hg5 hown5
        replace R := Lib.hid (R.out.grow b9)
        replace BB := Lib.hid (BB.out.trans (b9.mono BB.out.size))
        clear b9
        have Y := Lib.hid oe
        clear oe
        refine (implValid_is (lrow_empty (some ⟨g, 0, none⟩) (show c ≤ maxLen by unfold maxLen; omega)) lay_nil).mono ?_
        rintro e wv4 ⟨rfl, b9⟩
        replace R := Lib.hid (R.out.grow b9)
        replace Y := Lib.hid (Y.out.grow b9)
        replace BB := Lib.hid (BB.out.trans (b9.mono BB.out.size))
        clear b9
        go_wp2_with fail
        refine (allSure_any true R.out.row (by rw [HN.out]; omega)).mono ?_
        rintro e wv5 ⟨vA, rfl, o9, b9⟩
        replace R := Lib.hid (R.out.grow b9)
        replace Y := Lib.hid (Y.out.grow b9)
        replace BB := Lib.hid (BB.out.trans (b9.mono BB.out.size))
        clear b9
        have A := Lib.hid o9
        clear o9
        go_wp2_with fail
        refine (implValid_is A.out.row S1.out).mono ?_
        rintro e wv6 ⟨rfl, b9⟩
        replace R := Lib.hid (R.out.grow b9)
        replace Y := Lib.hid (Y.out.grow b9)
        replace A := Lib.hid (A.out.grow b9)
        replace BB := Lib.hid (BB.out.trans (b9.mono BB.out.size))
        clear b9
        go_wp2_with fail
        refine (allSure_any false R.out.row (by rw [HN.out]; omega)).mono ?_
        rintro e wv7 ⟨vB, rfl, o9, b9⟩
        replace R := Lib.hid (R.out.grow b9)
        replace Y := Lib.hid (Y.out.grow b9)
        replace A := Lib.hid (A.out.grow b9)
        replace BB := Lib.hid (BB.out.trans (b9.mono BB.out.size))
        clear b9
        have B := Lib.hid o9
        clear o9
        go_wp2_with fail
        refine (implValid_is B.out.row S0.out).mono ?_
        rintro e wv8 ⟨rfl, b9⟩
        replace R := Lib.hid (R.out.grow b9)
        replace Y := Lib.hid (Y.out.grow b9)
        replace A := Lib.hid (A.out.grow b9)
        replace B := Lib.hid (B.out.grow b9)
        replace BB := Lib.hid (BB.out.trans (b9.mono BB.out.size))
        clear b9
        go_wp2_with fail
        refine (implValid_is Y.out.row lay_nil).mono ?_
        rintro e wv9 ⟨rfl, b9⟩
        replace R := Lib.hid (R.out.grow b9)
        replace Y := Lib.hid (Y.out.grow b9)
        replace A := Lib.hid (A.out.grow b9)
        replace B := Lib.hid (B.out.grow b9)
        replace BB := Lib.hid (BB.out.trans (b9.mono BB.out.size))
        clear b9
        go_wp2_with fail
        go_ret
        exact ⟨by first | rfl | (simp; done) | (simp; omega), BB.out⟩
    · obtain ⟨g, p, c, rfl, kc, mc⟩ := lknown R.out.row HN.out (by omega)
      obtain ⟨i, rfl⟩ : ∃ i, n = i + 1 := ⟨n - 1, by omega⟩
      have hil : i < l.length := by have := HN.out; omega
      have OE := Lib.hid (lown_new (w := wv3) 27 (Nat.le_refl wv3.heap.size))
      have BE := Lib.hid ((Below.refl wv3.heap.size wv3).alloc (Nat.le_refl _) (.cells #[] 27))
      have TW : Hid (isLay (l ++ [l[i]]) = false) := Lib.hid (by
        have e : l.length - 1 = i := by have := HN.out; omega
        have := lay_twice (l := l) (by omega)
        simpa [e] using this)
      have s1 : IntKind.i64.wrap (((i + 1 : Nat) : Int) - 1) = (i : Int) := by rw [show ((i + 1 : Nat) : Int) - 1 = i by omega]; exact IntWalk.i64_in _ (by omega)
      have s2 : IntKind.i64.wrap ((i : Int) + 1 - 1) = (i : Int) := by rw [show (i : Int) + 1 - 1 = i by omega]; exact IntWalk.i64_in _ (by omega)
      have s3 : IntKind.i64.wrap (i : Int) = (i : Int) := IntWalk.i64_in _ (by omega)
      have i0 : (0 : Int) ≤ (i : Int) := by omega
      have i1 : (i : Int) < ((i + 1 : Nat) : Int) := by omega
      have i2 : (0 : Int) < ((i + 1 : Nat) : Int) := by omega
      have i3 : (j : Int) ≤ (c : Int) := by omega
      have i4 : (0 : Int) ≤ (j : Int) := by omega
      have i5 : (i : Int) < (i : Int) + 1 := by omega
      have i6 : (0 : Int) < (i : Int) + 1 := by omega
      have i7 : (((i : Int) + 1) == 0) = false := by simp; omega
      have hqe2 : (len1 : Int) % ((i : Int) + 1 + 1) = (j : Int) := by rw [show (i : Int) + 1 + 1 = ((i + 1 : Nat) : Int) + 1 by omega]; exact hqe
      have z22 : IntKind.i64.wrap ((i : Int) + 1 + 1) = (i : Int) + 1 + 1 := IntWalk.i64_in _ (by omega)
      have z23 : ¬ ((i : Int) + 1 + 1 = 0) := by omega
      clear hqe z2 zz
      go_wp2_with (at_builtin; first | (refine lappend_list layI rfl _ _ rfl (B := wv3.heap.size) _ [] rfl OE.out ⟨g, p, none⟩ (i + 1) c l rfl HN.out (llies_news (fun i hi => (R.out.row.grow BE.out).cells i hi)) (by simp; omega) (by simp) ?_; intro v5 w5 hown5 hg5; have B5 : Hid (Below wv3.heap.size wv3 w5) := Lib.hid (Below.grown BE.out hg5 BE.out.size (fun k hk => Nat.le_of_eq (Option.some.inj hk))); have O5 : Hid (LOwn 27 w5 wv3.heap.size v5 l) := Lib.hid hown5; have e1 := ((R.out.row.grow B5.out).cells i hil).1; have e2 := ((R.out.row.grow B5.out).cells i hil).2; have N1 := Lib.hid (new_two w5 (.int .i64 l[i].1) (.bool l[i].2) 27); have BW := Lib.hid ((Below.refl w5.heap.size w5).alloc (Nat.le_refl _) (.cells #[.int .i64 l[i].1, .bool l[i].2] 27)); have z5 := B5.out.size; clear hown5 hg5) | (refine lappend_lay layI rfl _ _ rfl (B := wv3.heap.size) _ _ rfl (O5.out.grow BW.out) ⟨w5.heap.size, 0, none⟩ l[i] rfl N1.out.1 N1.out.2 (by rw [HN.out]; omega) (by simp; omega) ?_; intro v8 w8 hown8 hg8))
      have b9 := B5.out.trans ((BW.out.mono z5).trans ((O5.out.grow BW.out).below hg8 (by simp; omega)))
      clear O5 N1 BW B5 z5 hg8 e1 e2
      replace R := Lib.hid (R.out.grow b9)
      replace BB := Lib.hid (BB.out.trans (b9.mono BB.out.size))
      clear b9
      have Y := Lib.hid hown8
      clear hown8
      refine (implValid_is (R.out.row.take j (by rw [HN.out]; exact hjn)) HJ.out).mono ?_
      rintro e wv4 ⟨rfl, b9⟩
      replace R := Lib.hid (R.out.grow b9)
      replace Y := Lib.hid (Y.out.grow b9)
      replace BB := Lib.hid (BB.out.trans (b9.mono BB.out.size))
      clear b9
      go_wp2_with fail
      refine (allSure_any true R.out.row (by rw [HN.out]; omega)).mono ?_
      rintro e wv5 ⟨vA, rfl, o9, b9⟩
      replace R := Lib.hid (R.out.grow b9)
      replace Y := Lib.hid (Y.out.grow b9)
      replace BB := Lib.hid (BB.out.trans (b9.mono BB.out.size))
      clear b9
      have A := Lib.hid o9
      clear o9
      go_wp2_with fail
      refine (implValid_is A.out.row S1.out).mono ?_
      rintro e wv6 ⟨rfl, b9⟩
      replace R := Lib.hid (R.out.grow b9)
      replace Y := Lib.hid (Y.out.grow b9)
      replace A := Lib.hid (A.out.grow b9)
      replace BB := Lib.hid (BB.out.trans (b9.mono BB.out.size))
      clear b9
      go_wp2_with fail
      refine (allSure_any false R.out.row (by rw [HN.out]; omega)).mono ?_
      rintro e wv7 ⟨vB, rfl, o9, b9⟩
      replace R := Lib.hid (R.out.grow b9)
      replace Y := Lib.hid (Y.out.grow b9)
      replace A := Lib.hid (A.out.grow b9)
      replace BB := Lib.hid (BB.out.trans (b9.mono BB.out.size))
      clear b9
      have B := Lib.hid o9
      clear o9
      go_wp2_with fail
      refine (implValid_is B.out.row S0.out).mono ?_
      rintro e wv8 ⟨rfl, b9⟩
      replace R := Lib.hid (R.out.grow b9)
      replace Y := Lib.hid (Y.out.grow b9)
      replace A := Lib.hid (A.out.grow b9)
      replace B := Lib.hid (B.out.grow b9)
      replace BB := Lib.hid (BB.out.trans (b9.mono BB.out.size))
      clear b9
      go_wp2_with fail
      refine (implValid_is Y.out.row TW.out).mono ?_
      rintro e wv9 ⟨rfl, b9⟩
      replace R := Lib.hid (R.out.grow b9)
      replace Y := Lib.hid (Y.out.grow b9)
      replace A := Lib.hid (A.out.grow b9)
      replace B := Lib.hid (B.out.grow b9)
      replace BB := Lib.hid (BB.out.trans (b9.mono BB.out.size))
      clear b9
      go_wp2_with fail
      go_ret
      exact ⟨by first | rfl | (simp; done) | (simp; omega), BB.out⟩

set_option maxRecDepth 100000 in
theorem lifted (os : Os) (started : os.Started) (H : Type) (enc : TypeId × Value → H) :
    ReturnsInHanded {} Try.checked os 3 .any (Rows.fnLayersSpec.pre6 enc Try.prog Try.f3 Rows.fnLayersRow.domain false) (Rows.fnLayersSpec.post enc Try.prog Try.f3 false true false false) := by
  refine returnsInHanded_of_change (C := Try.checked) own started (by kernel_rfl) Try.func3
    (ChangeSpec.witness6 (enc := enc) (C := Try.checked) false ⟨#[], #[.slice none 0 0, .slice none 0 0], []⟩ 8 (by kernel_rfl) (by kernel_rfl) (by kernel_rfl) (by kernel_rfl)) ?_
  intro W base args ds gs before hval0 hW hcnd _
  have hval : ∀ (j : Nat) t v, Try.f3.params[j]? = some t → args[j]? = some v → Value.okWide Try.prog W .any base t v := hval0
  have hW' := hW
  obtain ⟨p, q, hA0, hV, rfl, hfz, hnd⟩ := hW
  have hA : DataW.TrodAll enc Try.prog W 0 (fun _ => true) true Try.f3.params.toList args.toList ds p := hA0
  rw [Try.params3] at hA hval
  obtain ⟨v0, vs0, d0, ds0, p0, q0, hargs, rfl, rfl, h0, r0⟩ := trodAll_cons hA
  obtain ⟨v1, vs1, d1, ds1, p1, q1, rfl, rfl, rfl, h1, r1⟩ := trodAll_cons r0
  obtain ⟨rfl, rfl, rfl⟩ := trodAll_nil r1
  obtain rfl : args = #[v0, v1] := by cases args; simp_all
  obtain ⟨rfl, rfl⟩ := trodVars_none hV
  obtain ⟨a0, len0, cap0, rfl⟩ := okWide_slice Try.underlying22 (hval 0 22 v0 rfl rfl)
  have k0 := h0
  have lt0 : ∀ x ∈ p0, x.block < W.heap.size := by obtain ⟨m, hm⟩ := k0; exact DataW.trod_lt m _ _ _ hm
  obtain ⟨z0, w0⟩ : ∃ zs, IsRow .u8 W a0 len0 cap0 zs := by
    obtain ⟨fuel, hf⟩ := h0
    rcases open_ints Try.underlying22 Try.underlying5 (by kernel_rfl) hf with ⟨hcs, _⟩ | ⟨x, l, c, zs, hcs, _, hl, hm, hz, _, hcell, hwz⟩
    · simp [Value.cells] at hcs
      obtain ⟨rfl, rfl, rfl⟩ := hcs
      exact ⟨[], .inl ⟨rfl, rfl, rfl, rfl⟩⟩
    · simp [Value.cells] at hcs
      obtain ⟨rfl, rfl, rfl⟩ := hcs
      exact ⟨zs, .inr ⟨_, rfl, hl, hm, by simpa using hz, hcell, hwz⟩⟩
  obtain ⟨a1, len1, cap1, rfl⟩ := okWide_slice Try.underlying22 (hval 1 22 v1 rfl rfl)
  have k1 := h1
  have lt1 : ∀ x ∈ p1, x.block < W.heap.size := by obtain ⟨m, hm⟩ := k1; exact DataW.trod_lt m _ _ _ hm
  obtain ⟨z1, w1⟩ : ∃ zs, IsRow .u8 W a1 len1 cap1 zs := by
    obtain ⟨fuel, hf⟩ := h1
    rcases open_ints Try.underlying22 Try.underlying5 (by kernel_rfl) hf with ⟨hcs, _⟩ | ⟨x, l, c, zs, hcs, _, hl, hm, hz, _, hcell, hwz⟩
    · simp [Value.cells] at hcs
      obtain ⟨rfl, rfl, rfl⟩ := hcs
      exact ⟨[], .inl ⟨rfl, rfl, rfl, rfl⟩⟩
    · simp [Value.cells] at hcs
      obtain ⟨rfl, rfl, rfl⟩ := hcs
      exact ⟨zs, .inr ⟨_, rfl, hl, hm, by simpa using hz, hcell, hwz⟩⟩
  clear hA0 hval0
  refine (walk a0 len0 cap0 z0 a1 len1 cap1 z1 W w0 w1).mono fun e W' ⟨he, bel⟩ => ?_
  subst he
  exact ⟨_, rfl, _, _, _, [], _, [], hW', trodAll_mk1 (shut_bool Try.underlying4 _), (trodAll_cons_mk (Below.trod laidOut (by kernel_rfl) (of_decide_eq_true (by kernel_rfl)) k0 bel lt0) (trodAll_cons_mk (Below.trod laidOut (by kernel_rfl) (of_decide_eq_true (by kernel_rfl)) k1 bel lt1) trodAll_mk0)), rfl, bel.frame _, fun h => by cases h⟩

theorem over : Rows.fnLayersRow.holds Try.pinned (OpenSpec.ofChange Rows.fnLayersSpec) :=
  OpenClaim.holds_of_wide 3 Try.f3 rfl rfl rfl rfl rfl rfl rfl ⟨rfl, rfl, rfl, rfl, rfl⟩ rfl rfl rfl rfl rfl (by kernel_rfl) Try.func3 (by kernel_rfl)
    (of_decide_eq_true (by kernel_rfl)) (by unfold Func.isWrapper; first | (rw [if_pos (by decide +kernel)]; kernel_rfl) | (rw [if_neg (by decide +kernel)]; exact ⟨rfl, rfl⟩))
    (fun os started H enc _ => lifted os started H enc)

/-- ████ THE STATEMENT ████ -/
theorem proved : Rows.FnLayersSaid := over
#print axioms proved
end Go.Proofs.Ytbjeedeapioljaa.fnLayers
