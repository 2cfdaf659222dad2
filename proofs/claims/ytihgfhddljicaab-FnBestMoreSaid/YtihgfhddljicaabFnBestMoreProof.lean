/- For every input, the law FnBestMore of the given statements returns true over the program at this commit, and its arguments read afterwards as before: no condition. -/
import Derived.Test.YtihgfhddljicaabRows
import Derived.Test.YtihgfhddljicaabLawC
import Derived.WalkKit
import Derived.ProofKit
import Derived.OpenShut
import Derived.ShutString
import Derived.ChangeOld
import Derived.Below
namespace Go.Proofs.Ytihgfhddljicaab.fnBestMore
open Go.ChangeShapes Go.WideShapes Go.ChangeAt Go.RowKit
open Go.ChangeMaps (open_string shut_string)
set_option linter.unusedVariables false

theorem own : ownKnob Try.prog.godebug = none := by kernel_rfl
theorem laidOut : laidOutB Try.prog = true := by kernel_rfl

/-- WHAT THE WALK IS TOLD OF A SLICE OF INTEGERS THAT CAME IN: it is nil; or it leads to a row of 'cap' cells, the numbers 'zs' (the first 'len' are its elements, the rest its spare room), each fitting its kind. -/
def IsRow (k : IntKind) (w : World) (a : Option Addr) (len cap : Nat) (zs : List Int) : Prop :=
  (a = none ∧ len = 0 ∧ cap = 0 ∧ zs = []) ∨
  ∃ x, a = some x ∧ len ≤ cap ∧ cap ≤ maxLen ∧ zs.length = cap ∧ (∀ i, i < zs.length → w.cell? (x.add i) = some (.int k (zs.getD i 0))) ∧ ∀ n ∈ zs, (Lit.int k n).wf = true

set_option maxRecDepth 100000 in
set_option maxHeartbeats 3200000 in
theorem walk (a0 : Option Addr) (len0 cap0 : Nat) (z0 : List Int) (a1 : Option Addr) (len1 cap1 : Nat) (z1 : List Int) (w : World) (w0 : IsRow .u8 w a0 len0 cap0 z0) (w1 : IsRow .u8 w a1 len1 cap1 z1) :
    Calls Try.prog 8 #[.slice a0 len0 cap0, .slice a1 len1 cap1] w fun e w' => e = .returned (.bool true) ∧ Below w.heap.size w w' := by
  have hB := bytes_of w0
  have hB1 := bytes_len (bytes_of w1)
  unfold maxLen at hB1
  by_cases hl : 1048576 < len0
  · have hdec : decide (1048576 < len0) = true := by simpa using hl
    go_enter Try.func8, Try.ntmps8
    go_wp2_with fail
    go_ret
    exact ⟨rfl, Below.refl _ _⟩
  have hdec : decide (1048576 < len0) = false := by simpa using hl
  by_cases hl1 : 1048576 < len1
  · go_enter Try.func8, Try.ntmps8
    go_wp2_with fail
    go_ret
    exact ⟨rfl, Below.refl _ _⟩
  have hm : len0 ≤ 1048576 := by omega
  have hm1 : len1 ≤ 1048576 := by omega
  clear hB1
  go_enter Try.func8, Try.ntmps8
  go_wp2_with fail
  refine (DrawCutsBest_any hB).mono ?_
  rintro e wv1 ⟨v, c, lo, mo, rfl, r0, hc20, b1⟩
  clear w0 w1 hB
  have BB := Lib.hid b1
  clear b1
  have R := Lib.hid r0
  clear r0
  obtain ⟨aR, cR, rfl, kR, mR⟩ := len_n R.out
  cases hb : bestB c lo mo with
  | none =>
    have HB := Lib.hid hb
    clear hb
    go_wp2_with fail
    refine (bestI_no R.out HB.out).mono ?_
    rintro e wv2 ⟨vX, rfl, o9, b9⟩
    replace R := Lib.hid (R.out.grow b9)
    replace BB := Lib.hid (BB.out.trans (b9.mono BB.out.size))
    clear b9
    have X := Lib.hid o9
    clear o9
    go_wp2_with fail
    refine (bestS_no R.out HB.out).mono ?_
    rintro e wv3 ⟨vY, rfl, o9, b9⟩
    replace R := Lib.hid (R.out.grow b9)
    replace X := Lib.hid (X.out.grow b9)
    replace BB := Lib.hid (BB.out.trans (b9.mono BB.out.size))
    clear b9
    have Y := Lib.hid o9
    clear o9
    go_wp2_with fail
    refine (isame_yes X.out.row Y.out.row rfl).mono ?_
    rintro e wv4 ⟨rfl, b9⟩
    replace R := Lib.hid (R.out.grow b9)
    replace X := Lib.hid (X.out.grow b9)
    replace Y := Lib.hid (Y.out.grow b9)
    replace BB := Lib.hid (BB.out.trans (b9.mono BB.out.size))
    clear b9
    go_wp2_with fail
    refine (isame_yes X.out.row Y.out.row rfl).mono ?_
    rintro e wv5 ⟨rfl, b9⟩
    replace R := Lib.hid (R.out.grow b9)
    replace X := Lib.hid (X.out.grow b9)
    replace Y := Lib.hid (Y.out.grow b9)
    replace BB := Lib.hid (BB.out.trans (b9.mono BB.out.size))
    clear b9
    go_wp2_with fail
    go_ret
    exact ⟨by first | rfl | (simp; done) | (simp; omega), BB.out⟩
  | some m =>
    have HB := Lib.hid hb
    obtain ⟨a, b, rfl, rfl, hib⟩ := bestB_some hb
    have IB' := Lib.hid hib
    obtain ⟨l1, ln⟩ := hib.toAllowed.size
    obtain ⟨n1, n16⟩ := hib.toAllowed.len
    clear hb hib
    go_wp2_with fail
    refine (bestI_yes R.out HB.out).mono ?_
    rintro e wv2 ⟨vP, rfl, o9, b9⟩
    replace R := Lib.hid (R.out.grow b9)
    replace BB := Lib.hid (BB.out.trans (b9.mono BB.out.size))
    clear b9
    have P := Lib.hid o9
    clear o9
    go_wp2_with fail
    refine (bestS_yes R.out HB.out).mono ?_
    rintro e wv3 ⟨vY, rfl, o9, b9⟩
    replace R := Lib.hid (R.out.grow b9)
    replace P := Lib.hid (P.out.grow b9)
    replace BB := Lib.hid (BB.out.trans (b9.mono BB.out.size))
    clear b9
    have Y := Lib.hid o9
    clear o9
    go_wp2_with fail
    refine (isame_yes P.out.row Y.out.row rfl).mono ?_
    rintro e wv4 ⟨rfl, b9⟩
    replace R := Lib.hid (R.out.grow b9)
    replace P := Lib.hid (P.out.grow b9)
    replace Y := Lib.hid (Y.out.grow b9)
    replace BB := Lib.hid (BB.out.trans (b9.mono BB.out.size))
    clear b9
    clear Y
    obtain ⟨gy, py, qy, ey, k1y, k2y⟩ := known_n R.out rfl (by omega)
    simp only [Value.slice.injEq, true_and] at ey
    obtain ⟨rfl, rfl⟩ := ey
    have EA := Lib.hid (iown_new (Nat.le_refl wv4.heap.size))
    have BA := Lib.hid ((Below.refl wv4.heap.size wv4).alloc (Nat.le_refl _) (.cells #[] 3))
    have TA := Lib.hid (rests_row (R.out.grow BA.out))
    obtain ⟨q, hq⟩ : ∃ q : Nat, len1 % c.length = q := ⟨_, rfl⟩
    have hqc : q < c.length := by rw [← hq]; exact Nat.mod_lt _ (by omega)
    have em : (len1 : Int) % (c.length : Int) = (q : Int) := by rw [← hq, Int.natCast_emod]
    have et : IntKind.i64.wrap ((len1 : Int).tmod (c.length : Int)) = (q : Int) := by rw [Int.tmod_eq_emod_of_nonneg (by omega), em]; exact IntWalk.i64_in _ (by omega)
    have ez : ((c.length : Int) == 0) = false := by rw [beq_eq_false_iff_ne]; omega
    have EM := Lib.hid em
    obtain ⟨y0, hy0⟩ : ∃ x : Int, c.getD q 0 = x := ⟨_, rfl⟩
    have HY0 := Lib.hid hy0
    have yb : 0 ≤ y0 ∧ y0 ≤ 1000 := by rw [← hy0, getD_nat hqc]; exact (isSig_iff.1 IB'.out.sig).2.2 _ (List.getElem_mem _)
    have ey : IntKind.i64.wrap (y0 + 1) = y0 + 1 := IntWalk.i64_in _ (by omega)
    clear hy0
    go_wp2_with (at_builtin; refine iappend_list intT rfl _ _ rfl (B := wv4.heap.size) _ [] rfl EA.out ⟨gy, py, none⟩ c.length cR c rfl rfl TA.out (by simp; omega) (by simp) ?_; intro v8 w8 hown8 hg8; rw [List.nil_append] at hown8; have O8 := Lib.hid hown8; have B8 : Hid (Below wv4.heap.size wv4 w8) := Lib.hid (Below.grown BA.out hg8 BA.out.size (fun k hk => Nat.le_of_eq (Option.some.inj hk))); obtain ⟨g8, cap8, hu8, hcap8, hcapm8, hBg8, hgw8, hp8⟩ := hown8.at n1; unfold maxLen at hcapm8; subst hu8; have c8 := (hp8 q hqc).cell; rw [← getD_nat hqc, HY0.out] at c8; have f8 := (hp8 q hqc).froz; have S8 := Lib.hid (hp8 q hqc).set; clear hown8 hg8 hp8)
    obtain ⟨wv5, hv⟩ : ∃ x, x = w8.setCell ⟨g8, q, none⟩ (.int .i64 (y0 + 1)) := ⟨_, rfl⟩
    have X9 : Hid (IOwn wv5 wv4.heap.size (.slice (some ⟨g8, 0, none⟩) c.length cap8) (c.set q (y0 + 1))) := Lib.hid (by rw [hv]; exact S8.out (y0 + 1))
    have B9 : Hid (Below wv4.heap.size wv4 wv5) := Lib.hid (by rw [hv]; exact B8.out.setCell (p := ⟨g8, q, none⟩) hBg8 _)
    rw [← hv, em]
    have j1 : (0 : Int) ≤ (q : Int) := by omega
    have j2 : (q : Int) < (c.length : Int) := by omega
    clear hv c8 f8 S8 O8 B8 em hq
    replace R := Lib.hid (R.out.grow B9.out)
    replace P := Lib.hid (P.out.grow B9.out)
    replace BB := Lib.hid (BB.out.trans (B9.out.mono BB.out.size))
    have hd := IB'.out.dearer hqc
    rw [← getD_nat hqc, HY0.out] at hd
    obtain ⟨x, hx⟩ : ∃ x : Int, costAt c m = x := ⟨_, rfl⟩
    have xb := IB'.out.toAllowed.bound
    rw [hx] at hd xb
    have HX := Lib.hid hx
    have XG : Hid (∀ h : q < (c.set q (y0 + 1)).length, (c.set q (y0 + 1))[q] = y0 + 1) := Lib.hid (fun h => by rw [List.getElem_set_self])
    clear hx
    rcases hd with ⟨hbig, hno⟩ | ⟨hsmall, s, hs, his, hdiff⟩
    · have HNO := Lib.hid hno
      have CN : Hid (costB (c.set q (y0 + 1)) a b [] = -1) := Lib.hid (costB_no (by
        cases hk : allowedB (c.set q (y0 + 1)) a b []
        · rfl
        · obtain ⟨_, _, _, _, hz⟩ := allowed_is hk; have := hz.size; simp at this))
      have ed : IntKind.i64.wrap (-1 - x) = -1 - x := IntWalk.i64_in _ (by omega)
      clear hno
      go_wp2_with fail
      refine (bestI_no X9.out.row HNO.out).mono ?_
      rintro e wv6 ⟨vZ, rfl, o9, b9⟩
      replace R := Lib.hid (R.out.grow b9)
      replace P := Lib.hid (P.out.grow b9)
      replace X9 := Lib.hid (X9.out.grow b9)
      replace BB := Lib.hid (BB.out.trans (b9.mono BB.out.size))
      clear b9
      have Z := Lib.hid o9
      clear o9
      go_wp2_with fail
      refine (costI_is X9.out.row Z.out.row (by simp) CN.out).mono ?_
      rintro e wv7 ⟨rfl, b9⟩
      replace R := Lib.hid (R.out.grow b9)
      replace P := Lib.hid (P.out.grow b9)
      replace X9 := Lib.hid (X9.out.grow b9)
      replace Z := Lib.hid (Z.out.grow b9)
      replace BB := Lib.hid (BB.out.trans (b9.mono BB.out.size))
      clear b9
      go_wp2_with fail
      refine (costI_yes R.out P.out.row IB'.out.toAllowed HX.out).mono ?_
      rintro e wv8 ⟨rfl, b9⟩
      replace R := Lib.hid (R.out.grow b9)
      replace P := Lib.hid (P.out.grow b9)
      replace X9 := Lib.hid (X9.out.grow b9)
      replace Z := Lib.hid (Z.out.grow b9)
      replace BB := Lib.hid (BB.out.trans (b9.mono BB.out.size))
      clear b9
      have c9 := X9.out.row.cells q (by rw [List.length_set]; exact hqc)
      rw [XG.out] at c9
      simp only [Nat.zero_add] at c9
      go_wp2_with fail
      go_ret
      exact ⟨by first | rfl | (simp; done) | (simp; omega), BB.out⟩
    · have HS := Lib.hid hs; have IS := Lib.hid his
      obtain ⟨z, hz⟩ : ∃ x : Int, costAt (c.set q (y0 + 1)) s = x := ⟨_, rfl⟩
      rw [hz] at hdiff
      have zb := his.toAllowed.bound
      rw [hz] at zb
      have HZ := Lib.hid hz
      have ed : IntKind.i64.wrap (z - x) = z - x := IntWalk.i64_in _ (by omega)
      have HD := Lib.hid hdiff
      clear hs his hz hdiff
      go_wp2_with fail
      refine (bestI_yes X9.out.row HS.out).mono ?_
      rintro e wv6 ⟨vS, rfl, o9, b9⟩
      replace R := Lib.hid (R.out.grow b9)
      replace P := Lib.hid (P.out.grow b9)
      replace X9 := Lib.hid (X9.out.grow b9)
      replace BB := Lib.hid (BB.out.trans (b9.mono BB.out.size))
      clear b9
      have S := Lib.hid o9
      clear o9
      go_wp2_with fail
      refine (costI_yes X9.out.row S.out.row IS.out.toAllowed HZ.out).mono ?_
      rintro e wv7 ⟨rfl, b9⟩
      replace R := Lib.hid (R.out.grow b9)
      replace P := Lib.hid (P.out.grow b9)
      replace X9 := Lib.hid (X9.out.grow b9)
      replace S := Lib.hid (S.out.grow b9)
      replace BB := Lib.hid (BB.out.trans (b9.mono BB.out.size))
      clear b9
      go_wp2_with fail
      refine (costI_yes R.out P.out.row IB'.out.toAllowed HX.out).mono ?_
      rintro e wv8 ⟨rfl, b9⟩
      replace R := Lib.hid (R.out.grow b9)
      replace P := Lib.hid (P.out.grow b9)
      replace X9 := Lib.hid (X9.out.grow b9)
      replace S := Lib.hid (S.out.grow b9)
      replace BB := Lib.hid (BB.out.trans (b9.mono BB.out.size))
      clear b9
      rcases HD.out with hd | hd
      · have hd2 : z = x := by omega
        subst hd2
        go_wp2_with fail
        go_ret
        exact ⟨by first | rfl | (simp; done) | (simp; omega), BB.out⟩
      · have hd2 : z = x + 1 := by omega
        subst hd2
        go_wp2_with fail
        go_ret
        exact ⟨by first | rfl | (simp; done) | (simp; omega), BB.out⟩

set_option maxRecDepth 100000 in
theorem lifted (os : Os) (started : os.Started) (H : Type) (enc : TypeId × Value → H) :
    ReturnsInHanded {} Try.checked os 8 .any (Rows.fnBestMoreSpec.pre6 enc Try.prog Try.f8 Rows.fnBestMoreRow.domain false) (Rows.fnBestMoreSpec.post enc Try.prog Try.f8 false true false false) := by
  refine returnsInHanded_of_change (C := Try.checked) own started (by kernel_rfl) Try.func8
    (ChangeSpec.witness6 (enc := enc) (C := Try.checked) false ⟨#[], #[.slice none 0 0, .slice none 0 0], []⟩ 8 (by kernel_rfl) (by kernel_rfl) (by kernel_rfl) (by kernel_rfl)) ?_
  intro W base args ds gs before hval0 hW hcnd _
  have hval : ∀ (j : Nat) t v, Try.f8.params[j]? = some t → args[j]? = some v → Value.okWide Try.prog W .any base t v := hval0
  have hW' := hW
  obtain ⟨p, q, hA0, hV, rfl, hfz, hnd⟩ := hW
  have hA : DataW.TrodAll enc Try.prog W 0 (fun _ => true) true Try.f8.params.toList args.toList ds p := hA0
  rw [Try.params8] at hA hval
  obtain ⟨v0, vs0, d0, ds0, p0, q0, hargs, rfl, rfl, h0, r0⟩ := trodAll_cons hA
  obtain ⟨v1, vs1, d1, ds1, p1, q1, rfl, rfl, rfl, h1, r1⟩ := trodAll_cons r0
  obtain ⟨rfl, rfl, rfl⟩ := trodAll_nil r1
  obtain rfl : args = #[v0, v1] := by cases args; simp_all
  obtain ⟨rfl, rfl⟩ := trodVars_none hV
  obtain ⟨a0, len0, cap0, rfl⟩ := okWide_slice Try.underlying22 (hval 0 22 v0 rfl rfl)
  have k0 := h0
  have lt0 : ∀ x ∈ p0, x.block < W.heap.size := by obtain ⟨m, hm⟩ := k0; exact DataW.trod_lt m _ _ _ hm
  obtain ⟨z0, w0⟩ : ∃ zs, IsRow .u8 W a0 len0 cap0 zs := by
    obtain ⟨fuel, hf⟩ := h0
    rcases open_ints Try.underlying22 Try.underlying5 (by kernel_rfl) hf with ⟨hcs, _⟩ | ⟨x, l, c, zs, hcs, _, hl, hm, hz, _, hcell, hwz⟩
    · simp [Value.cells] at hcs
      obtain ⟨rfl, rfl, rfl⟩ := hcs
      exact ⟨[], .inl ⟨rfl, rfl, rfl, rfl⟩⟩
    · simp [Value.cells] at hcs
      obtain ⟨rfl, rfl, rfl⟩ := hcs
      exact ⟨zs, .inr ⟨_, rfl, hl, hm, by simpa using hz, hcell, hwz⟩⟩
  obtain ⟨a1, len1, cap1, rfl⟩ := okWide_slice Try.underlying22 (hval 1 22 v1 rfl rfl)
  have k1 := h1
  have lt1 : ∀ x ∈ p1, x.block < W.heap.size := by obtain ⟨m, hm⟩ := k1; exact DataW.trod_lt m _ _ _ hm
  obtain ⟨z1, w1⟩ : ∃ zs, IsRow .u8 W a1 len1 cap1 zs := by
    obtain ⟨fuel, hf⟩ := h1
    rcases open_ints Try.underlying22 Try.underlying5 (by kernel_rfl) hf with ⟨hcs, _⟩ | ⟨x, l, c, zs, hcs, _, hl, hm, hz, _, hcell, hwz⟩
    · simp [Value.cells] at hcs
      obtain ⟨rfl, rfl, rfl⟩ := hcs
      exact ⟨[], .inl ⟨rfl, rfl, rfl, rfl⟩⟩
    · simp [Value.cells] at hcs
      obtain ⟨rfl, rfl, rfl⟩ := hcs
      exact ⟨zs, .inr ⟨_, rfl, hl, hm, by simpa using hz, hcell, hwz⟩⟩
  clear hA0 hval0
  refine (walk a0 len0 cap0 z0 a1 len1 cap1 z1 W w0 w1).mono fun e W' ⟨he, bel⟩ => ?_
  subst he
  exact ⟨_, rfl, _, _, _, [], _, [], hW', trodAll_mk1 (shut_bool Try.underlying4 _), (trodAll_cons_mk (Below.trod laidOut (by kernel_rfl) (of_decide_eq_true (by kernel_rfl)) k0 bel lt0) (trodAll_cons_mk (Below.trod laidOut (by kernel_rfl) (of_decide_eq_true (by kernel_rfl)) k1 bel lt1) trodAll_mk0)), rfl, bel.frame _, fun h => by cases h⟩

theorem over : Rows.fnBestMoreRow.holds Try.pinned (OpenSpec.ofChange Rows.fnBestMoreSpec) :=
  OpenClaim.holds_of_wide 8 Try.f8 rfl rfl rfl rfl rfl rfl rfl ⟨rfl, rfl, rfl, rfl, rfl⟩ rfl rfl rfl rfl rfl (by kernel_rfl) Try.func8 (by kernel_rfl)
    (of_decide_eq_true (by kernel_rfl)) (by unfold Func.isWrapper; first | (rw [if_pos (by decide +kernel)]; kernel_rfl) | (rw [if_neg (by decide +kernel)]; exact ⟨rfl, rfl⟩))
    (fun os started H enc _ => lifted os started H enc)

/-- ████ THE STATEMENT ████ -/
theorem proved : Rows.FnBestMoreSaid := over
#print axioms proved
end Go.Proofs.Ytihgfhddljicaab.fnBestMore
