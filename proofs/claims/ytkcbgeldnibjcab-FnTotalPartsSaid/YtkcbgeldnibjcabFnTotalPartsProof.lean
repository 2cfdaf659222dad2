/- For every input, the law FnTotalParts of the given statements returns true over the program at this commit, and its arguments read afterwards as before: no condition. -/
import Derived.Test.YtkcbgeldnibjcabRows
import Derived.Test.YtkcbgeldnibjcabLawR
import Derived.WalkKit
import Derived.ProofKit
import Derived.OpenShut
import Derived.ShutString
import Derived.ChangeOld
import Derived.Below
namespace Go.Proofs.Ytkcbgeldnibjcab.fnTotalParts
open Go.ChangeShapes Go.WideShapes Go.ChangeAt Go.RowKit
open Go.ChangeMaps (open_string shut_string)
set_option linter.unusedVariables false

theorem own : ownKnob Try.prog.godebug = none := by kernel_rfl
theorem laidOut : laidOutB Try.prog = true := by kernel_rfl

/-- WHAT THE WALK IS TOLD OF A SLICE OF INTEGERS THAT CAME IN: it is nil; or it leads to a row of 'cap' cells, the numbers 'zs' (the first 'len' are its elements, the rest its spare room), each fitting its kind. -/
def IsRow (k : IntKind) (w : World) (a : Option Addr) (len cap : Nat) (zs : List Int) : Prop :=
  (a = none ∧ len = 0 ∧ cap = 0 ∧ zs = []) ∨
  ∃ x, a = some x ∧ len ≤ cap ∧ cap ≤ maxLen ∧ zs.length = cap ∧ (∀ i, i < zs.length → w.cell? (x.add i) = some (.int k (zs.getD i 0))) ∧ ∀ n ∈ zs, (Lit.int k n).wf = true

set_option maxRecDepth 100000 in
set_option maxHeartbeats 3200000 in
theorem walk (a0 : Option Addr) (len0 cap0 : Nat) (z0 : List Int) (a1 : Option Addr) (len1 cap1 : Nat) (z1 : List Int) (w : World) (w0 : IsRow .u8 w a0 len0 cap0 z0) (w1 : IsRow .u8 w a1 len1 cap1 z1) :
    Calls Try.prog 7 #[.slice a0 len0 cap0, .slice a1 len1 cap1] w fun e w' => e = .returned (.bool true) ∧ Below w.heap.size w w' := by
  have hB := bytes_of w0
  have hB1 := bytes_len (bytes_of w1)
  unfold maxLen at hB1
  by_cases hl : 1048576 < len0
  · have hdec : decide (1048576 < len0) = true := by simpa using hl
    go_enter Try.func7, Try.ntmps7
    go_wp2_with fail
    go_ret
    exact ⟨rfl, Below.refl _ _⟩
  have hdec : decide (1048576 < len0) = false := by simpa using hl
  by_cases hl1 : 1048576 < len1
  · go_enter Try.func7, Try.ntmps7
    go_wp2_with fail
    go_ret
    exact ⟨rfl, Below.refl _ _⟩
  have hm : len0 ≤ 1048576 := by omega
  have hm1 : len1 ≤ 1048576 := by omega
  clear hB1
  go_enter Try.func7, Try.ntmps7
  go_wp2_with fail
  refine (DrawRecordTotal_any hB).mono ?_
  rintro e wv1 ⟨v, u, l, a, rfl, rl, ra, hl2, ha1, b1⟩
  clear w0 w1 hB
  have S := St.start b1
  clear b1
  have R := Lib.hid (show Rec _ _ _ l a from ⟨rl, ra⟩)
  clear rl ra
  cases hv : isRec l a
  · have HT := Lib.hid (total_bad hv)
    clear hv
    go_wp2_with fail
    refine (total_is R.out HT.out).mono ?_
    rintro e wv2 ⟨rfl, b2⟩
    replace R := Lib.hid ((R.out.grow b2))
    replace S := (S.next b2)
    clear b2
    go_wp2_with fail
    refine (totalS_is R.out HT.out).mono ?_
    rintro e wv3 ⟨rfl, b3⟩
    replace R := Lib.hid ((R.out.grow b3))
    replace S := (S.next b3)
    clear b3
    go_wp2_with fail
    go_ret
    exact ⟨by first | rfl | (simp; done) | (simp; omega), S.below⟩
  · have HV := Lib.hid hv; have HT := Lib.hid (total_rec hv)
    obtain ⟨s0, s1⟩ := rec_sum hv
    obtain ⟨sm, hsm⟩ : ∃ x : Int, a.sum = x := ⟨_, rfl⟩
    rw [hsm] at HT s0 s1
    have SM := Lib.hid hsm
    clear hv hsm
    go_wp2_with fail
    refine (total_is R.out HT.out).mono ?_
    rintro e wv2 ⟨rfl, b2⟩
    replace R := Lib.hid ((R.out.grow b2))
    replace S := (S.next b2)
    clear b2
    go_wp2_with fail
    refine (totalS_is R.out HT.out).mono ?_
    rintro e wv3 ⟨rfl, b3⟩
    replace R := Lib.hid ((R.out.grow b3))
    replace S := (S.next b3)
    clear b3
    obtain ⟨hL, ha0, ha20⟩ := rec_len HV.out
    obtain ⟨g, o, cp, rfl, hcap, hcapm⟩ := R.out.1.known (by omega)
    obtain ⟨g', o', cp', rfl, hcap', hcapm'⟩ := R.out.2.known (by omega)
    unfold maxLen at hcapm hcapm'
    rw [hL] at hcap
    rw [hL] at R
    rw [hL]
    have HL := Lib.hid hL
    have hl0 : 0 < l.length := by omega
    have hla : a.length < l.length := by omega
    clear hL
    have q0 : (0 : Int) < (a.length : Int) + 1 := by omega
    have q1 : 0 < a.length + 1 := by omega
    have q2 : IntKind.i64.wrap ((a.length : Int) + 1 - 1) = (a.length : Int) := by rw [show (a.length : Int) + 1 - 1 = a.length by omega]; exact IntWalk.i64_in _ (by omega)
    have q2' : IntKind.i64.wrap (a.length : Int) = (a.length : Int) := IntWalk.i64_in _ (by omega)
    have q3 : (0 : Int) ≤ (a.length : Int) := by omega
    have q4 : (a.length : Int) < (a.length : Int) + 1 := by omega
    have q5 : a.length < a.length + 1 := by omega
    obtain ⟨y, hy⟩ : ∃ y : Int, (len1 : Int).tmod (a.length : Int) = y := ⟨_, rfl⟩
    have hy0 : 0 ≤ y := by rw [← hy]; exact Int.tmod_nonneg _ (by omega)
    have hy1 : y < (a.length : Int) := by rw [← hy]; exact Int.tmod_lt_of_pos _ (by omega)
    have hye : (len1 : Int) % (a.length : Int) = y := by rw [← hy, Int.tmod_eq_emod_of_nonneg (by omega)]
    have z2 : ¬ ((a.length : Int) = 0) := by omega
    obtain ⟨j, rfl⟩ : ∃ j : Nat, y = j := ⟨y.toNat, by omega⟩
    have hj : j < a.length := by omega
    have z3 : IntKind.i64.wrap (j : Int) = (j : Int) := IntWalk.i64_in _ (by omega)
    have z4 : IntKind.i64.wrap ((j : Int) + 1) = (j : Int) + 1 := IntWalk.i64_in _ (by omega)
    have i1 : (j : Int) < (a.length : Int) + 1 := by omega
    have i2 : (0 : Int) ≤ (j : Int) := by omega
    have i3 : (j : Int) + 1 < (a.length : Int) + 1 := by omega
    have i4 : ((j : Int) + 1).toNat = j + 1 := by omega
    have i5 : (0 : Int) ≤ (j : Int) + 1 := by omega
    have i6 : (j : Int) < (a.length : Int) := by omega
    have i7 : j < a.length + 1 := by omega
    have i8 : j + 1 < a.length + 1 := by omega
    have hj0 : j < l.length := by omega
    have hj1 : j + 1 < l.length := by omega
    by_cases j0 : j = 0
    · subst j0
      have zz0 : ((0 : Nat) : Int) = 0 := rfl
      go_wp2_with fail
      refine (total_is R.out HT.out).mono ?_
      rintro e wv4 ⟨rfl, b4⟩
      replace R := Lib.hid ((R.out.grow b4))
      replace S := (S.next b4)
      clear b4
      go_wp2_with fail
      go_ret
      exact ⟨by first | rfl | (simp; done) | (simp; omega), S.below⟩
    · have ej : ((j : Int) == 0) = false := by simpa using j0
      have HT1 := Lib.hid (total_rec (rec_take HV.out (k := j) (by omega) (by omega))); have HT2 := Lib.hid (total_rec (rec_drop HV.out hj))
      have sp := sum_parts a j
      rw [SM.out] at sp
      have b1 := sum_take_bound (j := j) (isRec_iff.1 HV.out).2.2 ha20
      obtain ⟨s1', h1'⟩ : ∃ x : Int, (a.take j).sum = x := ⟨_, rfl⟩
      obtain ⟨s2', h2'⟩ : ∃ x : Int, (a.drop j).sum = x := ⟨_, rfl⟩
      rw [h1'] at HT1 sp b1; rw [h2'] at HT2 sp
      have e9 : IntKind.i64.wrap (s1' + s2') = sm := by rw [sp]; exact IntWalk.i64_in _ (by omega)
      have jc1 : (j : Int) + 1 ≤ (cp : Int) := by omega
      have jc2 : (j : Int) ≤ (cp' : Int) := by omega
      have jc3 : (j : Int) ≤ (a.length : Int) + 1 := by omega
      have jc4 : (j : Int) ≤ (a.length : Int) := by omega
      clear h1' h2' sp b1
      have RP1 : ∀ W : World, Rec W (.slice (some ⟨g, o, none⟩) (a.length + 1) cp) (.slice (some ⟨g', o', none⟩) a.length cp') l a → Rec W (.slice (some ⟨g, o, none⟩) (j + 1) cp) (.slice (some ⟨g', o', none⟩) j cp') (l.take (j + 1)) (a.take j) := fun W h => ⟨h.1.take (j + 1) (by omega), h.2.take j (by omega)⟩
      have RP2 : ∀ W : World, Rec W (.slice (some ⟨g, o, none⟩) (a.length + 1) cp) (.slice (some ⟨g', o', none⟩) a.length cp') l a → Rec W (.slice (some ⟨g, o + j, none⟩) (a.length + 1 - j) (cp - j)) (.slice (some ⟨g', o' + j, none⟩) (a.length - j) (cp' - j)) (l.drop j) (a.drop j) := fun W h => ⟨h.1.drop j (by omega), h.2.drop j (by omega)⟩
      go_upto_region 11 with fail
      have mkS : ∀ w' : World, Below wv3.heap.size wv3 w' → (Below wv3.heap.size wv3 w') := fun w' b => b
      have held : ∀ W w' : World, Below W.heap.size W w' → (Below wv3.heap.size wv3 W) → (Below wv3.heap.size wv3 w') := fun W w' b h => mkS w' (h.trans (b.mono h.size))
      have keep0 := mkS _ (Below.refl wv3.heap.size wv3).drew
      have atR := fun (W : World) (h : (Below wv3.heap.size wv3 W)) => R.out.grow h
      have tok0 : True := trivial
      have tok1 : True := trivial
      go_region_held3 (fun w' => (Below wv3.heap.size wv3 w')) (first | exact keep0 | exact hs0 | exact hs1) (first | (have _t := tok0; clear tok0 _t; go_at_call 27; refine (total_is (RP1 _ (atR _ (by assumption))) HT1.out).mono ?_; rintro e x0 ⟨rfl, b0⟩; have hs0 := held _ _ b0 (by assumption)) | (have _t := tok1; clear tok1 _t; go_at_call 27; refine (total_is (RP2 _ (atR _ (by assumption))) HT2.out).mono ?_; rintro e wv4 ⟨rfl, b1⟩; have hs1 := held _ _ b1 (by assumption)))
      have B9 := hs1
      replace R := Lib.hid (R.out.grow B9)
      replace S := S.next B9
      clear mkS held keep0 B9 atR hs0 b0 hs1 b1
      go_wp2_with fail
      go_ret
      exact ⟨by first | rfl | (simp; done) | (simp; omega), S.below⟩

set_option maxRecDepth 100000 in
theorem lifted (os : Os) (started : os.Started) (H : Type) (enc : TypeId × Value → H) :
    ReturnsInHanded {} Try.checked os 7 .any (Rows.fnTotalPartsSpec.pre6 enc Try.prog Try.f7 Rows.fnTotalPartsRow.domain false) (Rows.fnTotalPartsSpec.post enc Try.prog Try.f7 false true false false) := by
  refine returnsInHanded_of_change (C := Try.checked) own started (by kernel_rfl) Try.func7
    (ChangeSpec.witness6 (enc := enc) (C := Try.checked) false ⟨#[], #[.slice none 0 0, .slice none 0 0], []⟩ 8 (by kernel_rfl) (by kernel_rfl) (by kernel_rfl) (by kernel_rfl)) ?_
  intro W base args ds gs before hval0 hW hcnd _
  have hval : ∀ (j : Nat) t v, Try.f7.params[j]? = some t → args[j]? = some v → Value.okWide Try.prog W .any base t v := hval0
  have hW' := hW
  obtain ⟨p, q, hA0, hV, rfl, hfz, hnd⟩ := hW
  have hA : DataW.TrodAll enc Try.prog W 0 (fun _ => true) true Try.f7.params.toList args.toList ds p := hA0
  rw [Try.params7] at hA hval
  obtain ⟨v0, vs0, d0, ds0, p0, q0, hargs, rfl, rfl, h0, r0⟩ := trodAll_cons hA
  obtain ⟨v1, vs1, d1, ds1, p1, q1, rfl, rfl, rfl, h1, r1⟩ := trodAll_cons r0
  obtain ⟨rfl, rfl, rfl⟩ := trodAll_nil r1
  obtain rfl : args = #[v0, v1] := by cases args; simp_all
  obtain ⟨rfl, rfl⟩ := trodVars_none hV
  obtain ⟨a0, len0, cap0, rfl⟩ := okWide_slice Try.underlying22 (hval 0 22 v0 rfl rfl)
  have k0 := h0
  have lt0 : ∀ x ∈ p0, x.block < W.heap.size := by obtain ⟨m, hm⟩ := k0; exact DataW.trod_lt m _ _ _ hm
  obtain ⟨z0, w0⟩ : ∃ zs, IsRow .u8 W a0 len0 cap0 zs := by
    obtain ⟨fuel, hf⟩ := h0
    rcases open_ints Try.underlying22 Try.underlying5 (by kernel_rfl) hf with ⟨hcs, _⟩ | ⟨x, l, c, zs, hcs, _, hl, hm, hz, _, hcell, hwz⟩
    · simp [Value.cells] at hcs
      obtain ⟨rfl, rfl, rfl⟩ := hcs
      exact ⟨[], .inl ⟨rfl, rfl, rfl, rfl⟩⟩
    · simp [Value.cells] at hcs
      obtain ⟨rfl, rfl, rfl⟩ := hcs
      exact ⟨zs, .inr ⟨_, rfl, hl, hm, by simpa using hz, hcell, hwz⟩⟩
  obtain ⟨a1, len1, cap1, rfl⟩ := okWide_slice Try.underlying22 (hval 1 22 v1 rfl rfl)
  have k1 := h1
  have lt1 : ∀ x ∈ p1, x.block < W.heap.size := by obtain ⟨m, hm⟩ := k1; exact DataW.trod_lt m _ _ _ hm
  obtain ⟨z1, w1⟩ : ∃ zs, IsRow .u8 W a1 len1 cap1 zs := by
    obtain ⟨fuel, hf⟩ := h1
    rcases open_ints Try.underlying22 Try.underlying5 (by kernel_rfl) hf with ⟨hcs, _⟩ | ⟨x, l, c, zs, hcs, _, hl, hm, hz, _, hcell, hwz⟩
    · simp [Value.cells] at hcs
      obtain ⟨rfl, rfl, rfl⟩ := hcs
      exact ⟨[], .inl ⟨rfl, rfl, rfl, rfl⟩⟩
    · simp [Value.cells] at hcs
      obtain ⟨rfl, rfl, rfl⟩ := hcs
      exact ⟨zs, .inr ⟨_, rfl, hl, hm, by simpa using hz, hcell, hwz⟩⟩
  clear hA0 hval0
  refine (walk a0 len0 cap0 z0 a1 len1 cap1 z1 W w0 w1).mono fun e W' ⟨he, bel⟩ => ?_
  subst he
  exact ⟨_, rfl, _, _, _, [], _, [], hW', trodAll_mk1 (shut_bool Try.underlying4 _), (trodAll_cons_mk (Below.trod laidOut (by kernel_rfl) (of_decide_eq_true (by kernel_rfl)) k0 bel lt0) (trodAll_cons_mk (Below.trod laidOut (by kernel_rfl) (of_decide_eq_true (by kernel_rfl)) k1 bel lt1) trodAll_mk0)), rfl, bel.frame _, fun h => by cases h⟩

theorem over : Rows.fnTotalPartsRow.holds Try.pinned (OpenSpec.ofChange Rows.fnTotalPartsSpec) :=
  OpenClaim.holds_of_wide 7 Try.f7 rfl rfl rfl rfl rfl rfl rfl ⟨rfl, rfl, rfl, rfl, rfl⟩ rfl rfl rfl rfl rfl (by kernel_rfl) Try.func7 (by kernel_rfl)
    (of_decide_eq_true (by kernel_rfl)) (by unfold Func.isWrapper; first | (rw [if_pos (by decide +kernel)]; kernel_rfl) | (rw [if_neg (by decide +kernel)]; exact ⟨rfl, rfl⟩))
    (fun os started H enc _ => lifted os started H enc)

/-- ████ THE STATEMENT ████ -/
theorem proved : Rows.FnTotalPartsSaid := over
#print axioms proved
end Go.Proofs.Ytkcbgeldnibjcab.fnTotalParts
