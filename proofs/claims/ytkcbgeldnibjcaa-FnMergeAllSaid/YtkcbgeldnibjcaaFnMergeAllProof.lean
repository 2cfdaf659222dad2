/- For every input, the law FnMergeAll of the given statements returns true over the program at this commit, and its arguments read afterwards as before: no condition. -/
import Derived.Test.YtkcbgeldnibjcaaRows
import Derived.Test.YtkcbgeldnibjcaaLawM
import Derived.WalkKit
import Derived.ProofKit
import Derived.OpenShut
import Derived.ShutString
import Derived.ChangeOld
import Derived.Below
namespace Go.Proofs.Ytkcbgeldnibjcaa.fnMergeAll
open Go.ChangeShapes Go.WideShapes Go.ChangeAt Go.RowKit
open Go.ChangeMaps (open_string shut_string)
set_option linter.unusedVariables false

theorem own : ownKnob Try.prog.godebug = none := by kernel_rfl
theorem laidOut : laidOutB Try.prog = true := by kernel_rfl

/-- WHAT THE WALK IS TOLD OF A SLICE OF INTEGERS THAT CAME IN: it is nil; or it leads to a row of 'cap' cells, the numbers 'zs' (the first 'len' are its elements, the rest its spare room), each fitting its kind. -/
def IsRow (k : IntKind) (w : World) (a : Option Addr) (len cap : Nat) (zs : List Int) : Prop :=
  (a = none ∧ len = 0 ∧ cap = 0 ∧ zs = []) ∨
  ∃ x, a = some x ∧ len ≤ cap ∧ cap ≤ maxLen ∧ zs.length = cap ∧ (∀ i, i < zs.length → w.cell? (x.add i) = some (.int k (zs.getD i 0))) ∧ ∀ n ∈ zs, (Lit.int k n).wf = true

set_option maxRecDepth 100000 in
set_option maxHeartbeats 3200000 in
theorem walk (a0 : Option Addr) (len0 cap0 : Nat) (z0 : List Int) (w : World) (w0 : IsRow .u8 w a0 len0 cap0 z0) :
    Calls Try.prog 11 #[.slice a0 len0 cap0] w fun e w' => e = .returned (.bool true) ∧ Below w.heap.size w w' := by
  have hB := bytes_of w0
  by_cases hl : 1048576 < len0
  · have hdec : decide (1048576 < len0) = true := by simpa using hl
    go_enter Try.func11, Try.ntmps11
    go_wp2_with fail
    go_ret
    exact ⟨rfl, Below.refl _ _⟩
  have hdec : decide (1048576 < len0) = false := by simpa using hl
  have hm : len0 ≤ 1048576 := by omega
  go_enter Try.func11, Try.ntmps11
  go_wp2_with fail
  refine (DrawRecordMerge_any hB).mono ?_
  rintro e wv1 ⟨v, u, l, a, x, rfl, rl, ra, hl2, ha1, b1⟩
  clear w0 hB
  have S := St.start b1
  clear b1
  have R := Lib.hid (show Rec _ _ _ l a from ⟨rl, ra⟩)
  clear rl ra
  cases hc : mergeOf l a x with
  | none =>
    have HC := Lib.hid hc
    clear hc
    go_wp2_with fail
    refine (merge_no (implRecordMerge_any x R.out) HC.out).mono ?_
    rintro e wv2 ⟨v1, p1, rfl, r1, s1, b2⟩
    replace R := Lib.hid ((R.out.grow b2))
    replace S := (S.next b2)
    have R1 := Lib.hid r1
    clear r1
    clear b2
    have T1 := Lib.hid s1
    clear s1
    go_wp2_with fail
    refine (merge_no (specRecordMerge_any x R.out) HC.out).mono ?_
    rintro e wv3 ⟨v2, p2, rfl, r2, s2, b3⟩
    replace R := Lib.hid ((R.out.grow b3))
    replace R1 := Lib.hid ((R1.out.grow b3))
    replace T1 := Lib.hid ((T1.out.grow b3))
    replace S := (S.next b3)
    have R2 := Lib.hid r2
    clear r2
    clear b3
    have T2 := Lib.hid s2
    clear s2
    go_wp2_with fail
    refine (isame_yes R1.out R2.out rfl).mono ?_
    rintro e wv4 ⟨rfl, b4⟩
    replace R := Lib.hid ((R.out.grow b4))
    replace R1 := Lib.hid ((R1.out.grow b4))
    replace T1 := Lib.hid ((T1.out.grow b4))
    replace R2 := Lib.hid ((R2.out.grow b4))
    replace T2 := Lib.hid ((T2.out.grow b4))
    replace S := (S.next b4)
    clear b4
    go_wp2_with fail
    refine (isame_yes T1.out T2.out rfl).mono ?_
    rintro e wv5 ⟨rfl, b5⟩
    replace R := Lib.hid ((R.out.grow b5))
    replace R1 := Lib.hid ((R1.out.grow b5))
    replace T1 := Lib.hid ((T1.out.grow b5))
    replace R2 := Lib.hid ((R2.out.grow b5))
    replace T2 := Lib.hid ((T2.out.grow b5))
    replace S := (S.next b5)
    clear b5
    go_wp2_with fail
    refine (isame_yes R1.out R2.out rfl).mono ?_
    rintro e wv6 ⟨rfl, b6⟩
    replace R := Lib.hid ((R.out.grow b6))
    replace R1 := Lib.hid ((R1.out.grow b6))
    replace T1 := Lib.hid ((T1.out.grow b6))
    replace R2 := Lib.hid ((R2.out.grow b6))
    replace T2 := Lib.hid ((T2.out.grow b6))
    replace S := (S.next b6)
    clear b6
    go_wp2_with fail
    refine (isame_yes T1.out T2.out rfl).mono ?_
    rintro e wv7 ⟨rfl, b7⟩
    replace R := Lib.hid ((R.out.grow b7))
    replace R1 := Lib.hid ((R1.out.grow b7))
    replace T1 := Lib.hid ((T1.out.grow b7))
    replace R2 := Lib.hid ((R2.out.grow b7))
    replace T2 := Lib.hid ((T2.out.grow b7))
    replace S := (S.next b7)
    clear b7
    go_wp2_with fail
    go_ret
    exact ⟨by simp, S.below⟩
  | some pq =>
    obtain ⟨j, rfl, hv, hj, hs, rfl⟩ := mergeOf_is hc
    have HC := Lib.hid hc; have HV := Lib.hid hv; have HS := Lib.hid hs
    clear hc hv hs
    go_wp2_with fail
    refine (merge_yes (implRecordMerge_any (j : Int) R.out) HC.out).mono ?_
    rintro e wv2 ⟨v1, p1, rfl, r1, s1, b2⟩
    replace R := Lib.hid ((R.out.grow b2))
    replace S := (S.next b2)
    have R1 := Lib.hid r1
    clear r1
    clear b2
    have T1 := Lib.hid s1
    clear s1
    go_wp2_with fail
    refine (merge_yes (specRecordMerge_any (j : Int) R.out) HC.out).mono ?_
    rintro e wv3 ⟨v2, p2, rfl, r2, s2, b3⟩
    replace R := Lib.hid ((R.out.grow b3))
    replace R1 := Lib.hid ((R1.out.grow b3))
    replace T1 := Lib.hid ((T1.out.grow b3))
    replace S := (S.next b3)
    have R2 := Lib.hid r2
    clear r2
    clear b3
    have T2 := Lib.hid s2
    clear s2
    go_wp2_with fail
    refine (isame_yes R1.out R2.out rfl).mono ?_
    rintro e wv4 ⟨rfl, b4⟩
    replace R := Lib.hid ((R.out.grow b4))
    replace R1 := Lib.hid ((R1.out.grow b4))
    replace T1 := Lib.hid ((T1.out.grow b4))
    replace R2 := Lib.hid ((R2.out.grow b4))
    replace T2 := Lib.hid ((T2.out.grow b4))
    replace S := (S.next b4)
    clear b4
    go_wp2_with fail
    refine (isame_yes T1.out T2.out rfl).mono ?_
    rintro e wv5 ⟨rfl, b5⟩
    replace R := Lib.hid ((R.out.grow b5))
    replace R1 := Lib.hid ((R1.out.grow b5))
    replace T1 := Lib.hid ((T1.out.grow b5))
    replace R2 := Lib.hid ((R2.out.grow b5))
    replace T2 := Lib.hid ((T2.out.grow b5))
    replace S := (S.next b5)
    clear b5
    clear R2 T2
    obtain ⟨hL, ha0, ha20⟩ := rec_len HV.out
    obtain ⟨g, o, cp, rfl, hcap, hcapm⟩ := R.out.1.known (by omega)
    obtain ⟨g', o', cp', rfl, hcap', hcapm'⟩ := R.out.2.known (by omega)
    unfold maxLen at hcapm hcapm'
    rw [hL] at hcap
    rw [hL] at R
    rw [hL]
    have HL := Lib.hid hL
    have hl0 : 0 < l.length := by omega
    have hla : a.length < l.length := by omega
    clear hL
    have q0 : (0 : Int) < (a.length : Int) + 1 := by omega
    have q1 : 0 < a.length + 1 := by omega
    have q2 : IntKind.i64.wrap ((a.length : Int) + 1 - 1) = (a.length : Int) := by rw [show (a.length : Int) + 1 - 1 = a.length by omega]; exact IntWalk.i64_in _ (by omega)
    have q2' : IntKind.i64.wrap (a.length : Int) = (a.length : Int) := IntWalk.i64_in _ (by omega)
    have q3 : (0 : Int) ≤ (a.length : Int) := by omega
    have q4 : (a.length : Int) < (a.length : Int) + 1 := by omega
    have q5 : a.length < a.length + 1 := by omega
    have hjl : j + 2 ≤ l.length := by omega
    have HE : Hid ((mergedE l j).length = a.length) := Lib.hid (by rw [mergedE_length hjl]; have := HL.out; omega)
    obtain ⟨nb, hnb⟩ : ∃ nb : Nat, a.length = nb + 1 := ⟨a.length - 1, by omega⟩
    have HA : Hid ((mergedA a j).length = nb) := Lib.hid (by rw [mergedA_length hj]; omega)
    have HN := Lib.hid hnb
    have hnb1 : 1 ≤ nb := by omega
    have zq : IntKind.i64.wrap ((a.length : Int) - 1) = (nb : Int) := by rw [show (a.length : Int) - 1 = nb by omega]; exact IntWalk.i64_in _ (by omega)
    clear hnb
    obtain ⟨ge, oe, ce, rfl, hce, hcem⟩ := R1.out.known (by rw [HE.out]; omega)
    obtain ⟨gf, of, cf, rfl, hcf, hcfm⟩ := T1.out.known (by rw [HA.out]; omega)
    unfold maxLen at hcem hcfm
    rw [HE.out] at hce
    rw [HE.out] at R1
    rw [HE.out]
    rw [HA.out] at hcf
    rw [HA.out] at T1
    rw [HA.out]
    by_cases h2 : 2 < a.length
    · have d2 : decide ((2 : Int) < (a.length : Int)) = true := by simp; omega
      clear h2
      go_wp2_with fail
      go_ret
      exact ⟨by first | rfl | (simp; done) | (simp; omega), S.below⟩
    · have hn : a.length = 2 := by omega
      obtain rfl : j = 0 := by omega
      obtain ⟨e1, e2⟩ := merged_two HL.out hn
      have hl2' : 2 < l.length := by have := HL.out; omega
      have ha1' : 1 < a.length := by omega
      have ha0' : 0 < a.length := by omega
      have E1 : Hid (mergedE l 0 = [l[0]'hl0, l[2]'hl2']) := Lib.hid e1; have E2 : Hid (mergedA a 0 = [a[0]'ha0' + a[1]'ha1']) := Lib.hid e2
      have m0 := rec_amount HV.out 0 ha0'; have m1 := rec_amount HV.out 1 ha1'
      have z0 : IntKind.i64.wrap (a[0] + a[1]) = a[0] + a[1] := IntWalk.i64_in _ (by omega)
      have d2 : decide ((2 : Int) < (a.length : Int)) = false := by simp; omega
      have i0 : (0 : Int) < (a.length : Int) := by omega
      have i1 : (1 : Int) < (a.length : Int) := by omega
      have i2 : (2 : Int) < (a.length : Int) + 1 := by omega
      have i3 : 2 < a.length + 1 := by omega
      clear h2 hn e1 e2
      have f0 := R.out.1.cells 0 hl0
      have f2 := R.out.1.cells 2 hl2'
      have g0 := R.out.2.cells 0 ha0'
      have g1 := R.out.2.cells 1 ha1'
      simp only [Nat.add_zero] at f0 g0
      go_upto_region 10 with fail
      have mkS : ∀ w' : World, Below wv5.heap.size wv5 w' → (Below wv5.heap.size wv5 w' ∧ w'.cell? ⟨g, o, none⟩ = some (.int .i64 l[0]) ∧ w'.cell? ⟨g, o + 2, none⟩ = some (.int .i64 l[2]) ∧ w'.cell? ⟨g', o', none⟩ = some (.int .i64 a[0]) ∧ w'.cell? ⟨g', o' + 1, none⟩ = some (.int .i64 a[1])) := fun w' b => ⟨b, (b.cell (cell_below f0)).trans f0, (b.cell (cell_below f2)).trans f2, (b.cell (cell_below g0)).trans g0, (b.cell (cell_below g1)).trans g1⟩
      have held : ∀ W w' : World, Below W.heap.size W w' → (Below wv5.heap.size wv5 W ∧ W.cell? ⟨g, o, none⟩ = some (.int .i64 l[0]) ∧ W.cell? ⟨g, o + 2, none⟩ = some (.int .i64 l[2]) ∧ W.cell? ⟨g', o', none⟩ = some (.int .i64 a[0]) ∧ W.cell? ⟨g', o' + 1, none⟩ = some (.int .i64 a[1])) → (Below wv5.heap.size wv5 w' ∧ w'.cell? ⟨g, o, none⟩ = some (.int .i64 l[0]) ∧ w'.cell? ⟨g, o + 2, none⟩ = some (.int .i64 l[2]) ∧ w'.cell? ⟨g', o', none⟩ = some (.int .i64 a[0]) ∧ w'.cell? ⟨g', o' + 1, none⟩ = some (.int .i64 a[1])) := fun W w' b h => mkS w' (h.1.trans (b.mono h.1.size))
      have keep0 := mkS _ (Below.refl wv5.heap.size wv5).drew
      have atR := fun (W : World) (h : (Below wv5.heap.size wv5 W ∧ W.cell? ⟨g, o, none⟩ = some (.int .i64 l[0]) ∧ W.cell? ⟨g, o + 2, none⟩ = some (.int .i64 l[2]) ∧ W.cell? ⟨g', o', none⟩ = some (.int .i64 a[0]) ∧ W.cell? ⟨g', o' + 1, none⟩ = some (.int .i64 a[1]))) => R.out.grow h.1
      have atR1 := fun (W : World) (h : (Below wv5.heap.size wv5 W ∧ W.cell? ⟨g, o, none⟩ = some (.int .i64 l[0]) ∧ W.cell? ⟨g, o + 2, none⟩ = some (.int .i64 l[2]) ∧ W.cell? ⟨g', o', none⟩ = some (.int .i64 a[0]) ∧ W.cell? ⟨g', o' + 1, none⟩ = some (.int .i64 a[1]))) => R1.out.grow h.1
      have atT1 := fun (W : World) (h : (Below wv5.heap.size wv5 W ∧ W.cell? ⟨g, o, none⟩ = some (.int .i64 l[0]) ∧ W.cell? ⟨g, o + 2, none⟩ = some (.int .i64 l[2]) ∧ W.cell? ⟨g', o', none⟩ = some (.int .i64 a[0]) ∧ W.cell? ⟨g', o' + 1, none⟩ = some (.int .i64 a[1]))) => T1.out.grow h.1
      have tok0 : True := trivial
      have tok1 : True := trivial
      have keepA := fun (ob : Obj) => mkS _ ((Below.refl wv5.heap.size wv5).alloc (Nat.le_refl _) ob).drew
      go_region_held3 (fun w' => (Below wv5.heap.size wv5 w' ∧ w'.cell? ⟨g, o, none⟩ = some (.int .i64 l[0]) ∧ w'.cell? ⟨g, o + 2, none⟩ = some (.int .i64 l[2]) ∧ w'.cell? ⟨g', o', none⟩ = some (.int .i64 a[0]) ∧ w'.cell? ⟨g', o' + 1, none⟩ = some (.int .i64 a[1]))) (first | exact keep0 | exact hs0 | exact hs1 | (with_reducible exact keepA _) | (with_reducible exact held _ _ ((Below.refl _ _).alloc (Nat.le_refl _) _) keep0) | (with_reducible exact held _ _ ((Below.refl _ _).alloc (Nat.le_refl _) _) hs0) | (with_reducible exact held _ _ ((Below.refl _ _).alloc (Nat.le_refl _) _) hs1)) (first | (have _t := tok0; clear tok0 _t; go_at_call 34; refine (isame_yes (atR1 _ (by assumption)) (irow_two (by go_cell) (by go_cell)) E1.out).mono ?_; rintro e x0 ⟨rfl, b0⟩; have hs0 := held _ _ b0 (by assumption)) | (have _t := tok1; clear tok1 _t; go_at_call 34; refine (isame_yes (atT1 _ (by assumption)) (irow_one (by go_cell)) E2.out).mono ?_; rintro e wv6 ⟨rfl, b1⟩; have hs1 := held _ _ b1 (by assumption)))
      clear keepA
      have B9 := hs1.1
      replace R := Lib.hid (R.out.grow B9)
      replace R1 := Lib.hid (R1.out.grow B9)
      replace T1 := Lib.hid (T1.out.grow B9)
      replace S := S.next B9
      clear mkS held keep0 B9 atR atR1 atT1 hs0 b0 hs1 b1
      go_wp2_with fail
      go_ret
      exact ⟨by first | rfl | (simp; done) | (simp; omega), S.below⟩

set_option maxRecDepth 100000 in
theorem lifted (os : Os) (started : os.Started) (H : Type) (enc : TypeId × Value → H) :
    ReturnsInHanded {} Try.checked os 11 .any (Rows.fnMergeAllSpec.pre6 enc Try.prog Try.f11 Rows.fnMergeAllRow.domain false) (Rows.fnMergeAllSpec.post enc Try.prog Try.f11 false true false false) := by
  refine returnsInHanded_of_change (C := Try.checked) own started (by kernel_rfl) Try.func11
    (ChangeSpec.witness6 (enc := enc) (C := Try.checked) false ⟨#[], #[.slice none 0 0], []⟩ 8 (by kernel_rfl) (by kernel_rfl) (by kernel_rfl) (by kernel_rfl)) ?_
  intro W base args ds gs before hval0 hW hcnd _
  have hval : ∀ (j : Nat) t v, Try.f11.params[j]? = some t → args[j]? = some v → Value.okWide Try.prog W .any base t v := hval0
  have hW' := hW
  obtain ⟨p, q, hA0, hV, rfl, hfz, hnd⟩ := hW
  have hA : DataW.TrodAll enc Try.prog W 0 (fun _ => true) true Try.f11.params.toList args.toList ds p := hA0
  rw [Try.params11] at hA hval
  obtain ⟨v0, vs0, d0, ds0, p0, q0, hargs, rfl, rfl, h0, r0⟩ := trodAll_cons hA
  obtain ⟨rfl, rfl, rfl⟩ := trodAll_nil r0
  obtain rfl : args = #[v0] := by cases args; simp_all
  obtain ⟨rfl, rfl⟩ := trodVars_none hV
  obtain ⟨a0, len0, cap0, rfl⟩ := okWide_slice Try.underlying22 (hval 0 22 v0 rfl rfl)
  have k0 := h0
  have lt0 : ∀ x ∈ p0, x.block < W.heap.size := by obtain ⟨m, hm⟩ := k0; exact DataW.trod_lt m _ _ _ hm
  obtain ⟨z0, w0⟩ : ∃ zs, IsRow .u8 W a0 len0 cap0 zs := by
    obtain ⟨fuel, hf⟩ := h0
    rcases open_ints Try.underlying22 Try.underlying5 (by kernel_rfl) hf with ⟨hcs, _⟩ | ⟨x, l, c, zs, hcs, _, hl, hm, hz, _, hcell, hwz⟩
    · simp [Value.cells] at hcs
      obtain ⟨rfl, rfl, rfl⟩ := hcs
      exact ⟨[], .inl ⟨rfl, rfl, rfl, rfl⟩⟩
    · simp [Value.cells] at hcs
      obtain ⟨rfl, rfl, rfl⟩ := hcs
      exact ⟨zs, .inr ⟨_, rfl, hl, hm, by simpa using hz, hcell, hwz⟩⟩
  clear hA0 hval0
  refine (walk a0 len0 cap0 z0 W w0).mono fun e W' ⟨he, bel⟩ => ?_
  subst he
  exact ⟨_, rfl, _, _, _, [], _, [], hW', trodAll_mk1 (shut_bool Try.underlying4 _), (trodAll_cons_mk (Below.trod laidOut (by kernel_rfl) (of_decide_eq_true (by kernel_rfl)) k0 bel lt0) trodAll_mk0), rfl, bel.frame _, fun h => by cases h⟩

theorem over : Rows.fnMergeAllRow.holds Try.pinned (OpenSpec.ofChange Rows.fnMergeAllSpec) :=
  OpenClaim.holds_of_wide 11 Try.f11 rfl rfl rfl rfl rfl rfl rfl ⟨rfl, rfl, rfl, rfl, rfl⟩ rfl rfl rfl rfl rfl (by kernel_rfl) Try.func11 (by kernel_rfl)
    (of_decide_eq_true (by kernel_rfl)) (by unfold Func.isWrapper; first | (rw [if_pos (by decide +kernel)]; kernel_rfl) | (rw [if_neg (by decide +kernel)]; exact ⟨rfl, rfl⟩))
    (fun os started H enc _ => lifted os started H enc)

/-- ████ THE STATEMENT ████ -/
theorem proved : Rows.FnMergeAllSaid := over
#print axioms proved
end Go.Proofs.Ytkcbgeldnibjcaa.fnMergeAll
