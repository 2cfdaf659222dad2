/- For every input, the law FnRecordTotal of the given statements returns true over the program at this commit, and its arguments read afterwards as before: no condition. -/
import Derived.Test.YtkcbgeldnibjcaaRows
import Derived.Test.YtkcbgeldnibjcaaLawR
import Derived.WalkKit
import Derived.ProofKit
import Derived.OpenShut
import Derived.ShutString
import Derived.ChangeOld
import Derived.Below
namespace Go.Proofs.Ytkcbgeldnibjcaa.fnRecordTotal
open Go.ChangeShapes Go.WideShapes Go.ChangeAt Go.RowKit
open Go.ChangeMaps (open_string shut_string)
set_option linter.unusedVariables false

theorem own : ownKnob Try.prog.godebug = none := by kernel_rfl
theorem laidOut : laidOutB Try.prog = true := by kernel_rfl

/-- WHAT THE WALK IS TOLD OF A SLICE OF INTEGERS THAT CAME IN: it is nil; or it leads to a row of 'cap' cells, the numbers 'zs' (the first 'len' are its elements, the rest its spare room), each fitting its kind. -/
def IsRow (k : IntKind) (w : World) (a : Option Addr) (len cap : Nat) (zs : List Int) : Prop :=
  (a = none ∧ len = 0 ∧ cap = 0 ∧ zs = []) ∨
  ∃ x, a = some x ∧ len ≤ cap ∧ cap ≤ maxLen ∧ zs.length = cap ∧ (∀ i, i < zs.length → w.cell? (x.add i) = some (.int k (zs.getD i 0))) ∧ ∀ n ∈ zs, (Lit.int k n).wf = true

set_option maxRecDepth 100000 in
set_option maxHeartbeats 3200000 in
theorem walk (a0 : Option Addr) (len0 cap0 : Nat) (z0 : List Int) (w : World) (w0 : IsRow .u8 w a0 len0 cap0 z0) :
    Calls Try.prog 4 #[.slice a0 len0 cap0] w fun e w' => e = .returned (.bool true) ∧ Below w.heap.size w w' := by
  have hB := bytes_of w0
  by_cases hl : 1048576 < len0
  · have hdec : decide (1048576 < len0) = true := by simpa using hl
    go_enter Try.func4, Try.ntmps4
    go_wp2_with fail
    go_ret
    exact ⟨rfl, Below.refl _ _⟩
  have hdec : decide (1048576 < len0) = false := by simpa using hl
  have hm : len0 ≤ 1048576 := by omega
  go_enter Try.func4, Try.ntmps4
  go_wp2_with fail
  refine (DrawRecordTotal_any hB).mono ?_
  rintro e wv1 ⟨v, u, l, a, rfl, rl, ra, hl2, ha1, b1⟩
  clear w0 hB
  have S := St.start b1
  clear b1
  have R := Lib.hid (show Rec _ _ _ l a from ⟨rl, ra⟩)
  clear rl ra
  cases hv : isRec l a
  · have HT := Lib.hid (total_bad hv)
    clear hv
    go_wp2_with fail
    refine (total_is R.out HT.out).mono ?_
    rintro e wv2 ⟨rfl, b2⟩
    replace R := Lib.hid ((R.out.grow b2))
    replace S := (S.next b2)
    clear b2
    go_wp2_with fail
    refine (totalS_is R.out HT.out).mono ?_
    rintro e wv3 ⟨rfl, b3⟩
    replace R := Lib.hid ((R.out.grow b3))
    replace S := (S.next b3)
    clear b3
    go_wp2_with fail
    go_ret
    exact ⟨by first | rfl | (simp; done) | (simp; omega), S.below⟩
  · have HV := Lib.hid hv; have HT := Lib.hid (total_rec hv)
    obtain ⟨s0, s1⟩ := rec_sum hv
    obtain ⟨sm, hsm⟩ : ∃ x : Int, a.sum = x := ⟨_, rfl⟩
    rw [hsm] at HT s0 s1
    have SM := Lib.hid hsm
    clear hv hsm
    go_wp2_with fail
    refine (total_is R.out HT.out).mono ?_
    rintro e wv2 ⟨rfl, b2⟩
    replace R := Lib.hid ((R.out.grow b2))
    replace S := (S.next b2)
    clear b2
    go_wp2_with fail
    refine (totalS_is R.out HT.out).mono ?_
    rintro e wv3 ⟨rfl, b3⟩
    replace R := Lib.hid ((R.out.grow b3))
    replace S := (S.next b3)
    clear b3
    obtain ⟨hL, ha0, ha20⟩ := rec_len HV.out
    obtain ⟨g, o, cp, rfl, hcap, hcapm⟩ := R.out.1.known (by omega)
    obtain ⟨g', o', cp', rfl, hcap', hcapm'⟩ := R.out.2.known (by omega)
    unfold maxLen at hcapm hcapm'
    rw [hL] at hcap
    rw [hL] at R
    rw [hL]
    have HL := Lib.hid hL
    have hl0 : 0 < l.length := by omega
    have hla : a.length < l.length := by omega
    clear hL
    have q0 : (0 : Int) < (a.length : Int) + 1 := by omega
    have q1 : 0 < a.length + 1 := by omega
    have q2 : IntKind.i64.wrap ((a.length : Int) + 1 - 1) = (a.length : Int) := by rw [show (a.length : Int) + 1 - 1 = a.length by omega]; exact IntWalk.i64_in _ (by omega)
    have q2' : IntKind.i64.wrap (a.length : Int) = (a.length : Int) := IntWalk.i64_in _ (by omega)
    have q3 : (0 : Int) ≤ (a.length : Int) := by omega
    have q4 : (a.length : Int) < (a.length : Int) + 1 := by omega
    have q5 : a.length < a.length + 1 := by omega
    have BW : Hid (bet l a l[0] l[a.length] = some ((sm : Int) : Rat)) := Lib.hid (by rw [bet_whole' HV.out HL.out, SM.out])
    have f0 := R.out.1.cells 0 hl0
    simp only [Nat.add_zero] at f0
    have t9 := R.out.1.cells a.length hla
    go_upto_region 8 with fail
    go_cut [7, 8] (fun s0 s1 wx => TwoMid ((bet l a l[0] l[a.length]).isSome) ((bet l a l[0] l[a.length]).getD 0) wv3 [] s0 s1 wx)
    case first =>
      have mkS : ∀ w' : World, Below wv3.heap.size wv3 w' → (Below wv3.heap.size wv3 w' ∧ w'.cell? ⟨g, o, none⟩ = some (.int .i64 l[0]) ∧ w'.cell? ⟨g, o + a.length, none⟩ = some (.int .i64 l[a.length])) := fun w' b => ⟨b, (b.cell (cell_below f0)).trans f0, (b.cell (cell_below t9)).trans t9⟩
      have held : ∀ W w' : World, Below W.heap.size W w' → (Below wv3.heap.size wv3 W ∧ W.cell? ⟨g, o, none⟩ = some (.int .i64 l[0]) ∧ W.cell? ⟨g, o + a.length, none⟩ = some (.int .i64 l[a.length])) → (Below wv3.heap.size wv3 w' ∧ w'.cell? ⟨g, o, none⟩ = some (.int .i64 l[0]) ∧ w'.cell? ⟨g, o + a.length, none⟩ = some (.int .i64 l[a.length])) := fun W w' b h => mkS w' (h.1.trans (b.mono h.1.size))
      have heldSet : ∀ (W w' : World) (k' : Nat) (x y : Int), wv3.heap.size ≤ k' → w' = (W.setCell ⟨k', 0, none⟩ (.int .i64 x)).setCell ⟨k', 1, none⟩ (.int .i64 y) → (Below wv3.heap.size wv3 W ∧ W.cell? ⟨g, o, none⟩ = some (.int .i64 l[0]) ∧ W.cell? ⟨g, o + a.length, none⟩ = some (.int .i64 l[a.length])) → (Below wv3.heap.size wv3 w' ∧ w'.cell? ⟨g, o, none⟩ = some (.int .i64 l[0]) ∧ w'.cell? ⟨g, o + a.length, none⟩ = some (.int .i64 l[a.length])) := fun W w' k' x y hk e h => by
        subst e
        exact mkS _ ((h.1.setCell (p := ⟨k', 0, none⟩) hk _).setCell (p := ⟨k', 1, none⟩) hk _)
      have keep0 := mkS _ (Below.refl wv3.heap.size wv3).drew
      have keepY := mkS _ ((Below.refl wv3.heap.size wv3).alloc (Nat.le_refl _) (.cells #[.int .i64 0, .int .i64 0] 30)).drew
      have atR := fun (W : World) (h : (Below wv3.heap.size wv3 W ∧ W.cell? ⟨g, o, none⟩ = some (.int .i64 l[0]) ∧ W.cell? ⟨g, o + a.length, none⟩ = some (.int .i64 l[a.length]))) => R.out.grow h.1
      have tok0 : True := trivial
      go_region_held3 (fun w' => (Below wv3.heap.size wv3 w' ∧ w'.cell? ⟨g, o, none⟩ = some (.int .i64 l[0]) ∧ w'.cell? ⟨g, o + a.length, none⟩ = some (.int .i64 l[a.length]))) (first | exact keep0 | exact keepY | exact hs0 | (have _q := hs0; exact held _ _ ((Below.refl _ _).alloc (Nat.le_refl _) _) hs0) | (have _q := hs0; exact heldSet _ _ _ _ _ (by omega) rfl hs0)) (first | (go_at_call 18; refine (implRecordBetween_any _ _ (atR _ (by assumption))).mono ?_; rintro e x0 ⟨n5, d5, ok5, rfl, hr5, b0⟩; have hs0 := held _ _ b0 (by assumption); have hz0 := hs0.1.size; (first | (have zz := top_two (u := .int .i64 0) (v := .int .i64 0) (t := 30) b0) | (have zz := top_two_drew (u := .int .i64 0) (v := .int .i64 0) (t := 30) b0) | (replace zz := later_two b0 zz) | (have zz := later_two (k := wv3.heap.size) (u := .int .i64 0) (v := .int .i64 0) b0 ⟨by go_cell, by go_cell, by go_simp, by go_simp, by simp; omega⟩) | skip); (try simp only [World.size_alloc] at zz)))
      all_goals
        clear keep0 keepY held heldSet
        have S5 : St wv3 x0 [] := ⟨hs0.1, trivial⟩
        first
          | (
              fail_if_success (have q := zz)
              go_wp2
              go_meet
              exact TwoMid.mk hr5 (S5.alloc _ _))
          | (
              go_wp2
              go_meet
              exact TwoMid.mk hr5 (St.put2 (St.put zz S5) (by omega) (by simp only [Apart]) _ _))
    case rest =>
      revert hcut
      revert wc
      intro wv4 hcut
      obtain ⟨k4, n9, d9, ok, rfl, rfl, hr, S5⟩ := hcut
      replace R := Lib.hid (R.out.grow S5.below)
      replace S := S.more S5
      clear S5
      have r := S.holds
      simp only [Holds, and_true] at r
      try simp only [World.size_alloc] at r
      rw [BW.out] at hr
      have FS := fv_int (k := sm) (by omega) (by omega)
      obtain ⟨rfl, hf9, hq9⟩ := res_got hr rfl (fits_int (by omega) (by omega))
      obtain ⟨rfl, rfl⟩ := fq_inj hf9 FS (by rw [hq9, fq_whole]; rfl)
      clear hf9 hq9 hr f0 t9
      have Wc0 := r.1
      have Wc1 := r.2.1
      have SMR := fun (W : World) (h : IRow W (.slice (some ⟨g', o', none⟩) a.length cp') a) => by have := sumOf_any h (isRec_iff.1 HV.out).2.2 ha20; rw [SM.out] at this; exact this
      go_upto_region 9 with fail
      have mkS : ∀ w' : World, Below wv4.heap.size wv4 w' → (Below wv4.heap.size wv4 w' ∧ w'.cell? ⟨k4, 0, none⟩ = some (.int .i64 n9) ∧ w'.cell? ⟨k4, 1, none⟩ = some (.int .i64 1)) := fun w' b => ⟨b, (b.cell (cell_below Wc0)).trans Wc0, (b.cell (cell_below Wc1)).trans Wc1⟩
      have held : ∀ W w' : World, Below W.heap.size W w' → (Below wv4.heap.size wv4 W ∧ W.cell? ⟨k4, 0, none⟩ = some (.int .i64 n9) ∧ W.cell? ⟨k4, 1, none⟩ = some (.int .i64 1)) → (Below wv4.heap.size wv4 w' ∧ w'.cell? ⟨k4, 0, none⟩ = some (.int .i64 n9) ∧ w'.cell? ⟨k4, 1, none⟩ = some (.int .i64 1)) := fun W w' b h => mkS w' (h.1.trans (b.mono h.1.size))
      have keep0 := mkS _ (Below.refl wv4.heap.size wv4).drew
      have atR := fun (W : World) (h : (Below wv4.heap.size wv4 W ∧ W.cell? ⟨k4, 0, none⟩ = some (.int .i64 n9) ∧ W.cell? ⟨k4, 1, none⟩ = some (.int .i64 1))) => R.out.grow h.1
      have tok0 : True := trivial
      have tok1 : True := trivial
      go_region_held3 (fun w' => (Below wv4.heap.size wv4 w' ∧ w'.cell? ⟨k4, 0, none⟩ = some (.int .i64 n9) ∧ w'.cell? ⟨k4, 1, none⟩ = some (.int .i64 1))) (first | exact keep0 | exact hs0 | exact hs1) (first | (have _t := tok0; clear tok0 _t; go_at_call 19; refine (SMR _ (atR _ (by assumption)).2).mono ?_; rintro e x0 ⟨rfl, b0⟩; have hs0 := held _ _ b0 (by assumption)) | (have _t := tok1; clear tok1 _t; go_at_call 20; refine (frac_any _ _).mono ?_; rintro e wv5 ⟨rfl, b1⟩; have hs1 := held _ _ b1 (by assumption)))
      have B9 := hs1.1
      replace R := Lib.hid (R.out.grow B9)
      replace S := S.next B9
      clear mkS held keep0 B9 atR hs0 b0 hs1 b1
      clear r
      have r := S.holds
      simp only [Holds, and_true] at r
      try simp only [World.size_alloc] at r
      go_wp2_with fail
      go_ret
      exact ⟨by first | rfl | (simp; done) | (simp; omega), S.below⟩

set_option maxRecDepth 100000 in
theorem lifted (os : Os) (started : os.Started) (H : Type) (enc : TypeId × Value → H) :
    ReturnsInHanded {} Try.checked os 4 .any (Rows.fnRecordTotalSpec.pre6 enc Try.prog Try.f4 Rows.fnRecordTotalRow.domain false) (Rows.fnRecordTotalSpec.post enc Try.prog Try.f4 false true false false) := by
  refine returnsInHanded_of_change (C := Try.checked) own started (by kernel_rfl) Try.func4
    (ChangeSpec.witness6 (enc := enc) (C := Try.checked) false ⟨#[], #[.slice none 0 0], []⟩ 8 (by kernel_rfl) (by kernel_rfl) (by kernel_rfl) (by kernel_rfl)) ?_
  intro W base args ds gs before hval0 hW hcnd _
  have hval : ∀ (j : Nat) t v, Try.f4.params[j]? = some t → args[j]? = some v → Value.okWide Try.prog W .any base t v := hval0
  have hW' := hW
  obtain ⟨p, q, hA0, hV, rfl, hfz, hnd⟩ := hW
  have hA : DataW.TrodAll enc Try.prog W 0 (fun _ => true) true Try.f4.params.toList args.toList ds p := hA0
  rw [Try.params4] at hA hval
  obtain ⟨v0, vs0, d0, ds0, p0, q0, hargs, rfl, rfl, h0, r0⟩ := trodAll_cons hA
  obtain ⟨rfl, rfl, rfl⟩ := trodAll_nil r0
  obtain rfl : args = #[v0] := by cases args; simp_all
  obtain ⟨rfl, rfl⟩ := trodVars_none hV
  obtain ⟨a0, len0, cap0, rfl⟩ := okWide_slice Try.underlying22 (hval 0 22 v0 rfl rfl)
  have k0 := h0
  have lt0 : ∀ x ∈ p0, x.block < W.heap.size := by obtain ⟨m, hm⟩ := k0; exact DataW.trod_lt m _ _ _ hm
  obtain ⟨z0, w0⟩ : ∃ zs, IsRow .u8 W a0 len0 cap0 zs := by
    obtain ⟨fuel, hf⟩ := h0
    rcases open_ints Try.underlying22 Try.underlying5 (by kernel_rfl) hf with ⟨hcs, _⟩ | ⟨x, l, c, zs, hcs, _, hl, hm, hz, _, hcell, hwz⟩
    · simp [Value.cells] at hcs
      obtain ⟨rfl, rfl, rfl⟩ := hcs
      exact ⟨[], .inl ⟨rfl, rfl, rfl, rfl⟩⟩
    · simp [Value.cells] at hcs
      obtain ⟨rfl, rfl, rfl⟩ := hcs
      exact ⟨zs, .inr ⟨_, rfl, hl, hm, by simpa using hz, hcell, hwz⟩⟩
  clear hA0 hval0
  refine (walk a0 len0 cap0 z0 W w0).mono fun e W' ⟨he, bel⟩ => ?_
  subst he
  exact ⟨_, rfl, _, _, _, [], _, [], hW', trodAll_mk1 (shut_bool Try.underlying4 _), (trodAll_cons_mk (Below.trod laidOut (by kernel_rfl) (of_decide_eq_true (by kernel_rfl)) k0 bel lt0) trodAll_mk0), rfl, bel.frame _, fun h => by cases h⟩

theorem over : Rows.fnRecordTotalRow.holds Try.pinned (OpenSpec.ofChange Rows.fnRecordTotalSpec) :=
  OpenClaim.holds_of_wide 4 Try.f4 rfl rfl rfl rfl rfl rfl rfl ⟨rfl, rfl, rfl, rfl, rfl⟩ rfl rfl rfl rfl rfl (by kernel_rfl) Try.func4 (by kernel_rfl)
    (of_decide_eq_true (by kernel_rfl)) (by unfold Func.isWrapper; first | (rw [if_pos (by decide +kernel)]; kernel_rfl) | (rw [if_neg (by decide +kernel)]; exact ⟨rfl, rfl⟩))
    (fun os started H enc _ => lifted os started H enc)

/-- ████ THE STATEMENT ████ -/
theorem proved : Rows.FnRecordTotalSaid := over
#print axioms proved
end Go.Proofs.Ytkcbgeldnibjcaa.fnRecordTotal
