/- For every input, the law FnMean of the given statements returns true over the program at this commit, and its arguments read afterwards as before: no condition. -/
import Derived.Test.YtkcbgeldnibjcabRows
import Derived.Test.YtkcbgeldnibjcabLawR
import Derived.WalkKit
import Derived.ProofKit
import Derived.OpenShut
import Derived.ShutString
import Derived.ChangeOld
import Derived.Below
namespace Go.Proofs.Ytkcbgeldnibjcab.fnMean
open Go.ChangeShapes Go.WideShapes Go.ChangeAt Go.RowKit
open Go.ChangeMaps (open_string shut_string)
set_option linter.unusedVariables false

theorem own : ownKnob Try.prog.godebug = none := by kernel_rfl
theorem laidOut : laidOutB Try.prog = true := by kernel_rfl

/-- WHAT THE WALK IS TOLD OF A SLICE OF INTEGERS THAT CAME IN: it is nil; or it leads to a row of 'cap' cells, the numbers 'zs' (the first 'len' are its elements, the rest its spare room), each fitting its kind. -/
def IsRow (k : IntKind) (w : World) (a : Option Addr) (len cap : Nat) (zs : List Int) : Prop :=
  (a = none ∧ len = 0 ∧ cap = 0 ∧ zs = []) ∨
  ∃ x, a = some x ∧ len ≤ cap ∧ cap ≤ maxLen ∧ zs.length = cap ∧ (∀ i, i < zs.length → w.cell? (x.add i) = some (.int k (zs.getD i 0))) ∧ ∀ n ∈ zs, (Lit.int k n).wf = true

set_option maxRecDepth 100000 in
set_option maxHeartbeats 3200000 in
theorem walk (a0 : Option Addr) (len0 cap0 : Nat) (z0 : List Int) (w : World) (w0 : IsRow .u8 w a0 len0 cap0 z0) :
    Calls Try.prog 3 #[.slice a0 len0 cap0] w fun e w' => e = .returned (.bool true) ∧ Below w.heap.size w w' := by
  have hB := bytes_of w0
  by_cases hl : 1048576 < len0
  · have hdec : decide (1048576 < len0) = true := by simpa using hl
    go_enter Try.func3, Try.ntmps3
    go_wp2_with fail
    go_ret
    exact ⟨rfl, Below.refl _ _⟩
  have hdec : decide (1048576 < len0) = false := by simpa using hl
  have hm : len0 ≤ 1048576 := by omega
  go_enter Try.func3, Try.ntmps3
  go_wp2_with fail
  refine (DrawRecordMean_any hB).mono ?_
  rintro e wv1 ⟨v, u, l, a, t, b, rfl, rl, ra, hl2, ha1, t0, t1, b0, b1x, b1⟩
  clear w0 hB
  have S := St.start b1
  clear b1
  have R := Lib.hid (show Rec _ _ _ l a from ⟨rl, ra⟩)
  clear rl ra
  cases hb : meanOf l a t b with
  | none =>
    have HB := Lib.hid hb
    clear hb
    go_wp2_with fail
    refine (mean_no R.out HB.out).mono ?_
    rintro e wv2 ⟨rfl, b2⟩
    replace R := Lib.hid ((R.out.grow b2).alloc 0 0 27)
    replace S := (S.next b2).alloc 0 0
    clear b2
    have r := S.holds
    simp only [Holds, and_true] at r
    try simp only [World.size_alloc] at r
    go_wp2_with fail
    refine (meanS_no R.out HB.out).mono ?_
    rintro e wv3 ⟨rfl, b3⟩
    replace R := Lib.hid ((R.out.grow b3).alloc 0 0 27)
    replace S := (S.next b3).alloc 0 0
    clear b3
    clear r
    have r := S.holds
    simp only [Holds, and_true] at r
    try simp only [World.size_alloc] at r
    go_wp2_with fail
    go_ret
    exact ⟨by simp, S.below⟩
  | some r =>
    have HB := Lib.hid hb
    clear hb
    go_wp2_with fail
    refine (mean_yes R.out HB.out).mono ?_
    rintro e wv2 ⟨n, d, rfl, hf, hq, b2⟩
    replace R := Lib.hid ((R.out.grow b2).alloc n d 27)
    replace S := (S.next b2).alloc n d
    clear b2
    have r := S.holds
    simp only [Holds, and_true] at r
    try simp only [World.size_alloc] at r
    have HF := Lib.hid hf; have HQ := Lib.hid hq
    clear hf hq
    go_wp2_with fail
    refine (got_same (meanS_yes R.out HB.out) HF.out HQ.out).mono ?_
    rintro e wv3 ⟨rfl, b3⟩
    replace R := Lib.hid ((R.out.grow b3).alloc n d 27)
    replace S := (S.next b3).alloc n d
    clear b3
    clear r
    have r := S.holds
    simp only [Holds, and_true] at r
    try simp only [World.size_alloc] at r
    obtain ⟨r1, hb1, hr1, htb, hfit⟩ := meanOf_is HB.out
    obtain ⟨hr, hfit1, hv, ht0, _, hb3⟩ := bet_is hb1
    have HB1 := Lib.hid hb1; have HV := Lib.hid hv; have HR1 := Lib.hid hr1; have FT := Lib.hid hfit; have FT1 := Lib.hid hfit1; have HR := Lib.hid hr
    clear hv hr1 hfit hfit1 hr hb1
    have z1 : IntKind.i64.wrap (b - t) = b - t := IntWalk.i64_in _ (by omega)
    have FD := fv_int (k := b - t) (by omega) (by omega)
    have Y0 := r.2.1
    have Y1 := r.2.2.1
    go_upto_region 8 with fail
    generalize (wv3.alloc (.cells #[.int .i64 n, .int .i64 d] 27)) = W3 at S R Y0 Y1 r ⊢
    go_cut [11, 12] (fun s0 s1 wx => TwoMid (fv n d && fv (b - t) 1) (fq n d * fq (b - t) 1) W3 [] s0 s1 wx)
    case first =>
      have mkS : ∀ w' : World, Below W3.heap.size W3 w' → (Below W3.heap.size W3 w' ∧ w'.cell? ⟨wv2.heap.size, 0, none⟩ = some (.int .i64 n) ∧ w'.cell? ⟨wv2.heap.size, 1, none⟩ = some (.int .i64 d)) := fun w' b => ⟨b, (b.cell (cell_below Y0)).trans Y0, (b.cell (cell_below Y1)).trans Y1⟩
      have held : ∀ W w' : World, Below W.heap.size W w' → (Below W3.heap.size W3 W ∧ W.cell? ⟨wv2.heap.size, 0, none⟩ = some (.int .i64 n) ∧ W.cell? ⟨wv2.heap.size, 1, none⟩ = some (.int .i64 d)) → (Below W3.heap.size W3 w' ∧ w'.cell? ⟨wv2.heap.size, 0, none⟩ = some (.int .i64 n) ∧ w'.cell? ⟨wv2.heap.size, 1, none⟩ = some (.int .i64 d)) := fun W w' b h => mkS w' (h.1.trans (b.mono h.1.size))
      have heldSet : ∀ (W w' : World) (k' : Nat) (x y : Int), W3.heap.size ≤ k' → w' = (W.setCell ⟨k', 0, none⟩ (.int .i64 x)).setCell ⟨k', 1, none⟩ (.int .i64 y) → (Below W3.heap.size W3 W ∧ W.cell? ⟨wv2.heap.size, 0, none⟩ = some (.int .i64 n) ∧ W.cell? ⟨wv2.heap.size, 1, none⟩ = some (.int .i64 d)) → (Below W3.heap.size W3 w' ∧ w'.cell? ⟨wv2.heap.size, 0, none⟩ = some (.int .i64 n) ∧ w'.cell? ⟨wv2.heap.size, 1, none⟩ = some (.int .i64 d)) := fun W w' k' x y hk e h => by
        subst e
        exact mkS _ ((h.1.setCell (p := ⟨k', 0, none⟩) hk _).setCell (p := ⟨k', 1, none⟩) hk _)
      have keep0 := mkS _ (Below.refl W3.heap.size W3).drew
      have keepY := mkS _ ((Below.refl W3.heap.size W3).alloc (Nat.le_refl _) (.cells #[.int .i64 0, .int .i64 0] 27)).drew
      have atR := fun (W : World) (h : (Below W3.heap.size W3 W ∧ W.cell? ⟨wv2.heap.size, 0, none⟩ = some (.int .i64 n) ∧ W.cell? ⟨wv2.heap.size, 1, none⟩ = some (.int .i64 d))) => R.out.grow h.1
      have tok0 : True := trivial
      have tok1 : True := trivial
      go_region_held3 (fun w' => (Below W3.heap.size W3 w' ∧ w'.cell? ⟨wv2.heap.size, 0, none⟩ = some (.int .i64 n) ∧ w'.cell? ⟨wv2.heap.size, 1, none⟩ = some (.int .i64 d))) (first | exact keep0 | exact keepY | exact hs0 | exact hs1 | (have _q := hs0; exact held _ _ ((Below.refl _ _).alloc (Nat.le_refl _) _) hs0) | (have _q := hs1; exact held _ _ ((Below.refl _ _).alloc (Nat.le_refl _) _) hs1) | (have _q := hs1; exact heldSet _ _ _ _ _ (by omega) rfl hs1)) (first | (have _t := tok0; clear tok0 _t; go_at_call 16; refine (frac_any _ _).mono ?_; rintro e x0 ⟨rfl, b0⟩; have hs0 := held _ _ b0 (by assumption); have hz0 := hs0.1.size; (first | (have zz := top_two (u := .int .i64 0) (v := .int .i64 0) (t := 27) b0) | (have zz := top_two_drew (u := .int .i64 0) (v := .int .i64 0) (t := 27) b0) | (replace zz := later_two b0 zz) | (have zz := later_two (k := W3.heap.size) (u := .int .i64 0) (v := .int .i64 0) b0 ⟨by go_cell, by go_cell, by go_simp, by go_simp, by simp; omega⟩) | skip); (try simp only [World.size_alloc] at zz)) | (have _t := tok1; clear tok1 _t; go_at_call 15; refine (implFracMul_any _ _ _ _ _).mono ?_; rintro e x1 ⟨n5, d5, ok5, rfl, hr5, b1⟩; have hs1 := held _ _ b1 (by assumption); have hz1 := hs1.1.size; (first | (have zz := top_two (u := .int .i64 0) (v := .int .i64 0) (t := 27) b1) | (have zz := top_two_drew (u := .int .i64 0) (v := .int .i64 0) (t := 27) b1) | (replace zz := later_two b1 zz) | (have zz := later_two (k := W3.heap.size) (u := .int .i64 0) (v := .int .i64 0) b1 ⟨by go_cell, by go_cell, by go_simp, by go_simp, by simp; omega⟩) | skip); (try simp only [World.size_alloc] at zz)))
      all_goals
        clear keep0 keepY held heldSet
        have S5 : St W3 x1 [] := ⟨hs1.1, trivial⟩
        first
          | (
              fail_if_success (have q := zz)
              go_wp2
              go_meet
              exact TwoMid.mk hr5 (S5.alloc _ _))
          | (
              go_wp2
              go_meet
              exact TwoMid.mk hr5 (St.put2 (St.put zz S5) (by omega) (by simp only [Apart]) _ _))
    case rest =>
      revert hcut
      revert wc
      intro wv4 hcut
      obtain ⟨k4, n9, d9, ok, rfl, rfl, hr, S5⟩ := hcut
      replace R := Lib.hid (R.out.grow S5.below)
      replace S := S.more S5
      clear S5
      clear r
      have r := S.holds
      simp only [Holds, and_true] at r
      try simp only [World.size_alloc] at r
      have hV : fq n d * fq (b - t) 1 = r1 := by rw [HQ.out, HR1.out, fq_whole]; exact mean_back htb
      obtain ⟨rfl, hf9, hq9⟩ := res_got hr (by rw [HF.out, FD]; rfl) (by rw [hV]; exact FT1.out)
      have HF9 := Lib.hid hf9; have HQ9 := Lib.hid (hq9.trans hV)
      clear hf9 hq9 hr hV
      go_wp2_with fail
      refine (got_same (bet_yes R.out HB1.out) HF9.out HQ9.out).mono ?_
      rintro e wv5 ⟨rfl, b5⟩
      replace R := Lib.hid ((R.out.grow b5).alloc n9 d9 27)
      replace S := (S.next b5).alloc n9 d9
      clear b5
      clear r
      have r := S.holds
      simp only [Holds, and_true] at r
      try simp only [World.size_alloc] at r
      go_wp2_with fail
      go_ret
      exact ⟨by first | rfl | (simp; done) | (simp; omega), S.below⟩

set_option maxRecDepth 100000 in
theorem lifted (os : Os) (started : os.Started) (H : Type) (enc : TypeId × Value → H) :
    ReturnsInHanded {} Try.checked os 3 .any (Rows.fnMeanSpec.pre6 enc Try.prog Try.f3 Rows.fnMeanRow.domain false) (Rows.fnMeanSpec.post enc Try.prog Try.f3 false true false false) := by
  refine returnsInHanded_of_change (C := Try.checked) own started (by kernel_rfl) Try.func3
    (ChangeSpec.witness6 (enc := enc) (C := Try.checked) false ⟨#[], #[.slice none 0 0], []⟩ 8 (by kernel_rfl) (by kernel_rfl) (by kernel_rfl) (by kernel_rfl)) ?_
  intro W base args ds gs before hval0 hW hcnd _
  have hval : ∀ (j : Nat) t v, Try.f3.params[j]? = some t → args[j]? = some v → Value.okWide Try.prog W .any base t v := hval0
  have hW' := hW
  obtain ⟨p, q, hA0, hV, rfl, hfz, hnd⟩ := hW
  have hA : DataW.TrodAll enc Try.prog W 0 (fun _ => true) true Try.f3.params.toList args.toList ds p := hA0
  rw [Try.params3] at hA hval
  obtain ⟨v0, vs0, d0, ds0, p0, q0, hargs, rfl, rfl, h0, r0⟩ := trodAll_cons hA
  obtain ⟨rfl, rfl, rfl⟩ := trodAll_nil r0
  obtain rfl : args = #[v0] := by cases args; simp_all
  obtain ⟨rfl, rfl⟩ := trodVars_none hV
  obtain ⟨a0, len0, cap0, rfl⟩ := okWide_slice Try.underlying22 (hval 0 22 v0 rfl rfl)
  have k0 := h0
  have lt0 : ∀ x ∈ p0, x.block < W.heap.size := by obtain ⟨m, hm⟩ := k0; exact DataW.trod_lt m _ _ _ hm
  obtain ⟨z0, w0⟩ : ∃ zs, IsRow .u8 W a0 len0 cap0 zs := by
    obtain ⟨fuel, hf⟩ := h0
    rcases open_ints Try.underlying22 Try.underlying5 (by kernel_rfl) hf with ⟨hcs, _⟩ | ⟨x, l, c, zs, hcs, _, hl, hm, hz, _, hcell, hwz⟩
    · simp [Value.cells] at hcs
      obtain ⟨rfl, rfl, rfl⟩ := hcs
      exact ⟨[], .inl ⟨rfl, rfl, rfl, rfl⟩⟩
    · simp [Value.cells] at hcs
      obtain ⟨rfl, rfl, rfl⟩ := hcs
      exact ⟨zs, .inr ⟨_, rfl, hl, hm, by simpa using hz, hcell, hwz⟩⟩
  clear hA0 hval0
  refine (walk a0 len0 cap0 z0 W w0).mono fun e W' ⟨he, bel⟩ => ?_
  subst he
  exact ⟨_, rfl, _, _, _, [], _, [], hW', trodAll_mk1 (shut_bool Try.underlying4 _), (trodAll_cons_mk (Below.trod laidOut (by kernel_rfl) (of_decide_eq_true (by kernel_rfl)) k0 bel lt0) trodAll_mk0), rfl, bel.frame _, fun h => by cases h⟩

theorem over : Rows.fnMeanRow.holds Try.pinned (OpenSpec.ofChange Rows.fnMeanSpec) :=
  OpenClaim.holds_of_wide 3 Try.f3 rfl rfl rfl rfl rfl rfl rfl ⟨rfl, rfl, rfl, rfl, rfl⟩ rfl rfl rfl rfl rfl (by kernel_rfl) Try.func3 (by kernel_rfl)
    (of_decide_eq_true (by kernel_rfl)) (by unfold Func.isWrapper; first | (rw [if_pos (by decide +kernel)]; kernel_rfl) | (rw [if_neg (by decide +kernel)]; exact ⟨rfl, rfl⟩))
    (fun os started H enc _ => lifted os started H enc)

/-- ████ THE STATEMENT ████ -/
theorem proved : Rows.FnMeanSaid := over
#print axioms proved
end Go.Proofs.Ytkcbgeldnibjcab.fnMean
