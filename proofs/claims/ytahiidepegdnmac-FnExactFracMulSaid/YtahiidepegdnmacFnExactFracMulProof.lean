/- For every input, the law FnExactFracMul of the given statements returns true over the program at this commit, and its arguments read afterwards as before: no condition. -/
import Derived.Test.YtahiidepegdnmacRows
import Derived.Test.YtahiidepegdnmacFracSpec
import Derived.Test.YtahiidepegdnmacFracOps
import Derived.Test.YtahiidepegdnmacTopCut
import Derived.WalkKit
import Derived.ProofKit
import Derived.OpenShut
import Derived.ShutString
import Derived.Lib.SmallJoins
namespace Go.Proofs.Ytahiidepegdnmac.fnExactFracMul
open Go.ChangeShapes Go.WideShapes Go.ChangeAt Go.RowKit
open Go.ChangeMaps (open_string shut_string)
set_option linter.unusedVariables false

theorem own : ownKnob Try.prog.godebug = none := by kernel_rfl
theorem cells23 : Try.prog.cellsOf 23 = 2 := by kernel_rfl

set_option maxHeartbeats 8000000 in
theorem walk (a0f0 a0f1 : Int) (w0f0 : (Lit.int .i64 a0f0).wf = true) (w0f1 : (Lit.int .i64 a0f1).wf = true) (a1f0 a1f1 : Int) (w1f0 : (Lit.int .i64 a1f0).wf = true) (w1f1 : (Lit.int .i64 a1f1).wf = true) (w : World) :
    Calls Try.prog 7 #[.agg #[.int .i64 a0f0, .int .i64 a0f1], .agg #[.int .i64 a1f0, .int .i64 a1f1]] w fun e w' => e = .returned (.bool true) ∧ Below w.heap.size w w' := by
  go_enter Try.func7, Try.ntmps7
  go_upto_region 1 with fail
  have S := ((St.start (Below.refl w.heap.size w)).alloc' a0f0 a0f1 23).alloc' a1f0 a1f1 23
  go_cut [5, 6] (fun s5 s6 wx => TwoMid (fv a0f0 a0f1 && fv a1f0 a1f1) (fq a0f0 a0f1 * fq a1f0 a1f1) w [((w.heap.size + 1), a1f0, a1f1), (w.heap.size, a0f0, a0f1)] s5 s6 wx)
  case first =>
    have held : ∀ W w' : World, Below W.heap.size W w' → ((W.cell? ⟨(w.heap.size + 1), 0, none⟩ = some (.int .i64 a1f0) ∧ W.cell? ⟨(w.heap.size + 1), 1, none⟩ = some (.int .i64 a1f1) ∧ W.frozen? ⟨(w.heap.size + 1), 0, none⟩ = false ∧ W.frozen? ⟨(w.heap.size + 1), 1, none⟩ = false ∧ (w.heap.size + 1) < W.heap.size) ∧ (W.cell? ⟨w.heap.size, 0, none⟩ = some (.int .i64 a0f0) ∧ W.cell? ⟨w.heap.size, 1, none⟩ = some (.int .i64 a0f1) ∧ W.frozen? ⟨w.heap.size, 0, none⟩ = false ∧ W.frozen? ⟨w.heap.size, 1, none⟩ = false ∧ w.heap.size < W.heap.size)) ∧ Below w.heap.size w W → ((w'.cell? ⟨(w.heap.size + 1), 0, none⟩ = some (.int .i64 a1f0) ∧ w'.cell? ⟨(w.heap.size + 1), 1, none⟩ = some (.int .i64 a1f1) ∧ w'.frozen? ⟨(w.heap.size + 1), 0, none⟩ = false ∧ w'.frozen? ⟨(w.heap.size + 1), 1, none⟩ = false ∧ (w.heap.size + 1) < w'.heap.size) ∧ (w'.cell? ⟨w.heap.size, 0, none⟩ = some (.int .i64 a0f0) ∧ w'.cell? ⟨w.heap.size, 1, none⟩ = some (.int .i64 a0f1) ∧ w'.frozen? ⟨w.heap.size, 0, none⟩ = false ∧ w'.frozen? ⟨w.heap.size, 1, none⟩ = false ∧ w.heap.size < w'.heap.size)) ∧ Below w.heap.size w w' := by
      intro W w' hb5 h
      have s : St w w' [((w.heap.size + 1), a1f0, a1f1), (w.heap.size, a0f0, a0f1)] := St.next ⟨h.2, by simp only [Holds, and_true]; exact h.1⟩ hb5
      have r := s.holds
      simp only [Holds, and_true] at r
      exact ⟨r, s.below⟩
    have Sd := S.drew
    have r0 := Sd.holds
    have B0 := Sd.below
    simp only [Holds, and_true] at r0
    try simp only [World.size_alloc] at r0
    have keep0 := And.intro r0 B0
    clear r0 B0 Sd
    have SA := (S.alloc 0 0).drew
    have rY := SA.holds.2
    simp only [Holds, and_true] at rY
    try simp only [World.size_alloc] at rY
    have keepY := And.intro rY SA.below
    clear rY SA S
    have heldSet : ∀ (W w' : World) (k' : Nat) (x y : Int), ((w.heap.size + 1) ≠ k' ∧ w.heap.size ≠ k') ∧ w.heap.size ≤ k' → w' = (W.setCell ⟨k', 0, none⟩ (.int .i64 x)).setCell ⟨k', 1, none⟩ (.int .i64 y) → ((W.cell? ⟨(w.heap.size + 1), 0, none⟩ = some (.int .i64 a1f0) ∧ W.cell? ⟨(w.heap.size + 1), 1, none⟩ = some (.int .i64 a1f1) ∧ W.frozen? ⟨(w.heap.size + 1), 0, none⟩ = false ∧ W.frozen? ⟨(w.heap.size + 1), 1, none⟩ = false ∧ (w.heap.size + 1) < W.heap.size) ∧ (W.cell? ⟨w.heap.size, 0, none⟩ = some (.int .i64 a0f0) ∧ W.cell? ⟨w.heap.size, 1, none⟩ = some (.int .i64 a0f1) ∧ W.frozen? ⟨w.heap.size, 0, none⟩ = false ∧ W.frozen? ⟨w.heap.size, 1, none⟩ = false ∧ w.heap.size < W.heap.size)) ∧ Below w.heap.size w W → ((w'.cell? ⟨(w.heap.size + 1), 0, none⟩ = some (.int .i64 a1f0) ∧ w'.cell? ⟨(w.heap.size + 1), 1, none⟩ = some (.int .i64 a1f1) ∧ w'.frozen? ⟨(w.heap.size + 1), 0, none⟩ = false ∧ w'.frozen? ⟨(w.heap.size + 1), 1, none⟩ = false ∧ (w.heap.size + 1) < w'.heap.size) ∧ (w'.cell? ⟨w.heap.size, 0, none⟩ = some (.int .i64 a0f0) ∧ w'.cell? ⟨w.heap.size, 1, none⟩ = some (.int .i64 a0f1) ∧ w'.frozen? ⟨w.heap.size, 0, none⟩ = false ∧ w'.frozen? ⟨w.heap.size, 1, none⟩ = false ∧ w.heap.size < w'.heap.size)) ∧ Below w.heap.size w w' := by
      intro W w' k' x y hk e h
      subst e
      have s : Holds W [((w.heap.size + 1), a1f0, a1f1), (w.heap.size, a0f0, a0f1)] := by simp only [Holds, and_true]; exact h.1
      have r := s.put (.int .i64 x) (.int .i64 y) (k := k') (by simp only [Apart, and_true]; omega)
      simp only [Holds, and_true] at r
      exact ⟨r, (h.2.setCell (p := ⟨k', 0, none⟩) hk.2 _).setCell (p := ⟨k', 1, none⟩) hk.2 _⟩
    have tok : True := trivial
    go_region_held3 (fun w' => ((w'.cell? ⟨(w.heap.size + 1), 0, none⟩ = some (.int .i64 a1f0) ∧ w'.cell? ⟨(w.heap.size + 1), 1, none⟩ = some (.int .i64 a1f1) ∧ w'.frozen? ⟨(w.heap.size + 1), 0, none⟩ = false ∧ w'.frozen? ⟨(w.heap.size + 1), 1, none⟩ = false ∧ (w.heap.size + 1) < w'.heap.size) ∧ (w'.cell? ⟨w.heap.size, 0, none⟩ = some (.int .i64 a0f0) ∧ w'.cell? ⟨w.heap.size, 1, none⟩ = some (.int .i64 a0f1) ∧ w'.frozen? ⟨w.heap.size, 0, none⟩ = false ∧ w'.frozen? ⟨w.heap.size, 1, none⟩ = false ∧ w.heap.size < w'.heap.size)) ∧ Below w.heap.size w w') (first | exact keep0 | exact hs2 | exact hs4 | exact hs3 | exact keepY | (have _q := hs2; exact held _ _ ((Below.refl _ _).alloc (Nat.le_refl _) _) hs2) | (have _q := hs4; exact held _ _ ((Below.refl _ _).alloc (Nat.le_refl _) _) hs4) | (have _q := hs3; exact held _ _ ((Below.refl _ _).alloc (Nat.le_refl _) _) hs3) | (have _q := hs3; exact heldSet _ _ _ _ _ (by omega) rfl hs3)) (first | (have _t := tok; clear tok _t; go_at_call 12; refine (toFrac_any _ _ _).mono ?_; rintro e w2 ⟨rfl, b2⟩; have hs2 := held _ _ b2 (by assumption); have l2 := hs2.1.1.2.2.2.2; have m2 := hs2.1.2.2.2.2.2; (first | (have zz := top_two (u := .int .i64 0) (v := .int .i64 0) (t := 25) b2) | (have zz := top_two_drew (u := .int .i64 0) (v := .int .i64 0) (t := 25) b2) | (replace zz := later_two b2 zz) | skip); (try simp only [World.size_alloc] at zz)) | (go_at_call 12; refine (toFrac_any _ _ _).mono ?_; rintro e w4 ⟨rfl, b4⟩; have hs4 := held _ _ b4 (by assumption); have l4 := hs4.1.1.2.2.2.2; have m4 := hs4.1.2.2.2.2.2; (first | (have zz := top_two (u := .int .i64 0) (v := .int .i64 0) (t := 25) b4) | (have zz := top_two_drew (u := .int .i64 0) (v := .int .i64 0) (t := 25) b4) | (replace zz := later_two b4 zz) | skip); (try simp only [World.size_alloc] at zz)) | (go_at_call 21; refine (specFracMul_any _ _ _ _ _).mono ?_; rintro e w3 ⟨n, m, ok, rfl, hr3, b3⟩; have hs3 := held _ _ b3 (by assumption); have l3 := hs3.1.1.2.2.2.2; have m3 := hs3.1.2.2.2.2.2; (first | (have zz := top_two (u := .int .i64 0) (v := .int .i64 0) (t := 25) b3) | (have zz := top_two_drew (u := .int .i64 0) (v := .int .i64 0) (t := 25) b3) | (replace zz := later_two b3 zz) | skip); (try simp only [World.size_alloc] at zz)))
    all_goals
      clear keep0 keepY held heldSet
      have S5 : St w w3 [((w.heap.size + 1), a1f0, a1f1), (w.heap.size, a0f0, a0f1)] := ⟨hs3.2, by simp only [Holds, and_true]; exact hs3.1⟩
      first
        | (
            fail_if_success (have q := zz)
            go_wp2
            go_meet
            exact TwoMid.mk hr3 (S5.alloc _ _))
        | (
            go_wp2
            go_meet
            exact TwoMid.mk hr3 (St.put2 (St.put zz S5) (by omega) (by simp only [Apart, and_true]; omega) _ _))
  case rest =>
    obtain ⟨k, n, m, ok, rfl, rfl, hr, S⟩ := hcut
    go_upto_region 2 with fail
    have rr := S.holds
    simp only [Holds, and_true] at rr
    have hk := rr.1.2.2.2.2
    have hk2 := rr.2.1.2.2.2.2
    clear rr
    go_cut [7, 8] (fun s7 s8 wx => TwoMid (fv a0f0 a0f1 && fv a1f0 a1f1) (fq a0f0 a0f1 * fq a1f0 a1f1) w [(k, n, m), ((w.heap.size + 1), a1f0, a1f1), (w.heap.size, a0f0, a0f1)] s7 s8 wx)
    case first =>
      have held : ∀ W w' : World, Below W.heap.size W w' → ((W.cell? ⟨k, 0, none⟩ = some (.int .i64 n) ∧ W.cell? ⟨k, 1, none⟩ = some (.int .i64 m) ∧ W.frozen? ⟨k, 0, none⟩ = false ∧ W.frozen? ⟨k, 1, none⟩ = false ∧ k < W.heap.size) ∧ (W.cell? ⟨(w.heap.size + 1), 0, none⟩ = some (.int .i64 a1f0) ∧ W.cell? ⟨(w.heap.size + 1), 1, none⟩ = some (.int .i64 a1f1) ∧ W.frozen? ⟨(w.heap.size + 1), 0, none⟩ = false ∧ W.frozen? ⟨(w.heap.size + 1), 1, none⟩ = false ∧ (w.heap.size + 1) < W.heap.size) ∧ (W.cell? ⟨w.heap.size, 0, none⟩ = some (.int .i64 a0f0) ∧ W.cell? ⟨w.heap.size, 1, none⟩ = some (.int .i64 a0f1) ∧ W.frozen? ⟨w.heap.size, 0, none⟩ = false ∧ W.frozen? ⟨w.heap.size, 1, none⟩ = false ∧ w.heap.size < W.heap.size)) ∧ Below w.heap.size w W → ((w'.cell? ⟨k, 0, none⟩ = some (.int .i64 n) ∧ w'.cell? ⟨k, 1, none⟩ = some (.int .i64 m) ∧ w'.frozen? ⟨k, 0, none⟩ = false ∧ w'.frozen? ⟨k, 1, none⟩ = false ∧ k < w'.heap.size) ∧ (w'.cell? ⟨(w.heap.size + 1), 0, none⟩ = some (.int .i64 a1f0) ∧ w'.cell? ⟨(w.heap.size + 1), 1, none⟩ = some (.int .i64 a1f1) ∧ w'.frozen? ⟨(w.heap.size + 1), 0, none⟩ = false ∧ w'.frozen? ⟨(w.heap.size + 1), 1, none⟩ = false ∧ (w.heap.size + 1) < w'.heap.size) ∧ (w'.cell? ⟨w.heap.size, 0, none⟩ = some (.int .i64 a0f0) ∧ w'.cell? ⟨w.heap.size, 1, none⟩ = some (.int .i64 a0f1) ∧ w'.frozen? ⟨w.heap.size, 0, none⟩ = false ∧ w'.frozen? ⟨w.heap.size, 1, none⟩ = false ∧ w.heap.size < w'.heap.size)) ∧ Below w.heap.size w w' := by
        intro W w' hb5 h
        have s : St w w' [(k, n, m), ((w.heap.size + 1), a1f0, a1f1), (w.heap.size, a0f0, a0f1)] := St.next ⟨h.2, by simp only [Holds, and_true]; exact h.1⟩ hb5
        have r := s.holds
        simp only [Holds, and_true] at r
        exact ⟨r, s.below⟩
      have Sd := S.drew
      have r0 := Sd.holds
      have B0 := Sd.below
      simp only [Holds, and_true] at r0
      try simp only [World.size_alloc] at r0
      have keep0 := And.intro r0 B0
      clear r0 B0 Sd
      have SA := (S.alloc 0 0).drew
      have rY := SA.holds.2
      simp only [Holds, and_true] at rY
      try simp only [World.size_alloc] at rY
      have keepY := And.intro rY SA.below
      clear rY SA S
      have heldSet : ∀ (W w' : World) (k' : Nat) (x y : Int), (k ≠ k' ∧ (w.heap.size + 1) ≠ k' ∧ w.heap.size ≠ k') ∧ w.heap.size ≤ k' → w' = (W.setCell ⟨k', 0, none⟩ (.int .i64 x)).setCell ⟨k', 1, none⟩ (.int .i64 y) → ((W.cell? ⟨k, 0, none⟩ = some (.int .i64 n) ∧ W.cell? ⟨k, 1, none⟩ = some (.int .i64 m) ∧ W.frozen? ⟨k, 0, none⟩ = false ∧ W.frozen? ⟨k, 1, none⟩ = false ∧ k < W.heap.size) ∧ (W.cell? ⟨(w.heap.size + 1), 0, none⟩ = some (.int .i64 a1f0) ∧ W.cell? ⟨(w.heap.size + 1), 1, none⟩ = some (.int .i64 a1f1) ∧ W.frozen? ⟨(w.heap.size + 1), 0, none⟩ = false ∧ W.frozen? ⟨(w.heap.size + 1), 1, none⟩ = false ∧ (w.heap.size + 1) < W.heap.size) ∧ (W.cell? ⟨w.heap.size, 0, none⟩ = some (.int .i64 a0f0) ∧ W.cell? ⟨w.heap.size, 1, none⟩ = some (.int .i64 a0f1) ∧ W.frozen? ⟨w.heap.size, 0, none⟩ = false ∧ W.frozen? ⟨w.heap.size, 1, none⟩ = false ∧ w.heap.size < W.heap.size)) ∧ Below w.heap.size w W → ((w'.cell? ⟨k, 0, none⟩ = some (.int .i64 n) ∧ w'.cell? ⟨k, 1, none⟩ = some (.int .i64 m) ∧ w'.frozen? ⟨k, 0, none⟩ = false ∧ w'.frozen? ⟨k, 1, none⟩ = false ∧ k < w'.heap.size) ∧ (w'.cell? ⟨(w.heap.size + 1), 0, none⟩ = some (.int .i64 a1f0) ∧ w'.cell? ⟨(w.heap.size + 1), 1, none⟩ = some (.int .i64 a1f1) ∧ w'.frozen? ⟨(w.heap.size + 1), 0, none⟩ = false ∧ w'.frozen? ⟨(w.heap.size + 1), 1, none⟩ = false ∧ (w.heap.size + 1) < w'.heap.size) ∧ (w'.cell? ⟨w.heap.size, 0, none⟩ = some (.int .i64 a0f0) ∧ w'.cell? ⟨w.heap.size, 1, none⟩ = some (.int .i64 a0f1) ∧ w'.frozen? ⟨w.heap.size, 0, none⟩ = false ∧ w'.frozen? ⟨w.heap.size, 1, none⟩ = false ∧ w.heap.size < w'.heap.size)) ∧ Below w.heap.size w w' := by
        intro W w' k' x y hk e h
        subst e
        have s : Holds W [(k, n, m), ((w.heap.size + 1), a1f0, a1f1), (w.heap.size, a0f0, a0f1)] := by simp only [Holds, and_true]; exact h.1
        have r := s.put (.int .i64 x) (.int .i64 y) (k := k') (by simp only [Apart, and_true]; omega)
        simp only [Holds, and_true] at r
        exact ⟨r, (h.2.setCell (p := ⟨k', 0, none⟩) hk.2 _).setCell (p := ⟨k', 1, none⟩) hk.2 _⟩
      have tok : True := trivial
      go_region_held3 (fun w' => ((w'.cell? ⟨k, 0, none⟩ = some (.int .i64 n) ∧ w'.cell? ⟨k, 1, none⟩ = some (.int .i64 m) ∧ w'.frozen? ⟨k, 0, none⟩ = false ∧ w'.frozen? ⟨k, 1, none⟩ = false ∧ k < w'.heap.size) ∧ (w'.cell? ⟨(w.heap.size + 1), 0, none⟩ = some (.int .i64 a1f0) ∧ w'.cell? ⟨(w.heap.size + 1), 1, none⟩ = some (.int .i64 a1f1) ∧ w'.frozen? ⟨(w.heap.size + 1), 0, none⟩ = false ∧ w'.frozen? ⟨(w.heap.size + 1), 1, none⟩ = false ∧ (w.heap.size + 1) < w'.heap.size) ∧ (w'.cell? ⟨w.heap.size, 0, none⟩ = some (.int .i64 a0f0) ∧ w'.cell? ⟨w.heap.size, 1, none⟩ = some (.int .i64 a0f1) ∧ w'.frozen? ⟨w.heap.size, 0, none⟩ = false ∧ w'.frozen? ⟨w.heap.size, 1, none⟩ = false ∧ w.heap.size < w'.heap.size)) ∧ Below w.heap.size w w') (first | exact keep0 | exact hs2 | exact hs4 | exact hs3 | exact keepY | (have _q := hs2; exact held _ _ ((Below.refl _ _).alloc (Nat.le_refl _) _) hs2) | (have _q := hs4; exact held _ _ ((Below.refl _ _).alloc (Nat.le_refl _) _) hs4) | (have _q := hs3; exact held _ _ ((Below.refl _ _).alloc (Nat.le_refl _) _) hs3) | (have _q := hs3; exact heldSet _ _ _ _ _ (by omega) rfl hs3)) (first | (have _t := tok; clear tok _t; go_at_call 12; refine (toFrac_any _ _ _).mono ?_; rintro e w2 ⟨rfl, b2⟩; have hs2 := held _ _ b2 (by assumption); have l2 := hs2.1.1.2.2.2.2; have m2 := hs2.1.2.1.2.2.2.2; (first | (have zz := top_two (u := .int .i64 0) (v := .int .i64 0) (t := 25) b2) | (have zz := top_two_drew (u := .int .i64 0) (v := .int .i64 0) (t := 25) b2) | (replace zz := later_two b2 zz) | skip); (try simp only [World.size_alloc] at zz)) | (go_at_call 12; refine (toFrac_any _ _ _).mono ?_; rintro e w4 ⟨rfl, b4⟩; have hs4 := held _ _ b4 (by assumption); have l4 := hs4.1.1.2.2.2.2; have m4 := hs4.1.2.1.2.2.2.2; (first | (have zz := top_two (u := .int .i64 0) (v := .int .i64 0) (t := 25) b4) | (have zz := top_two_drew (u := .int .i64 0) (v := .int .i64 0) (t := 25) b4) | (replace zz := later_two b4 zz) | skip); (try simp only [World.size_alloc] at zz)) | (go_at_call 22; refine (implFracMul_any _ _ _ _ _).mono ?_; rintro e w3 ⟨n', m', ok', rfl, hr3, b3⟩; have hs3 := held _ _ b3 (by assumption); have l3 := hs3.1.1.2.2.2.2; have m3 := hs3.1.2.1.2.2.2.2; (first | (have zz := top_two (u := .int .i64 0) (v := .int .i64 0) (t := 25) b3) | (have zz := top_two_drew (u := .int .i64 0) (v := .int .i64 0) (t := 25) b3) | (replace zz := later_two b3 zz) | skip); (try simp only [World.size_alloc] at zz)))
      all_goals
        clear keep0 keepY held heldSet
        have S5 : St w w3 [(k, n, m), ((w.heap.size + 1), a1f0, a1f1), (w.heap.size, a0f0, a0f1)] := ⟨hs3.2, by simp only [Holds, and_true]; exact hs3.1⟩
        first
          | (
              fail_if_success (have q := zz)
              go_wp2
              go_meet
              exact TwoMid.mk hr3 (S5.alloc _ _))
          | (
              go_wp2
              go_meet
              exact TwoMid.mk hr3 (St.put2 (St.put zz S5) (by omega) (by simp only [Apart, and_true]; omega) _ _))
    case rest =>
      obtain ⟨k', n', m', ok', rfl, rfl, hr', S⟩ := hcut
      obtain ⟨rfl, rfl, rfl⟩ := hr.same hr'
      have rr := S.holds
      simp only [Holds, and_true] at rr
      go_wp2_with fail
      refine (eqFrac_any _ _ _ _ _).mono ?_
      rintro e w8 ⟨rfl, b8⟩
      go_wp2_with fail
      go_ret
      exact ⟨by first | rfl | simp, (S.next b8).below⟩

set_option maxRecDepth 100000 in
theorem lifted (os : Os) (started : os.Started) (H : Type) (enc : TypeId × Value → H) :
    ReturnsInHanded {} Try.checked os 7 .any (Rows.fnExactFracMulSpec.pre6 enc Try.prog Try.f7 Rows.fnExactFracMulRow.domain false) (Rows.fnExactFracMulSpec.post enc Try.prog Try.f7 false true false false) := by
  refine returnsInHanded_of_change (C := Try.checked) own started (by kernel_rfl) Try.func7
    (ChangeSpec.witness6 (enc := enc) (C := Try.checked) false ⟨#[], #[.agg #[.int .i64 0, .int .i64 0], .agg #[.int .i64 0, .int .i64 0]], []⟩ 8 (by kernel_rfl) (by kernel_rfl) (by kernel_rfl) (by kernel_rfl)) ?_
  intro W base args ds gs before hval0 hW hcnd _
  have hval : ∀ (j : Nat) t v, Try.f7.params[j]? = some t → args[j]? = some v → Value.okWide Try.prog W .any base t v := hval0
  have hW' := hW
  obtain ⟨p, q, hA0, hV, rfl, hfz, hnd⟩ := hW
  have hA : DataW.TrodAll enc Try.prog W 0 (fun _ => true) true Try.f7.params.toList args.toList ds p := hA0
  rw [Try.params7] at hA hval
  obtain ⟨v0, vs0, d0, ds0, p0, q0, hargs, rfl, rfl, h0, r0⟩ := trodAll_cons hA
  obtain ⟨v1, vs1, d1, ds1, p1, q1, rfl, rfl, rfl, h1, r1⟩ := trodAll_cons r0
  obtain ⟨rfl, rfl, rfl⟩ := trodAll_nil r1
  obtain rfl : args = #[v0, v1] := by cases args; simp_all
  obtain ⟨rfl, rfl⟩ := trodVars_none hV
  obtain ⟨c0, c1, y0, y1, m, rfl, rfl, rfl, hy0, hy1⟩ := Go.Joins.open_agg2 Try.underlying23 (by kernel_rfl) cells23 (hval 0 23 v0 rfl rfl) h0
  obtain ⟨a0f0, e0, rfl, w0f0⟩ := DataW.trod_int Try.underlying3 hy0
  obtain ⟨a0f1, e1, rfl, w0f1⟩ := DataW.trod_int Try.underlying3 hy1
  simp at e0 e1
  subst e0 e1
  obtain ⟨c0, c1, y0, y1, m, rfl, rfl, rfl, hy0, hy1⟩ := Go.Joins.open_agg2 Try.underlying23 (by kernel_rfl) cells23 (hval 1 23 v1 rfl rfl) h1
  obtain ⟨a1f0, e0, rfl, w1f0⟩ := DataW.trod_int Try.underlying3 hy0
  obtain ⟨a1f1, e1, rfl, w1f1⟩ := DataW.trod_int Try.underlying3 hy1
  simp at e0 e1
  subst e0 e1
  clear hA0 hval0
  simp only [List.append_nil] at hW'
  refine (walk a0f0 a0f1 w0f0 w0f1 a1f0 a1f1 w1f0 w1f1 W).mono fun e W' ⟨he, hg⟩ => ?_
  subst he
  exact ⟨_, rfl, _, _, _, [], [], [], hW', (trodAll_cons_mk (shut_bool Try.underlying4 _) trodAll_mk0), (trodAll_cons_mk (Go.Joins.shut_agg2 (y0 := (.lit (.int .i64 a0f0), [])) (y1 := (.lit (.int .i64 a0f1), [])) Try.underlying23 (by kernel_rfl) cells23 ⟨1, by simp [DataW.trod, Try.underlying3, w0f0]⟩ ⟨1, by simp [DataW.trod, Try.underlying3, w0f1]⟩) (trodAll_cons_mk (Go.Joins.shut_agg2 (y0 := (.lit (.int .i64 a1f0), [])) (y1 := (.lit (.int .i64 a1f1), [])) Try.underlying23 (by kernel_rfl) cells23 ⟨1, by simp [DataW.trod, Try.underlying3, w1f0]⟩ ⟨1, by simp [DataW.trod, Try.underlying3, w1f1]⟩) trodAll_mk0)), rfl, hg.frame _, fun h => by cases h⟩

theorem over : Rows.fnExactFracMulRow.holds Try.pinned (OpenSpec.ofChange Rows.fnExactFracMulSpec) :=
  OpenClaim.holds_of_wide 7 Try.f7 rfl rfl rfl rfl rfl rfl rfl ⟨rfl, rfl, rfl, rfl, rfl⟩ rfl rfl rfl rfl rfl (by kernel_rfl) Try.func7 (by kernel_rfl)
    (of_decide_eq_true (by kernel_rfl)) (by unfold Func.isWrapper; first | (rw [if_pos (by decide +kernel)]; kernel_rfl) | (rw [if_neg (by decide +kernel)]; exact ⟨rfl, rfl⟩))
    (fun os started H enc _ => lifted os started H enc)

/-- The statement. -/
theorem proved : Rows.FnExactFracMulSaid :=
  over
#print axioms proved
end Go.Proofs.Ytahiidepegdnmac.fnExactFracMul
