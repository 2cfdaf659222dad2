/- For every input, the law FnFracAddNone of the given statements returns true over the program at this commit, and its arguments read afterwards as before: no condition. -/
import Derived.Test.YtahiidepegdnmabRows
import Derived.Test.YtahiidepegdnmabFracOps
import Derived.Test.YtahiidepegdnmabFracSpec
import Derived.Test.YtahiidepegdnmabFracDraws
import Derived.Test.YtahiidepegdnmabTopCut
import Derived.WalkKit
import Derived.ProofKit
import Derived.OpenShut
import Derived.ShutString
import Derived.ChangeOld
import Derived.Below
namespace Go.Proofs.Ytahiidepegdnmab.fnFracAddNone
open Go.ChangeShapes Go.WideShapes Go.ChangeAt Go.RowKit
open Go.ChangeMaps (open_string shut_string)
set_option linter.unusedVariables false

theorem own : ownKnob Try.prog.godebug = none := by kernel_rfl
theorem laidOut : laidOutB Try.prog = true := by kernel_rfl

/-- WHAT THE WALK IS TOLD OF A SLICE OF INTEGERS THAT CAME IN: it is nil; or it leads to a row of 'cap' cells, the numbers 'zs' (the first 'len' are its elements, the rest its spare room), each fitting its kind. -/
def IsRow (k : IntKind) (w : World) (a : Option Addr) (len cap : Nat) (zs : List Int) : Prop :=
  (a = none ∧ len = 0 ∧ cap = 0 ∧ zs = []) ∨
  ∃ x, a = some x ∧ len ≤ cap ∧ cap ≤ maxLen ∧ zs.length = cap ∧ (∀ i, i < zs.length → w.cell? (x.add i) = some (.int k (zs.getD i 0))) ∧ ∀ n ∈ zs, (Lit.int k n).wf = true

set_option maxHeartbeats 16000000 in
theorem walk (a0 : Option Addr) (len0 cap0 : Nat) (z0 : List Int) (w : World) (w0 : IsRow .u8 w a0 len0 cap0 z0) :
    Calls Try.prog 6 #[.slice a0 len0 cap0] w fun e w' => e = .returned (.bool true) ∧ Below w.heap.size w w' := by
  have hB := bytes_of w0
  by_cases hl : 1048576 < len0
  · go_enter Try.func6, Try.ntmps6
    go_wp2_with fail
    go_ret
    exact ⟨rfl, Below.refl _ _⟩
  · have hm : len0 ≤ 1048576 := by omega
    go_enter Try.func6, Try.ntmps6
    go_wp2_with fail
    refine (DrawFracAdd_any hB).mono ?_
    rintro e w1 ⟨a, b, c, d, rfl, ha, hc, b1⟩
    clear w0 hB
    have S := ((St.start b1).alloc a b).alloc c d
    go_wp2_with fail
    refine (implFracAdd_any _ _ _ _ _).mono ?_
    rintro e w2 ⟨n, m, ok, rfl, hr, b2⟩
    replace S := S.next b2
    have r2 := S.holds
    (simp only [Holds, and_true] at r2; try simp only [World.size_alloc] at r2)
    go_wp2_with fail
    refine (specFracAdd_any _ _ _ _ _).mono ?_
    rintro e w3 ⟨n', m', ok', rfl, hr', b3⟩
    obtain ⟨rfl, rfl, rfl⟩ := hr.same hr'
    replace S := (S.alloc n' m').next b3
    have r3 := S.holds
    (simp only [Holds, and_true] at r3; try simp only [World.size_alloc] at r3)
    clear r2 hr'
    rcases hr with ⟨rfl, hv, hf, hq⟩ | ⟨rfl, rfl, rfl, hn⟩
    rotate_left
    · go_wp2_with fail
      go_ret
      exact ⟨rfl, (by first | exact S.below | exact (S.alloc _ _).below | exact ((S.alloc _ _).alloc _ _).below | exact (((S.alloc _ _).alloc _ _).alloc _ _).below)⟩
    replace S := S.alloc n' m'
    have fa : fv a b = true := by simp at hv; exact hv.1
    have fc : fv c d = true := by simp at hv; exact hv.2
    have hz := Lib.hid fq_none
    have hn := fq_below fc
    have hl := fq_lt hf fa
    have hx : n' * b < a * m' ↔ c < 0 := by rw [hn, hl, hq]; grind
    have hx' := Lib.hid hx
    have hq' := Lib.hid hq
    clear hn hl hx hq
    have s3 := S.below.size
    simp only [World.size_alloc] at s3
    go_upto_region 8 with fail
    go_cut [9, 10] (fun s9 s10 wx => TwoMid (fv n' m' && fv 0 1) (fq n' m' + fq 0 1) w [(w3.heap.size, n', m'), (w2.heap.size, n', m'), ((w1.heap.size + 1), c, d), (w1.heap.size, a, b)] s9 s10 wx)
    case first =>
      have held : ∀ W w' : World, Below W.heap.size W w' → ((W.cell? ⟨w3.heap.size, 0, none⟩ = some (.int .i64 n') ∧ W.cell? ⟨w3.heap.size, 1, none⟩ = some (.int .i64 m') ∧ W.frozen? ⟨w3.heap.size, 0, none⟩ = false ∧ W.frozen? ⟨w3.heap.size, 1, none⟩ = false ∧ w3.heap.size < W.heap.size) ∧ (W.cell? ⟨w2.heap.size, 0, none⟩ = some (.int .i64 n') ∧ W.cell? ⟨w2.heap.size, 1, none⟩ = some (.int .i64 m') ∧ W.frozen? ⟨w2.heap.size, 0, none⟩ = false ∧ W.frozen? ⟨w2.heap.size, 1, none⟩ = false ∧ w2.heap.size < W.heap.size) ∧ (W.cell? ⟨(w1.heap.size + 1), 0, none⟩ = some (.int .i64 c) ∧ W.cell? ⟨(w1.heap.size + 1), 1, none⟩ = some (.int .i64 d) ∧ W.frozen? ⟨(w1.heap.size + 1), 0, none⟩ = false ∧ W.frozen? ⟨(w1.heap.size + 1), 1, none⟩ = false ∧ (w1.heap.size + 1) < W.heap.size) ∧ (W.cell? ⟨w1.heap.size, 0, none⟩ = some (.int .i64 a) ∧ W.cell? ⟨w1.heap.size, 1, none⟩ = some (.int .i64 b) ∧ W.frozen? ⟨w1.heap.size, 0, none⟩ = false ∧ W.frozen? ⟨w1.heap.size, 1, none⟩ = false ∧ w1.heap.size < W.heap.size)) ∧ Below w.heap.size w W → ((w'.cell? ⟨w3.heap.size, 0, none⟩ = some (.int .i64 n') ∧ w'.cell? ⟨w3.heap.size, 1, none⟩ = some (.int .i64 m') ∧ w'.frozen? ⟨w3.heap.size, 0, none⟩ = false ∧ w'.frozen? ⟨w3.heap.size, 1, none⟩ = false ∧ w3.heap.size < w'.heap.size) ∧ (w'.cell? ⟨w2.heap.size, 0, none⟩ = some (.int .i64 n') ∧ w'.cell? ⟨w2.heap.size, 1, none⟩ = some (.int .i64 m') ∧ w'.frozen? ⟨w2.heap.size, 0, none⟩ = false ∧ w'.frozen? ⟨w2.heap.size, 1, none⟩ = false ∧ w2.heap.size < w'.heap.size) ∧ (w'.cell? ⟨(w1.heap.size + 1), 0, none⟩ = some (.int .i64 c) ∧ w'.cell? ⟨(w1.heap.size + 1), 1, none⟩ = some (.int .i64 d) ∧ w'.frozen? ⟨(w1.heap.size + 1), 0, none⟩ = false ∧ w'.frozen? ⟨(w1.heap.size + 1), 1, none⟩ = false ∧ (w1.heap.size + 1) < w'.heap.size) ∧ (w'.cell? ⟨w1.heap.size, 0, none⟩ = some (.int .i64 a) ∧ w'.cell? ⟨w1.heap.size, 1, none⟩ = some (.int .i64 b) ∧ w'.frozen? ⟨w1.heap.size, 0, none⟩ = false ∧ w'.frozen? ⟨w1.heap.size, 1, none⟩ = false ∧ w1.heap.size < w'.heap.size)) ∧ Below w.heap.size w w' := by
        intro W w' hb5 h
        have s : St w w' [(w3.heap.size, n', m'), (w2.heap.size, n', m'), ((w1.heap.size + 1), c, d), (w1.heap.size, a, b)] := St.next ⟨h.2, by simp only [Holds, and_true]; exact h.1⟩ hb5
        have r := s.holds
        simp only [Holds, and_true] at r
        exact ⟨r, s.below⟩
      have Sd := S.drew
      have r0 := Sd.holds
      have B0 := Sd.below
      simp only [Holds, and_true] at r0
      try simp only [World.size_alloc] at r0
      have keep0 := And.intro r0 B0
      clear r0 B0 Sd
      have SA := (S.alloc 0 0).drew
      have rY := SA.holds.2
      simp only [Holds, and_true] at rY
      try simp only [World.size_alloc] at rY
      have keepY := And.intro rY SA.below
      clear rY SA S
      have heldSet : ∀ (W w' : World) (k' : Nat) (x y : Int), (w3.heap.size ≠ k' ∧ w2.heap.size ≠ k' ∧ (w1.heap.size + 1) ≠ k' ∧ w1.heap.size ≠ k') ∧ w.heap.size ≤ k' → w' = (W.setCell ⟨k', 0, none⟩ (.int .i64 x)).setCell ⟨k', 1, none⟩ (.int .i64 y) → ((W.cell? ⟨w3.heap.size, 0, none⟩ = some (.int .i64 n') ∧ W.cell? ⟨w3.heap.size, 1, none⟩ = some (.int .i64 m') ∧ W.frozen? ⟨w3.heap.size, 0, none⟩ = false ∧ W.frozen? ⟨w3.heap.size, 1, none⟩ = false ∧ w3.heap.size < W.heap.size) ∧ (W.cell? ⟨w2.heap.size, 0, none⟩ = some (.int .i64 n') ∧ W.cell? ⟨w2.heap.size, 1, none⟩ = some (.int .i64 m') ∧ W.frozen? ⟨w2.heap.size, 0, none⟩ = false ∧ W.frozen? ⟨w2.heap.size, 1, none⟩ = false ∧ w2.heap.size < W.heap.size) ∧ (W.cell? ⟨(w1.heap.size + 1), 0, none⟩ = some (.int .i64 c) ∧ W.cell? ⟨(w1.heap.size + 1), 1, none⟩ = some (.int .i64 d) ∧ W.frozen? ⟨(w1.heap.size + 1), 0, none⟩ = false ∧ W.frozen? ⟨(w1.heap.size + 1), 1, none⟩ = false ∧ (w1.heap.size + 1) < W.heap.size) ∧ (W.cell? ⟨w1.heap.size, 0, none⟩ = some (.int .i64 a) ∧ W.cell? ⟨w1.heap.size, 1, none⟩ = some (.int .i64 b) ∧ W.frozen? ⟨w1.heap.size, 0, none⟩ = false ∧ W.frozen? ⟨w1.heap.size, 1, none⟩ = false ∧ w1.heap.size < W.heap.size)) ∧ Below w.heap.size w W → ((w'.cell? ⟨w3.heap.size, 0, none⟩ = some (.int .i64 n') ∧ w'.cell? ⟨w3.heap.size, 1, none⟩ = some (.int .i64 m') ∧ w'.frozen? ⟨w3.heap.size, 0, none⟩ = false ∧ w'.frozen? ⟨w3.heap.size, 1, none⟩ = false ∧ w3.heap.size < w'.heap.size) ∧ (w'.cell? ⟨w2.heap.size, 0, none⟩ = some (.int .i64 n') ∧ w'.cell? ⟨w2.heap.size, 1, none⟩ = some (.int .i64 m') ∧ w'.frozen? ⟨w2.heap.size, 0, none⟩ = false ∧ w'.frozen? ⟨w2.heap.size, 1, none⟩ = false ∧ w2.heap.size < w'.heap.size) ∧ (w'.cell? ⟨(w1.heap.size + 1), 0, none⟩ = some (.int .i64 c) ∧ w'.cell? ⟨(w1.heap.size + 1), 1, none⟩ = some (.int .i64 d) ∧ w'.frozen? ⟨(w1.heap.size + 1), 0, none⟩ = false ∧ w'.frozen? ⟨(w1.heap.size + 1), 1, none⟩ = false ∧ (w1.heap.size + 1) < w'.heap.size) ∧ (w'.cell? ⟨w1.heap.size, 0, none⟩ = some (.int .i64 a) ∧ w'.cell? ⟨w1.heap.size, 1, none⟩ = some (.int .i64 b) ∧ w'.frozen? ⟨w1.heap.size, 0, none⟩ = false ∧ w'.frozen? ⟨w1.heap.size, 1, none⟩ = false ∧ w1.heap.size < w'.heap.size)) ∧ Below w.heap.size w w' := by
        intro W w' k' x y hk e h
        subst e
        have s : Holds W [(w3.heap.size, n', m'), (w2.heap.size, n', m'), ((w1.heap.size + 1), c, d), (w1.heap.size, a, b)] := by simp only [Holds, and_true]; exact h.1
        have r := s.put (.int .i64 x) (.int .i64 y) (k := k') (by simp only [Apart, and_true]; omega)
        simp only [Holds, and_true] at r
        exact ⟨r, (h.2.setCell (p := ⟨k', 0, none⟩) hk.2 _).setCell (p := ⟨k', 1, none⟩) hk.2 _⟩
      go_region_held3 (fun w' => ((w'.cell? ⟨w3.heap.size, 0, none⟩ = some (.int .i64 n') ∧ w'.cell? ⟨w3.heap.size, 1, none⟩ = some (.int .i64 m') ∧ w'.frozen? ⟨w3.heap.size, 0, none⟩ = false ∧ w'.frozen? ⟨w3.heap.size, 1, none⟩ = false ∧ w3.heap.size < w'.heap.size) ∧ (w'.cell? ⟨w2.heap.size, 0, none⟩ = some (.int .i64 n') ∧ w'.cell? ⟨w2.heap.size, 1, none⟩ = some (.int .i64 m') ∧ w'.frozen? ⟨w2.heap.size, 0, none⟩ = false ∧ w'.frozen? ⟨w2.heap.size, 1, none⟩ = false ∧ w2.heap.size < w'.heap.size) ∧ (w'.cell? ⟨(w1.heap.size + 1), 0, none⟩ = some (.int .i64 c) ∧ w'.cell? ⟨(w1.heap.size + 1), 1, none⟩ = some (.int .i64 d) ∧ w'.frozen? ⟨(w1.heap.size + 1), 0, none⟩ = false ∧ w'.frozen? ⟨(w1.heap.size + 1), 1, none⟩ = false ∧ (w1.heap.size + 1) < w'.heap.size) ∧ (w'.cell? ⟨w1.heap.size, 0, none⟩ = some (.int .i64 a) ∧ w'.cell? ⟨w1.heap.size, 1, none⟩ = some (.int .i64 b) ∧ w'.frozen? ⟨w1.heap.size, 0, none⟩ = false ∧ w'.frozen? ⟨w1.heap.size, 1, none⟩ = false ∧ w1.heap.size < w'.heap.size)) ∧ Below w.heap.size w w') (first | exact keep0 | exact keepY | exact hs0 | exact hs1 | (have _q := hs0; exact held _ _ ((Below.refl _ _).alloc (Nat.le_refl _) _) hs0) | (have _q := hs1; exact held _ _ ((Below.refl _ _).alloc (Nat.le_refl _) _) hs1) | (have _q := hs1; exact heldSet _ _ _ _ _ (by omega) rfl hs1)) (first | (go_at_call 23; refine (frac_any _ _).mono ?_; rintro e x0 ⟨rfl, b0⟩; have hs0 := held _ _ b0 (by assumption); have hs0l0 := hs0.1.1.2.2.2.2; have hs0l1 := hs0.1.2.1.2.2.2.2; have hs0l2 := hs0.1.2.2.1.2.2.2.2; have hs0l3 := hs0.1.2.2.2.2.2.2.2; (first | (have zz := top_two (u := .int .i64 0) (v := .int .i64 0) (t := 24) b0) | (have zz := top_two_drew (u := .int .i64 0) (v := .int .i64 0) (t := 24) b0) | (replace zz := later_two b0 zz) | skip); (try simp only [World.size_alloc] at zz)) | (go_at_call 21; refine (implFracAdd_any _ _ _ _ _).mono ?_; rintro e x1 ⟨n5, m5, ok5, rfl, hr5, b1⟩; have hs1 := held _ _ b1 (by assumption); have hs1l0 := hs1.1.1.2.2.2.2; have hs1l1 := hs1.1.2.1.2.2.2.2; have hs1l2 := hs1.1.2.2.1.2.2.2.2; have hs1l3 := hs1.1.2.2.2.2.2.2.2; (first | (have zz := top_two (u := .int .i64 0) (v := .int .i64 0) (t := 24) b1) | (have zz := top_two_drew (u := .int .i64 0) (v := .int .i64 0) (t := 24) b1) | (replace zz := later_two b1 zz) | skip); (try simp only [World.size_alloc] at zz)))
      all_goals
        clear keep0 keepY held heldSet
        have S5 : St w x1 [(w3.heap.size, n', m'), (w2.heap.size, n', m'), ((w1.heap.size + 1), c, d), (w1.heap.size, a, b)] := ⟨hs1.2, by simp only [Holds, and_true]; exact hs1.1⟩
        first
          | (
              fail_if_success (have q := zz)
              go_wp2
              go_meet
              exact TwoMid.mk hr5 (S5.alloc _ _))
          | (
              go_wp2
              go_meet
              exact TwoMid.mk hr5 (St.put2 (St.put zz S5) (by omega) (by simp only [Apart, and_true]; omega) _ _))
    case rest =>
      obtain ⟨k, n5, m5, ok5, rfl, rfl, hr5, S⟩ := hcut
      obtain ⟨z1, z2, rfl⟩ := hr5.of (by simp [hf, fv_none]) hf (by rw [hz.out]; grind)
      obtain rfl := z1.symm
      obtain rfl := z2.symm
      clear hr5 z1 z2
      go_upto_region 9 with fail
      by_cases hs : c < 0
      · have e1 : decide (c < 0) = true := by simpa using hs
        have e2 : decide (n' * b < a * m') = true := by simpa using hx'.out.2 hs
        have held : ∀ W w' : World, Below W.heap.size W w' → ((W.cell? ⟨k, 0, none⟩ = some (.int .i64 n') ∧ W.cell? ⟨k, 1, none⟩ = some (.int .i64 m') ∧ W.frozen? ⟨k, 0, none⟩ = false ∧ W.frozen? ⟨k, 1, none⟩ = false ∧ k < W.heap.size) ∧ (W.cell? ⟨w3.heap.size, 0, none⟩ = some (.int .i64 n') ∧ W.cell? ⟨w3.heap.size, 1, none⟩ = some (.int .i64 m') ∧ W.frozen? ⟨w3.heap.size, 0, none⟩ = false ∧ W.frozen? ⟨w3.heap.size, 1, none⟩ = false ∧ w3.heap.size < W.heap.size) ∧ (W.cell? ⟨w2.heap.size, 0, none⟩ = some (.int .i64 n') ∧ W.cell? ⟨w2.heap.size, 1, none⟩ = some (.int .i64 m') ∧ W.frozen? ⟨w2.heap.size, 0, none⟩ = false ∧ W.frozen? ⟨w2.heap.size, 1, none⟩ = false ∧ w2.heap.size < W.heap.size) ∧ (W.cell? ⟨(w1.heap.size + 1), 0, none⟩ = some (.int .i64 c) ∧ W.cell? ⟨(w1.heap.size + 1), 1, none⟩ = some (.int .i64 d) ∧ W.frozen? ⟨(w1.heap.size + 1), 0, none⟩ = false ∧ W.frozen? ⟨(w1.heap.size + 1), 1, none⟩ = false ∧ (w1.heap.size + 1) < W.heap.size) ∧ (W.cell? ⟨w1.heap.size, 0, none⟩ = some (.int .i64 a) ∧ W.cell? ⟨w1.heap.size, 1, none⟩ = some (.int .i64 b) ∧ W.frozen? ⟨w1.heap.size, 0, none⟩ = false ∧ W.frozen? ⟨w1.heap.size, 1, none⟩ = false ∧ w1.heap.size < W.heap.size)) ∧ Below w.heap.size w W → ((w'.cell? ⟨k, 0, none⟩ = some (.int .i64 n') ∧ w'.cell? ⟨k, 1, none⟩ = some (.int .i64 m') ∧ w'.frozen? ⟨k, 0, none⟩ = false ∧ w'.frozen? ⟨k, 1, none⟩ = false ∧ k < w'.heap.size) ∧ (w'.cell? ⟨w3.heap.size, 0, none⟩ = some (.int .i64 n') ∧ w'.cell? ⟨w3.heap.size, 1, none⟩ = some (.int .i64 m') ∧ w'.frozen? ⟨w3.heap.size, 0, none⟩ = false ∧ w'.frozen? ⟨w3.heap.size, 1, none⟩ = false ∧ w3.heap.size < w'.heap.size) ∧ (w'.cell? ⟨w2.heap.size, 0, none⟩ = some (.int .i64 n') ∧ w'.cell? ⟨w2.heap.size, 1, none⟩ = some (.int .i64 m') ∧ w'.frozen? ⟨w2.heap.size, 0, none⟩ = false ∧ w'.frozen? ⟨w2.heap.size, 1, none⟩ = false ∧ w2.heap.size < w'.heap.size) ∧ (w'.cell? ⟨(w1.heap.size + 1), 0, none⟩ = some (.int .i64 c) ∧ w'.cell? ⟨(w1.heap.size + 1), 1, none⟩ = some (.int .i64 d) ∧ w'.frozen? ⟨(w1.heap.size + 1), 0, none⟩ = false ∧ w'.frozen? ⟨(w1.heap.size + 1), 1, none⟩ = false ∧ (w1.heap.size + 1) < w'.heap.size) ∧ (w'.cell? ⟨w1.heap.size, 0, none⟩ = some (.int .i64 a) ∧ w'.cell? ⟨w1.heap.size, 1, none⟩ = some (.int .i64 b) ∧ w'.frozen? ⟨w1.heap.size, 0, none⟩ = false ∧ w'.frozen? ⟨w1.heap.size, 1, none⟩ = false ∧ w1.heap.size < w'.heap.size)) ∧ Below w.heap.size w w' := by
          intro W w' hb5 h
          have s : St w w' [(k, n', m'), (w3.heap.size, n', m'), (w2.heap.size, n', m'), ((w1.heap.size + 1), c, d), (w1.heap.size, a, b)] := St.next ⟨h.2, by simp only [Holds, and_true]; exact h.1⟩ hb5
          have r := s.holds
          simp only [Holds, and_true] at r
          exact ⟨r, s.below⟩
        have Sd := S.drew
        have r0 := Sd.holds
        have B0 := Sd.below
        simp only [Holds, and_true] at r0
        try simp only [World.size_alloc] at r0
        have keep0 := And.intro r0 B0
        clear r0 B0 Sd S
        go_region_held3 (fun w' => ((w'.cell? ⟨k, 0, none⟩ = some (.int .i64 n') ∧ w'.cell? ⟨k, 1, none⟩ = some (.int .i64 m') ∧ w'.frozen? ⟨k, 0, none⟩ = false ∧ w'.frozen? ⟨k, 1, none⟩ = false ∧ k < w'.heap.size) ∧ (w'.cell? ⟨w3.heap.size, 0, none⟩ = some (.int .i64 n') ∧ w'.cell? ⟨w3.heap.size, 1, none⟩ = some (.int .i64 m') ∧ w'.frozen? ⟨w3.heap.size, 0, none⟩ = false ∧ w'.frozen? ⟨w3.heap.size, 1, none⟩ = false ∧ w3.heap.size < w'.heap.size) ∧ (w'.cell? ⟨w2.heap.size, 0, none⟩ = some (.int .i64 n') ∧ w'.cell? ⟨w2.heap.size, 1, none⟩ = some (.int .i64 m') ∧ w'.frozen? ⟨w2.heap.size, 0, none⟩ = false ∧ w'.frozen? ⟨w2.heap.size, 1, none⟩ = false ∧ w2.heap.size < w'.heap.size) ∧ (w'.cell? ⟨(w1.heap.size + 1), 0, none⟩ = some (.int .i64 c) ∧ w'.cell? ⟨(w1.heap.size + 1), 1, none⟩ = some (.int .i64 d) ∧ w'.frozen? ⟨(w1.heap.size + 1), 0, none⟩ = false ∧ w'.frozen? ⟨(w1.heap.size + 1), 1, none⟩ = false ∧ (w1.heap.size + 1) < w'.heap.size) ∧ (w'.cell? ⟨w1.heap.size, 0, none⟩ = some (.int .i64 a) ∧ w'.cell? ⟨w1.heap.size, 1, none⟩ = some (.int .i64 b) ∧ w'.frozen? ⟨w1.heap.size, 0, none⟩ = false ∧ w'.frozen? ⟨w1.heap.size, 1, none⟩ = false ∧ w1.heap.size < w'.heap.size)) ∧ Below w.heap.size w w') (first | exact keep0 | exact held _ _ b6 (by assumption)) (first | (go_at_call 12; refine (implFracLess_any _ _ _ _ _).mono ?_; rintro e w6 ⟨rfl, b6⟩))
        all_goals
          have hz6 : ((w6.cell? ⟨k, 0, none⟩ = some (.int .i64 n') ∧ w6.cell? ⟨k, 1, none⟩ = some (.int .i64 m') ∧ w6.frozen? ⟨k, 0, none⟩ = false ∧ w6.frozen? ⟨k, 1, none⟩ = false ∧ k < w6.heap.size) ∧ (w6.cell? ⟨w3.heap.size, 0, none⟩ = some (.int .i64 n') ∧ w6.cell? ⟨w3.heap.size, 1, none⟩ = some (.int .i64 m') ∧ w6.frozen? ⟨w3.heap.size, 0, none⟩ = false ∧ w6.frozen? ⟨w3.heap.size, 1, none⟩ = false ∧ w3.heap.size < w6.heap.size) ∧ (w6.cell? ⟨w2.heap.size, 0, none⟩ = some (.int .i64 n') ∧ w6.cell? ⟨w2.heap.size, 1, none⟩ = some (.int .i64 m') ∧ w6.frozen? ⟨w2.heap.size, 0, none⟩ = false ∧ w6.frozen? ⟨w2.heap.size, 1, none⟩ = false ∧ w2.heap.size < w6.heap.size) ∧ (w6.cell? ⟨(w1.heap.size + 1), 0, none⟩ = some (.int .i64 c) ∧ w6.cell? ⟨(w1.heap.size + 1), 1, none⟩ = some (.int .i64 d) ∧ w6.frozen? ⟨(w1.heap.size + 1), 0, none⟩ = false ∧ w6.frozen? ⟨(w1.heap.size + 1), 1, none⟩ = false ∧ (w1.heap.size + 1) < w6.heap.size) ∧ (w6.cell? ⟨w1.heap.size, 0, none⟩ = some (.int .i64 a) ∧ w6.cell? ⟨w1.heap.size, 1, none⟩ = some (.int .i64 b) ∧ w6.frozen? ⟨w1.heap.size, 0, none⟩ = false ∧ w6.frozen? ⟨w1.heap.size, 1, none⟩ = false ∧ w1.heap.size < w6.heap.size)) ∧ Below w.heap.size w w6 := by first | assumption | exact held _ _ b6 (by assumption)
          go_wp2
          go_ret
          exact ⟨by first | rfl | simp, hz6.2⟩
      · have e1 : decide (c < 0) = false := by simpa using hs
        have e2 : decide (n' * b < a * m') = false := by
          have : ¬ n' * b < a * m' := fun k => hs (hx'.out.1 k)
          simpa using this
        have held : ∀ W w' : World, Below W.heap.size W w' → ((W.cell? ⟨k, 0, none⟩ = some (.int .i64 n') ∧ W.cell? ⟨k, 1, none⟩ = some (.int .i64 m') ∧ W.frozen? ⟨k, 0, none⟩ = false ∧ W.frozen? ⟨k, 1, none⟩ = false ∧ k < W.heap.size) ∧ (W.cell? ⟨w3.heap.size, 0, none⟩ = some (.int .i64 n') ∧ W.cell? ⟨w3.heap.size, 1, none⟩ = some (.int .i64 m') ∧ W.frozen? ⟨w3.heap.size, 0, none⟩ = false ∧ W.frozen? ⟨w3.heap.size, 1, none⟩ = false ∧ w3.heap.size < W.heap.size) ∧ (W.cell? ⟨w2.heap.size, 0, none⟩ = some (.int .i64 n') ∧ W.cell? ⟨w2.heap.size, 1, none⟩ = some (.int .i64 m') ∧ W.frozen? ⟨w2.heap.size, 0, none⟩ = false ∧ W.frozen? ⟨w2.heap.size, 1, none⟩ = false ∧ w2.heap.size < W.heap.size) ∧ (W.cell? ⟨(w1.heap.size + 1), 0, none⟩ = some (.int .i64 c) ∧ W.cell? ⟨(w1.heap.size + 1), 1, none⟩ = some (.int .i64 d) ∧ W.frozen? ⟨(w1.heap.size + 1), 0, none⟩ = false ∧ W.frozen? ⟨(w1.heap.size + 1), 1, none⟩ = false ∧ (w1.heap.size + 1) < W.heap.size) ∧ (W.cell? ⟨w1.heap.size, 0, none⟩ = some (.int .i64 a) ∧ W.cell? ⟨w1.heap.size, 1, none⟩ = some (.int .i64 b) ∧ W.frozen? ⟨w1.heap.size, 0, none⟩ = false ∧ W.frozen? ⟨w1.heap.size, 1, none⟩ = false ∧ w1.heap.size < W.heap.size)) ∧ Below w.heap.size w W → ((w'.cell? ⟨k, 0, none⟩ = some (.int .i64 n') ∧ w'.cell? ⟨k, 1, none⟩ = some (.int .i64 m') ∧ w'.frozen? ⟨k, 0, none⟩ = false ∧ w'.frozen? ⟨k, 1, none⟩ = false ∧ k < w'.heap.size) ∧ (w'.cell? ⟨w3.heap.size, 0, none⟩ = some (.int .i64 n') ∧ w'.cell? ⟨w3.heap.size, 1, none⟩ = some (.int .i64 m') ∧ w'.frozen? ⟨w3.heap.size, 0, none⟩ = false ∧ w'.frozen? ⟨w3.heap.size, 1, none⟩ = false ∧ w3.heap.size < w'.heap.size) ∧ (w'.cell? ⟨w2.heap.size, 0, none⟩ = some (.int .i64 n') ∧ w'.cell? ⟨w2.heap.size, 1, none⟩ = some (.int .i64 m') ∧ w'.frozen? ⟨w2.heap.size, 0, none⟩ = false ∧ w'.frozen? ⟨w2.heap.size, 1, none⟩ = false ∧ w2.heap.size < w'.heap.size) ∧ (w'.cell? ⟨(w1.heap.size + 1), 0, none⟩ = some (.int .i64 c) ∧ w'.cell? ⟨(w1.heap.size + 1), 1, none⟩ = some (.int .i64 d) ∧ w'.frozen? ⟨(w1.heap.size + 1), 0, none⟩ = false ∧ w'.frozen? ⟨(w1.heap.size + 1), 1, none⟩ = false ∧ (w1.heap.size + 1) < w'.heap.size) ∧ (w'.cell? ⟨w1.heap.size, 0, none⟩ = some (.int .i64 a) ∧ w'.cell? ⟨w1.heap.size, 1, none⟩ = some (.int .i64 b) ∧ w'.frozen? ⟨w1.heap.size, 0, none⟩ = false ∧ w'.frozen? ⟨w1.heap.size, 1, none⟩ = false ∧ w1.heap.size < w'.heap.size)) ∧ Below w.heap.size w w' := by
          intro W w' hb5 h
          have s : St w w' [(k, n', m'), (w3.heap.size, n', m'), (w2.heap.size, n', m'), ((w1.heap.size + 1), c, d), (w1.heap.size, a, b)] := St.next ⟨h.2, by simp only [Holds, and_true]; exact h.1⟩ hb5
          have r := s.holds
          simp only [Holds, and_true] at r
          exact ⟨r, s.below⟩
        have Sd := S.drew
        have r0 := Sd.holds
        have B0 := Sd.below
        simp only [Holds, and_true] at r0
        try simp only [World.size_alloc] at r0
        have keep0 := And.intro r0 B0
        clear r0 B0 Sd S
        go_region_held3 (fun w' => ((w'.cell? ⟨k, 0, none⟩ = some (.int .i64 n') ∧ w'.cell? ⟨k, 1, none⟩ = some (.int .i64 m') ∧ w'.frozen? ⟨k, 0, none⟩ = false ∧ w'.frozen? ⟨k, 1, none⟩ = false ∧ k < w'.heap.size) ∧ (w'.cell? ⟨w3.heap.size, 0, none⟩ = some (.int .i64 n') ∧ w'.cell? ⟨w3.heap.size, 1, none⟩ = some (.int .i64 m') ∧ w'.frozen? ⟨w3.heap.size, 0, none⟩ = false ∧ w'.frozen? ⟨w3.heap.size, 1, none⟩ = false ∧ w3.heap.size < w'.heap.size) ∧ (w'.cell? ⟨w2.heap.size, 0, none⟩ = some (.int .i64 n') ∧ w'.cell? ⟨w2.heap.size, 1, none⟩ = some (.int .i64 m') ∧ w'.frozen? ⟨w2.heap.size, 0, none⟩ = false ∧ w'.frozen? ⟨w2.heap.size, 1, none⟩ = false ∧ w2.heap.size < w'.heap.size) ∧ (w'.cell? ⟨(w1.heap.size + 1), 0, none⟩ = some (.int .i64 c) ∧ w'.cell? ⟨(w1.heap.size + 1), 1, none⟩ = some (.int .i64 d) ∧ w'.frozen? ⟨(w1.heap.size + 1), 0, none⟩ = false ∧ w'.frozen? ⟨(w1.heap.size + 1), 1, none⟩ = false ∧ (w1.heap.size + 1) < w'.heap.size) ∧ (w'.cell? ⟨w1.heap.size, 0, none⟩ = some (.int .i64 a) ∧ w'.cell? ⟨w1.heap.size, 1, none⟩ = some (.int .i64 b) ∧ w'.frozen? ⟨w1.heap.size, 0, none⟩ = false ∧ w'.frozen? ⟨w1.heap.size, 1, none⟩ = false ∧ w1.heap.size < w'.heap.size)) ∧ Below w.heap.size w w') (first | exact keep0 | exact held _ _ b6 (by assumption)) (first | (go_at_call 12; refine (implFracLess_any _ _ _ _ _).mono ?_; rintro e w6 ⟨rfl, b6⟩))
        all_goals
          have hz6 : ((w6.cell? ⟨k, 0, none⟩ = some (.int .i64 n') ∧ w6.cell? ⟨k, 1, none⟩ = some (.int .i64 m') ∧ w6.frozen? ⟨k, 0, none⟩ = false ∧ w6.frozen? ⟨k, 1, none⟩ = false ∧ k < w6.heap.size) ∧ (w6.cell? ⟨w3.heap.size, 0, none⟩ = some (.int .i64 n') ∧ w6.cell? ⟨w3.heap.size, 1, none⟩ = some (.int .i64 m') ∧ w6.frozen? ⟨w3.heap.size, 0, none⟩ = false ∧ w6.frozen? ⟨w3.heap.size, 1, none⟩ = false ∧ w3.heap.size < w6.heap.size) ∧ (w6.cell? ⟨w2.heap.size, 0, none⟩ = some (.int .i64 n') ∧ w6.cell? ⟨w2.heap.size, 1, none⟩ = some (.int .i64 m') ∧ w6.frozen? ⟨w2.heap.size, 0, none⟩ = false ∧ w6.frozen? ⟨w2.heap.size, 1, none⟩ = false ∧ w2.heap.size < w6.heap.size) ∧ (w6.cell? ⟨(w1.heap.size + 1), 0, none⟩ = some (.int .i64 c) ∧ w6.cell? ⟨(w1.heap.size + 1), 1, none⟩ = some (.int .i64 d) ∧ w6.frozen? ⟨(w1.heap.size + 1), 0, none⟩ = false ∧ w6.frozen? ⟨(w1.heap.size + 1), 1, none⟩ = false ∧ (w1.heap.size + 1) < w6.heap.size) ∧ (w6.cell? ⟨w1.heap.size, 0, none⟩ = some (.int .i64 a) ∧ w6.cell? ⟨w1.heap.size, 1, none⟩ = some (.int .i64 b) ∧ w6.frozen? ⟨w1.heap.size, 0, none⟩ = false ∧ w6.frozen? ⟨w1.heap.size, 1, none⟩ = false ∧ w1.heap.size < w6.heap.size)) ∧ Below w.heap.size w w6 := by first | assumption | exact held _ _ b6 (by assumption)
          go_wp2
          go_ret
          exact ⟨by first | rfl | simp, hz6.2⟩
    

set_option maxRecDepth 100000 in
theorem lifted (os : Os) (started : os.Started) (H : Type) (enc : TypeId × Value → H) :
    ReturnsInHanded {} Try.checked os 6 .any (Rows.fnFracAddNoneSpec.pre6 enc Try.prog Try.f6 Rows.fnFracAddNoneRow.domain false) (Rows.fnFracAddNoneSpec.post enc Try.prog Try.f6 false true false false) := by
  refine returnsInHanded_of_change (C := Try.checked) own started (by kernel_rfl) Try.func6
    (ChangeSpec.witness6 (enc := enc) (C := Try.checked) false ⟨#[], #[.slice none 0 0], []⟩ 8 (by kernel_rfl) (by kernel_rfl) (by kernel_rfl) (by kernel_rfl)) ?_
  intro W base args ds gs before hval0 hW hcnd _
  have hval : ∀ (j : Nat) t v, Try.f6.params[j]? = some t → args[j]? = some v → Value.okWide Try.prog W .any base t v := hval0
  have hW' := hW
  obtain ⟨p, q, hA0, hV, rfl, hfz, hnd⟩ := hW
  have hA : DataW.TrodAll enc Try.prog W 0 (fun _ => true) true Try.f6.params.toList args.toList ds p := hA0
  rw [Try.params6] at hA hval
  obtain ⟨v0, vs0, d0, ds0, p0, q0, hargs, rfl, rfl, h0, r0⟩ := trodAll_cons hA
  obtain ⟨rfl, rfl, rfl⟩ := trodAll_nil r0
  obtain rfl : args = #[v0] := by cases args; simp_all
  obtain ⟨rfl, rfl⟩ := trodVars_none hV
  obtain ⟨a0, len0, cap0, rfl⟩ := okWide_slice Try.underlying22 (hval 0 22 v0 rfl rfl)
  have k0 := h0
  have lt0 : ∀ x ∈ p0, x.block < W.heap.size := by obtain ⟨m, hm⟩ := k0; exact DataW.trod_lt m _ _ _ hm
  obtain ⟨z0, w0⟩ : ∃ zs, IsRow .u8 W a0 len0 cap0 zs := by
    obtain ⟨fuel, hf⟩ := h0
    rcases open_ints Try.underlying22 Try.underlying5 (by kernel_rfl) hf with ⟨hcs, _⟩ | ⟨x, l, c, zs, hcs, _, hl, hm, hz, _, hcell, hwz⟩
    · simp [Value.cells] at hcs
      obtain ⟨rfl, rfl, rfl⟩ := hcs
      exact ⟨[], .inl ⟨rfl, rfl, rfl, rfl⟩⟩
    · simp [Value.cells] at hcs
      obtain ⟨rfl, rfl, rfl⟩ := hcs
      exact ⟨zs, .inr ⟨_, rfl, hl, hm, by simpa using hz, hcell, hwz⟩⟩
  clear hA0 hval0
  refine (walk a0 len0 cap0 z0 W w0).mono fun e W' ⟨he, bel⟩ => ?_
  subst he
  exact ⟨_, rfl, _, _, _, [], _, [], hW', trodAll_mk1 (shut_bool Try.underlying4 _), (trodAll_cons_mk (Below.trod laidOut (by kernel_rfl) (of_decide_eq_true (by kernel_rfl)) k0 bel lt0) trodAll_mk0), rfl, bel.frame _, fun h => by cases h⟩

theorem over : Rows.fnFracAddNoneRow.holds Try.pinned (OpenSpec.ofChange Rows.fnFracAddNoneSpec) :=
  OpenClaim.holds_of_wide 6 Try.f6 rfl rfl rfl rfl rfl rfl rfl ⟨rfl, rfl, rfl, rfl, rfl⟩ rfl rfl rfl rfl rfl (by kernel_rfl) Try.func6 (by kernel_rfl)
    (of_decide_eq_true (by kernel_rfl)) (by unfold Func.isWrapper; first | (rw [if_pos (by decide +kernel)]; kernel_rfl) | (rw [if_neg (by decide +kernel)]; exact ⟨rfl, rfl⟩))
    (fun os started H enc _ => lifted os started H enc)

/-- ████ THE STATEMENT ████ -/
theorem proved : Rows.FnFracAddNoneSaid := over
#print axioms proved
end Go.Proofs.Ytahiidepegdnmab.fnFracAddNone
