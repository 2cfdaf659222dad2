/- For every input, the law FnFracDiv of the given statements returns true over the program at this commit, and its arguments read afterwards as before: no condition. -/
import Derived.Test.YtahiidepegdnmaaRows
import Derived.Test.YtahiidepegdnmaaFracOps
import Derived.Test.YtahiidepegdnmaaFracSpec
import Derived.Test.YtahiidepegdnmaaFracDraws
import Derived.Test.YtahiidepegdnmaaHolds
import Derived.WalkKit
import Derived.ProofKit
import Derived.OpenShut
import Derived.ShutString
import Derived.ChangeOld
import Derived.Below
namespace Go.Proofs.Ytahiidepegdnmaa.fnFracDiv
open Go.ChangeShapes Go.WideShapes Go.ChangeAt Go.RowKit
open Go.ChangeMaps (open_string shut_string)
set_option linter.unusedVariables false

theorem own : ownKnob Try.prog.godebug = none := by kernel_rfl
theorem laidOut : laidOutB Try.prog = true := by kernel_rfl

/-- WHAT THE WALK IS TOLD OF A SLICE OF INTEGERS THAT CAME IN: it is nil; or it leads to a row of 'cap' cells, the numbers 'zs' (the first 'len' are its elements, the rest its spare room), each fitting its kind. -/
def IsRow (k : IntKind) (w : World) (a : Option Addr) (len cap : Nat) (zs : List Int) : Prop :=
  (a = none ∧ len = 0 ∧ cap = 0 ∧ zs = []) ∨
  ∃ x, a = some x ∧ len ≤ cap ∧ cap ≤ maxLen ∧ zs.length = cap ∧ (∀ i, i < zs.length → w.cell? (x.add i) = some (.int k (zs.getD i 0))) ∧ ∀ n ∈ zs, (Lit.int k n).wf = true

set_option maxHeartbeats 2000000 in
theorem walk (a0 : Option Addr) (len0 cap0 : Nat) (z0 : List Int) (w : World) (w0 : IsRow .u8 w a0 len0 cap0 z0) :
    Calls Try.prog 11 #[.slice a0 len0 cap0] w fun e w' => e = .returned (.bool true) ∧ Below w.heap.size w w' := by
  have hB := bytes_of w0
  by_cases hl : 1048576 < len0
  · go_enter Try.func11, Try.ntmps11
    go_wp2_with fail
    go_ret
    exact ⟨rfl, Below.refl _ _⟩
  · have hm : len0 ≤ 1048576 := by omega
    go_enter Try.func11, Try.ntmps11
    go_wp2_with fail
    refine (DrawFracDiv_any hB).mono ?_
    rintro e w1 ⟨a, b, c, d, rfl, ha, hc, b1⟩
    clear w0 hB
    have S := ((St.start b1).alloc a b).alloc c d
    go_wp2_with fail
    refine (implFracDiv_any _ _ _ _ _).mono ?_
    rintro e w2 ⟨n, m, ok, rfl, hr, b2⟩
    replace S := S.next b2
    have r2 := S.holds
    (simp only [Holds, and_true] at r2; try simp only [World.size_alloc] at r2)
    go_wp2_with fail
    refine (specFracDiv_any _ _ _ _ _).mono ?_
    rintro e w3 ⟨n', m', ok', rfl, hr', b3⟩
    obtain ⟨rfl, rfl, rfl⟩ := hr.same hr'
    replace S := (S.alloc n' m').next b3
    have r3 := S.holds
    (simp only [Holds, and_true] at r3; try simp only [World.size_alloc] at r3)
    clear r2 hr'
    rcases hr with ⟨rfl, hv, hf, hq⟩ | ⟨rfl, rfl, rfl, hn⟩
    rotate_left
    · go_wp2_with fail
      go_ret
      exact ⟨rfl, (by first | exact S.below | exact (S.alloc _ _).below | exact ((S.alloc _ _).alloc _ _).below | exact (((S.alloc _ _).alloc _ _).alloc _ _).below)⟩
    replace S := S.alloc n' m'
    have fa : fv a b = true := by simp at hv; exact hv.1.1
    have fc : fv c d = true := by simp at hv; exact hv.1.2
    have c0 : c ≠ 0 := by simp at hv; exact hv.2
    have cq : fq c d ≠ 0 := fun k => c0 ((fq_zero fc).2 k)
    go_wp2_with fail
    refine (implFracMul_any _ _ _ _ _).mono ?_
    rintro e w4 ⟨n4, m4, k4, rfl, hr4, b4⟩
    replace S := (S).next b4
    have r4 := S.holds
    (simp only [Holds, and_true] at r4; try simp only [World.size_alloc] at r4)
    clear r3 b4
    obtain ⟨rfl, rfl, rfl⟩ := hr4.of (by simp [*]) fa (by rw [hq, Rat.div_mul_cancel cq])
    clear hr4
    go_wp2_with fail
    refine (implFracDiv_any _ _ _ _ _).mono ?_
    rintro e w5 ⟨n5, m5, k5, rfl, hr5, b5⟩
    replace S := (S.alloc n4 m4).next b5
    have r5 := S.holds
    (simp only [Holds, and_true] at r5; try simp only [World.size_alloc] at r5)
    clear r4 b5
    have hz := Lib.hid fq_unit
    have hq' := Lib.hid hq
    clear hq
    rcases hr5 with ⟨rfl, v5, f5, q5⟩ | ⟨rfl, rfl, rfl, h5⟩
    · go_wp2_with fail
      refine (implFracMul_any _ _ _ _ _).mono ?_
      rintro e w6 ⟨n6, m6, k6, rfl, hr6, b6⟩
      replace S := (S.alloc n5 m5).next b6
      have r6 := S.holds
      (simp only [Holds, and_true] at r6; try simp only [World.size_alloc] at r6)
      clear r5 b6
      have a0 : n4 ≠ 0 := by simp at v5; exact v5.2
      have aq : fq n4 m4 ≠ 0 := fun k => a0 ((fq_zero fa).2 k)
      obtain ⟨rfl, rfl, rfl⟩ := hr6.of (by simp [*]) fv_unit (by rw [hz.out, q5, hq'.out]; grind)
      replace S := S.alloc 1 1
      clear hr6 q5 v5
      go_wp2
      have held : ∀ W w' : World, Below W.heap.size W w' → ((W.cell? ⟨w6.heap.size, 0, none⟩ = some (.int .i64 1) ∧ W.cell? ⟨w6.heap.size, 1, none⟩ = some (.int .i64 1) ∧ W.frozen? ⟨w6.heap.size, 0, none⟩ = false ∧ W.frozen? ⟨w6.heap.size, 1, none⟩ = false ∧ w6.heap.size < W.heap.size) ∧ (W.cell? ⟨w5.heap.size, 0, none⟩ = some (.int .i64 n5) ∧ W.cell? ⟨w5.heap.size, 1, none⟩ = some (.int .i64 m5) ∧ W.frozen? ⟨w5.heap.size, 0, none⟩ = false ∧ W.frozen? ⟨w5.heap.size, 1, none⟩ = false ∧ w5.heap.size < W.heap.size) ∧ (W.cell? ⟨w4.heap.size, 0, none⟩ = some (.int .i64 n4) ∧ W.cell? ⟨w4.heap.size, 1, none⟩ = some (.int .i64 m4) ∧ W.frozen? ⟨w4.heap.size, 0, none⟩ = false ∧ W.frozen? ⟨w4.heap.size, 1, none⟩ = false ∧ w4.heap.size < W.heap.size) ∧ (W.cell? ⟨w3.heap.size, 0, none⟩ = some (.int .i64 n') ∧ W.cell? ⟨w3.heap.size, 1, none⟩ = some (.int .i64 m') ∧ W.frozen? ⟨w3.heap.size, 0, none⟩ = false ∧ W.frozen? ⟨w3.heap.size, 1, none⟩ = false ∧ w3.heap.size < W.heap.size) ∧ (W.cell? ⟨w2.heap.size, 0, none⟩ = some (.int .i64 n') ∧ W.cell? ⟨w2.heap.size, 1, none⟩ = some (.int .i64 m') ∧ W.frozen? ⟨w2.heap.size, 0, none⟩ = false ∧ W.frozen? ⟨w2.heap.size, 1, none⟩ = false ∧ w2.heap.size < W.heap.size) ∧ (W.cell? ⟨(w1.heap.size + 1), 0, none⟩ = some (.int .i64 c) ∧ W.cell? ⟨(w1.heap.size + 1), 1, none⟩ = some (.int .i64 d) ∧ W.frozen? ⟨(w1.heap.size + 1), 0, none⟩ = false ∧ W.frozen? ⟨(w1.heap.size + 1), 1, none⟩ = false ∧ (w1.heap.size + 1) < W.heap.size) ∧ (W.cell? ⟨w1.heap.size, 0, none⟩ = some (.int .i64 n4) ∧ W.cell? ⟨w1.heap.size, 1, none⟩ = some (.int .i64 m4) ∧ W.frozen? ⟨w1.heap.size, 0, none⟩ = false ∧ W.frozen? ⟨w1.heap.size, 1, none⟩ = false ∧ w1.heap.size < W.heap.size)) ∧ Below w.heap.size w W → ((w'.cell? ⟨w6.heap.size, 0, none⟩ = some (.int .i64 1) ∧ w'.cell? ⟨w6.heap.size, 1, none⟩ = some (.int .i64 1) ∧ w'.frozen? ⟨w6.heap.size, 0, none⟩ = false ∧ w'.frozen? ⟨w6.heap.size, 1, none⟩ = false ∧ w6.heap.size < w'.heap.size) ∧ (w'.cell? ⟨w5.heap.size, 0, none⟩ = some (.int .i64 n5) ∧ w'.cell? ⟨w5.heap.size, 1, none⟩ = some (.int .i64 m5) ∧ w'.frozen? ⟨w5.heap.size, 0, none⟩ = false ∧ w'.frozen? ⟨w5.heap.size, 1, none⟩ = false ∧ w5.heap.size < w'.heap.size) ∧ (w'.cell? ⟨w4.heap.size, 0, none⟩ = some (.int .i64 n4) ∧ w'.cell? ⟨w4.heap.size, 1, none⟩ = some (.int .i64 m4) ∧ w'.frozen? ⟨w4.heap.size, 0, none⟩ = false ∧ w'.frozen? ⟨w4.heap.size, 1, none⟩ = false ∧ w4.heap.size < w'.heap.size) ∧ (w'.cell? ⟨w3.heap.size, 0, none⟩ = some (.int .i64 n') ∧ w'.cell? ⟨w3.heap.size, 1, none⟩ = some (.int .i64 m') ∧ w'.frozen? ⟨w3.heap.size, 0, none⟩ = false ∧ w'.frozen? ⟨w3.heap.size, 1, none⟩ = false ∧ w3.heap.size < w'.heap.size) ∧ (w'.cell? ⟨w2.heap.size, 0, none⟩ = some (.int .i64 n') ∧ w'.cell? ⟨w2.heap.size, 1, none⟩ = some (.int .i64 m') ∧ w'.frozen? ⟨w2.heap.size, 0, none⟩ = false ∧ w'.frozen? ⟨w2.heap.size, 1, none⟩ = false ∧ w2.heap.size < w'.heap.size) ∧ (w'.cell? ⟨(w1.heap.size + 1), 0, none⟩ = some (.int .i64 c) ∧ w'.cell? ⟨(w1.heap.size + 1), 1, none⟩ = some (.int .i64 d) ∧ w'.frozen? ⟨(w1.heap.size + 1), 0, none⟩ = false ∧ w'.frozen? ⟨(w1.heap.size + 1), 1, none⟩ = false ∧ (w1.heap.size + 1) < w'.heap.size) ∧ (w'.cell? ⟨w1.heap.size, 0, none⟩ = some (.int .i64 n4) ∧ w'.cell? ⟨w1.heap.size, 1, none⟩ = some (.int .i64 m4) ∧ w'.frozen? ⟨w1.heap.size, 0, none⟩ = false ∧ w'.frozen? ⟨w1.heap.size, 1, none⟩ = false ∧ w1.heap.size < w'.heap.size)) ∧ Below w.heap.size w w' := by
        intro W w' hb5 h
        have s : St w w' [(w6.heap.size, 1, 1), (w5.heap.size, n5, m5), (w4.heap.size, n4, m4), (w3.heap.size, n', m'), (w2.heap.size, n', m'), ((w1.heap.size + 1), c, d), (w1.heap.size, n4, m4)] := St.next ⟨h.2, by simp only [Holds, and_true]; exact h.1⟩ hb5
        have r := s.holds
        simp only [Holds, and_true] at r
        exact ⟨r, s.below⟩
      have Sd := S.drew
      have r0 := Sd.holds
      have B0 := Sd.below
      simp only [Holds, and_true] at r0
      try simp only [World.size_alloc] at r0
      have keep0 := And.intro r0 B0
      clear r0 B0
      go_region_held3 (fun w' => ((w'.cell? ⟨w6.heap.size, 0, none⟩ = some (.int .i64 1) ∧ w'.cell? ⟨w6.heap.size, 1, none⟩ = some (.int .i64 1) ∧ w'.frozen? ⟨w6.heap.size, 0, none⟩ = false ∧ w'.frozen? ⟨w6.heap.size, 1, none⟩ = false ∧ w6.heap.size < w'.heap.size) ∧ (w'.cell? ⟨w5.heap.size, 0, none⟩ = some (.int .i64 n5) ∧ w'.cell? ⟨w5.heap.size, 1, none⟩ = some (.int .i64 m5) ∧ w'.frozen? ⟨w5.heap.size, 0, none⟩ = false ∧ w'.frozen? ⟨w5.heap.size, 1, none⟩ = false ∧ w5.heap.size < w'.heap.size) ∧ (w'.cell? ⟨w4.heap.size, 0, none⟩ = some (.int .i64 n4) ∧ w'.cell? ⟨w4.heap.size, 1, none⟩ = some (.int .i64 m4) ∧ w'.frozen? ⟨w4.heap.size, 0, none⟩ = false ∧ w'.frozen? ⟨w4.heap.size, 1, none⟩ = false ∧ w4.heap.size < w'.heap.size) ∧ (w'.cell? ⟨w3.heap.size, 0, none⟩ = some (.int .i64 n') ∧ w'.cell? ⟨w3.heap.size, 1, none⟩ = some (.int .i64 m') ∧ w'.frozen? ⟨w3.heap.size, 0, none⟩ = false ∧ w'.frozen? ⟨w3.heap.size, 1, none⟩ = false ∧ w3.heap.size < w'.heap.size) ∧ (w'.cell? ⟨w2.heap.size, 0, none⟩ = some (.int .i64 n') ∧ w'.cell? ⟨w2.heap.size, 1, none⟩ = some (.int .i64 m') ∧ w'.frozen? ⟨w2.heap.size, 0, none⟩ = false ∧ w'.frozen? ⟨w2.heap.size, 1, none⟩ = false ∧ w2.heap.size < w'.heap.size) ∧ (w'.cell? ⟨(w1.heap.size + 1), 0, none⟩ = some (.int .i64 c) ∧ w'.cell? ⟨(w1.heap.size + 1), 1, none⟩ = some (.int .i64 d) ∧ w'.frozen? ⟨(w1.heap.size + 1), 0, none⟩ = false ∧ w'.frozen? ⟨(w1.heap.size + 1), 1, none⟩ = false ∧ (w1.heap.size + 1) < w'.heap.size) ∧ (w'.cell? ⟨w1.heap.size, 0, none⟩ = some (.int .i64 n4) ∧ w'.cell? ⟨w1.heap.size, 1, none⟩ = some (.int .i64 m4) ∧ w'.frozen? ⟨w1.heap.size, 0, none⟩ = false ∧ w'.frozen? ⟨w1.heap.size, 1, none⟩ = false ∧ w1.heap.size < w'.heap.size)) ∧ Below w.heap.size w w') (first | exact keep0 | exact held _ _ b7 (by assumption)) (first | (go_at_call 31; refine (frac_any _ _).mono ?_; rintro e w7 ⟨rfl, b7⟩))
      have hz7 := held _ _ b7 (by assumption)
      go_wp2
      go_ret
      exact ⟨by first | rfl | simp, hz7.2⟩
    · go_wp2_with fail
      refine (implFracMul_any _ _ _ _ _).mono ?_
      rintro e w6 ⟨n6, m6, k6, rfl, hr6, b6⟩
      replace S := (S.alloc 0 0).next b6
      have r6 := S.holds
      (simp only [Holds, and_true] at r6; try simp only [World.size_alloc] at r6)
      clear r5 b6
      replace S := S.alloc n6 m6
      go_wp2
      have r9 := S.holds
      (simp only [Holds, and_true] at r9; try simp only [World.size_alloc] at r9)
      go_quiet (fail)
      go_wp2
      go_ret
      exact ⟨by first | rfl | simp, below_drewN S.below⟩

set_option maxRecDepth 100000 in
theorem lifted (os : Os) (started : os.Started) (H : Type) (enc : TypeId × Value → H) :
    ReturnsInHanded {} Try.checked os 11 .any (Rows.fnFracDivSpec.pre6 enc Try.prog Try.f11 Rows.fnFracDivRow.domain false) (Rows.fnFracDivSpec.post enc Try.prog Try.f11 false true false false) := by
  refine returnsInHanded_of_change (C := Try.checked) own started (by kernel_rfl) Try.func11
    (ChangeSpec.witness6 (enc := enc) (C := Try.checked) false ⟨#[], #[.slice none 0 0], []⟩ 8 (by kernel_rfl) (by kernel_rfl) (by kernel_rfl) (by kernel_rfl)) ?_
  intro W base args ds gs before hval0 hW hcnd _
  have hval : ∀ (j : Nat) t v, Try.f11.params[j]? = some t → args[j]? = some v → Value.okWide Try.prog W .any base t v := hval0
  have hW' := hW
  obtain ⟨p, q, hA0, hV, rfl, hfz, hnd⟩ := hW
  have hA : DataW.TrodAll enc Try.prog W 0 (fun _ => true) true Try.f11.params.toList args.toList ds p := hA0
  rw [Try.params11] at hA hval
  obtain ⟨v0, vs0, d0, ds0, p0, q0, hargs, rfl, rfl, h0, r0⟩ := trodAll_cons hA
  obtain ⟨rfl, rfl, rfl⟩ := trodAll_nil r0
  obtain rfl : args = #[v0] := by cases args; simp_all
  obtain ⟨rfl, rfl⟩ := trodVars_none hV
  obtain ⟨a0, len0, cap0, rfl⟩ := okWide_slice Try.underlying22 (hval 0 22 v0 rfl rfl)
  have k0 := h0
  have lt0 : ∀ x ∈ p0, x.block < W.heap.size := by obtain ⟨m, hm⟩ := k0; exact DataW.trod_lt m _ _ _ hm
  obtain ⟨z0, w0⟩ : ∃ zs, IsRow .u8 W a0 len0 cap0 zs := by
    obtain ⟨fuel, hf⟩ := h0
    rcases open_ints Try.underlying22 Try.underlying5 (by kernel_rfl) hf with ⟨hcs, _⟩ | ⟨x, l, c, zs, hcs, _, hl, hm, hz, _, hcell, hwz⟩
    · simp [Value.cells] at hcs
      obtain ⟨rfl, rfl, rfl⟩ := hcs
      exact ⟨[], .inl ⟨rfl, rfl, rfl, rfl⟩⟩
    · simp [Value.cells] at hcs
      obtain ⟨rfl, rfl, rfl⟩ := hcs
      exact ⟨zs, .inr ⟨_, rfl, hl, hm, by simpa using hz, hcell, hwz⟩⟩
  clear hA0 hval0
  refine (walk a0 len0 cap0 z0 W w0).mono fun e W' ⟨he, bel⟩ => ?_
  subst he
  exact ⟨_, rfl, _, _, _, [], _, [], hW', trodAll_mk1 (shut_bool Try.underlying4 _), (trodAll_cons_mk (Below.trod laidOut (by kernel_rfl) (of_decide_eq_true (by kernel_rfl)) k0 bel lt0) trodAll_mk0), rfl, bel.frame _, fun h => by cases h⟩

theorem over : Rows.fnFracDivRow.holds Try.pinned (OpenSpec.ofChange Rows.fnFracDivSpec) :=
  OpenClaim.holds_of_wide 11 Try.f11 rfl rfl rfl rfl rfl rfl rfl ⟨rfl, rfl, rfl, rfl, rfl⟩ rfl rfl rfl rfl rfl (by kernel_rfl) Try.func11 (by kernel_rfl)
    (of_decide_eq_true (by kernel_rfl)) (by unfold Func.isWrapper; first | (rw [if_pos (by decide +kernel)]; kernel_rfl) | (rw [if_neg (by decide +kernel)]; exact ⟨rfl, rfl⟩))
    (fun os started H enc _ => lifted os started H enc)

/-- ████ THE STATEMENT ████ -/
theorem proved : Rows.FnFracDivSaid := over
#print axioms proved
end Go.Proofs.Ytahiidepegdnmaa.fnFracDiv
