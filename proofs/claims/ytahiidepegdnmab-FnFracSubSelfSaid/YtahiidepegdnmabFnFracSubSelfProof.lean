/- For every input, the law FnFracSubSelf of the given statements returns true over the program at this commit, and its arguments read afterwards as before: no condition. -/
import Derived.Test.YtahiidepegdnmabRows
import Derived.Test.YtahiidepegdnmabFracOps
import Derived.Test.YtahiidepegdnmabFracSpec
import Derived.Test.YtahiidepegdnmabFracDraws
import Derived.Test.YtahiidepegdnmabHolds
import Derived.WalkKit
import Derived.ProofKit
import Derived.OpenShut
import Derived.ShutString
import Derived.ChangeOld
import Derived.Below
namespace Go.Proofs.Ytahiidepegdnmab.fnFracSubSelf
open Go.ChangeShapes Go.WideShapes Go.ChangeAt Go.RowKit
open Go.ChangeMaps (open_string shut_string)
set_option linter.unusedVariables false

theorem own : ownKnob Try.prog.godebug = none := by kernel_rfl
theorem laidOut : laidOutB Try.prog = true := by kernel_rfl

/-- WHAT THE WALK IS TOLD OF A SLICE OF INTEGERS THAT CAME IN: it is nil; or it leads to a row of 'cap' cells, the numbers 'zs' (the first 'len' are its elements, the rest its spare room), each fitting its kind. -/
def IsRow (k : IntKind) (w : World) (a : Option Addr) (len cap : Nat) (zs : List Int) : Prop :=
  (a = none ∧ len = 0 ∧ cap = 0 ∧ zs = []) ∨
  ∃ x, a = some x ∧ len ≤ cap ∧ cap ≤ maxLen ∧ zs.length = cap ∧ (∀ i, i < zs.length → w.cell? (x.add i) = some (.int k (zs.getD i 0))) ∧ ∀ n ∈ zs, (Lit.int k n).wf = true

set_option maxHeartbeats 2000000 in
theorem walk (a0 : Option Addr) (len0 cap0 : Nat) (z0 : List Int) (w : World) (w0 : IsRow .u8 w a0 len0 cap0 z0) :
    Calls Try.prog 10 #[.slice a0 len0 cap0] w fun e w' => e = .returned (.bool true) ∧ Below w.heap.size w w' := by
  have hB := bytes_of w0
  by_cases hl : 1048576 < len0
  · go_enter Try.func10, Try.ntmps10
    go_wp2_with fail
    go_ret
    exact ⟨rfl, Below.refl _ _⟩
  · have hm : len0 ≤ 1048576 := by omega
    go_enter Try.func10, Try.ntmps10
    go_wp2_with fail
    refine (DrawFracSub_any hB).mono ?_
    rintro e w1 ⟨a, b, c, d, rfl, ha, hc, b1⟩
    clear w0 hB
    have S := ((St.start b1).alloc a b).alloc c d
    go_wp2_with fail
    refine (implFracSub_any _ _ _ _ _).mono ?_
    rintro e w2 ⟨n, m, ok, rfl, hr, b2⟩
    replace S := S.next b2
    have r2 := S.holds
    (simp only [Holds, and_true] at r2; try simp only [World.size_alloc] at r2)
    go_wp2_with fail
    refine (specFracSub_any _ _ _ _ _).mono ?_
    rintro e w3 ⟨n', m', ok', rfl, hr', b3⟩
    obtain ⟨rfl, rfl, rfl⟩ := hr.same hr'
    replace S := (S.alloc n' m').next b3
    have r3 := S.holds
    (simp only [Holds, and_true] at r3; try simp only [World.size_alloc] at r3)
    clear r2 hr'
    rcases hr with ⟨rfl, hv, hf, hq⟩ | ⟨rfl, rfl, rfl, hn⟩
    rotate_left
    · go_wp2_with fail
      go_ret
      exact ⟨rfl, (by first | exact S.below | exact (S.alloc _ _).below | exact ((S.alloc _ _).alloc _ _).below | exact (((S.alloc _ _).alloc _ _).alloc _ _).below)⟩
    replace S := S.alloc n' m'
    have fa : fv a b = true := by simp at hv; exact hv.1
    have fc : fv c d = true := by simp at hv; exact hv.2
    have hz := Lib.hid fq_none
    go_wp2_with fail
    refine (implFracSub_any _ _ _ _ _).mono ?_
    rintro e w4 ⟨n4, m4, k4, rfl, hr4, b4⟩
    replace S := (S).next b4
    have r4 := S.holds
    (simp only [Holds, and_true] at r4; try simp only [World.size_alloc] at r4)
    clear r3 b4
    obtain ⟨rfl, rfl, rfl⟩ := hr4.of (by simp [*]) fv_none (by rw [hz.out]; grind)
    go_wp2_with fail
    refine (implFracSub_any _ _ _ _ _).mono ?_
    rintro e w5 ⟨n5, m5, k5, rfl, hr5, b5⟩
    replace S := (S.alloc 0 1).next b5
    have r5 := S.holds
    (simp only [Holds, and_true] at r5; try simp only [World.size_alloc] at r5)
    clear r4 b5
    obtain ⟨rfl, rfl, rfl⟩ := hr5.of (by simp [*]) (fv_neg' fc).1 (by rw [(fv_neg' fc).2, hq]; grind)
    replace S := S.alloc (-c) m5
    have pc := fv_part fc
    have hw : IntKind.i64.wrap (-c) = -c := IntWalk.i64_in _ (by omega)
    have hq' := Lib.hid hq
    clear hq hr4 hr5
    go_wp2
    have held : ∀ W w' : World, Below W.heap.size W w' → ((W.cell? ⟨w5.heap.size, 0, none⟩ = some (.int .i64 (-c)) ∧ W.cell? ⟨w5.heap.size, 1, none⟩ = some (.int .i64 m5) ∧ W.frozen? ⟨w5.heap.size, 0, none⟩ = false ∧ W.frozen? ⟨w5.heap.size, 1, none⟩ = false ∧ w5.heap.size < W.heap.size) ∧ (W.cell? ⟨w4.heap.size, 0, none⟩ = some (.int .i64 0) ∧ W.cell? ⟨w4.heap.size, 1, none⟩ = some (.int .i64 1) ∧ W.frozen? ⟨w4.heap.size, 0, none⟩ = false ∧ W.frozen? ⟨w4.heap.size, 1, none⟩ = false ∧ w4.heap.size < W.heap.size) ∧ (W.cell? ⟨w3.heap.size, 0, none⟩ = some (.int .i64 n') ∧ W.cell? ⟨w3.heap.size, 1, none⟩ = some (.int .i64 m') ∧ W.frozen? ⟨w3.heap.size, 0, none⟩ = false ∧ W.frozen? ⟨w3.heap.size, 1, none⟩ = false ∧ w3.heap.size < W.heap.size) ∧ (W.cell? ⟨w2.heap.size, 0, none⟩ = some (.int .i64 n') ∧ W.cell? ⟨w2.heap.size, 1, none⟩ = some (.int .i64 m') ∧ W.frozen? ⟨w2.heap.size, 0, none⟩ = false ∧ W.frozen? ⟨w2.heap.size, 1, none⟩ = false ∧ w2.heap.size < W.heap.size) ∧ (W.cell? ⟨(w1.heap.size + 1), 0, none⟩ = some (.int .i64 c) ∧ W.cell? ⟨(w1.heap.size + 1), 1, none⟩ = some (.int .i64 m5) ∧ W.frozen? ⟨(w1.heap.size + 1), 0, none⟩ = false ∧ W.frozen? ⟨(w1.heap.size + 1), 1, none⟩ = false ∧ (w1.heap.size + 1) < W.heap.size) ∧ (W.cell? ⟨w1.heap.size, 0, none⟩ = some (.int .i64 a) ∧ W.cell? ⟨w1.heap.size, 1, none⟩ = some (.int .i64 b) ∧ W.frozen? ⟨w1.heap.size, 0, none⟩ = false ∧ W.frozen? ⟨w1.heap.size, 1, none⟩ = false ∧ w1.heap.size < W.heap.size)) ∧ Below w.heap.size w W → ((w'.cell? ⟨w5.heap.size, 0, none⟩ = some (.int .i64 (-c)) ∧ w'.cell? ⟨w5.heap.size, 1, none⟩ = some (.int .i64 m5) ∧ w'.frozen? ⟨w5.heap.size, 0, none⟩ = false ∧ w'.frozen? ⟨w5.heap.size, 1, none⟩ = false ∧ w5.heap.size < w'.heap.size) ∧ (w'.cell? ⟨w4.heap.size, 0, none⟩ = some (.int .i64 0) ∧ w'.cell? ⟨w4.heap.size, 1, none⟩ = some (.int .i64 1) ∧ w'.frozen? ⟨w4.heap.size, 0, none⟩ = false ∧ w'.frozen? ⟨w4.heap.size, 1, none⟩ = false ∧ w4.heap.size < w'.heap.size) ∧ (w'.cell? ⟨w3.heap.size, 0, none⟩ = some (.int .i64 n') ∧ w'.cell? ⟨w3.heap.size, 1, none⟩ = some (.int .i64 m') ∧ w'.frozen? ⟨w3.heap.size, 0, none⟩ = false ∧ w'.frozen? ⟨w3.heap.size, 1, none⟩ = false ∧ w3.heap.size < w'.heap.size) ∧ (w'.cell? ⟨w2.heap.size, 0, none⟩ = some (.int .i64 n') ∧ w'.cell? ⟨w2.heap.size, 1, none⟩ = some (.int .i64 m') ∧ w'.frozen? ⟨w2.heap.size, 0, none⟩ = false ∧ w'.frozen? ⟨w2.heap.size, 1, none⟩ = false ∧ w2.heap.size < w'.heap.size) ∧ (w'.cell? ⟨(w1.heap.size + 1), 0, none⟩ = some (.int .i64 c) ∧ w'.cell? ⟨(w1.heap.size + 1), 1, none⟩ = some (.int .i64 m5) ∧ w'.frozen? ⟨(w1.heap.size + 1), 0, none⟩ = false ∧ w'.frozen? ⟨(w1.heap.size + 1), 1, none⟩ = false ∧ (w1.heap.size + 1) < w'.heap.size) ∧ (w'.cell? ⟨w1.heap.size, 0, none⟩ = some (.int .i64 a) ∧ w'.cell? ⟨w1.heap.size, 1, none⟩ = some (.int .i64 b) ∧ w'.frozen? ⟨w1.heap.size, 0, none⟩ = false ∧ w'.frozen? ⟨w1.heap.size, 1, none⟩ = false ∧ w1.heap.size < w'.heap.size)) ∧ Below w.heap.size w w' := by
      intro W w' hb5 h
      have s : St w w' [(w5.heap.size, (-c), m5), (w4.heap.size, 0, 1), (w3.heap.size, n', m'), (w2.heap.size, n', m'), ((w1.heap.size + 1), c, m5), (w1.heap.size, a, b)] := St.next ⟨h.2, by simp only [Holds, and_true]; exact h.1⟩ hb5
      have r := s.holds
      simp only [Holds, and_true] at r
      exact ⟨r, s.below⟩
    have Sd := S.drew
    have r0 := Sd.holds
    have B0 := Sd.below
    simp only [Holds, and_true] at r0
    try simp only [World.size_alloc] at r0
    have keep0 := And.intro r0 B0
    clear r0 B0
    go_region_held3 (fun w' => ((w'.cell? ⟨w5.heap.size, 0, none⟩ = some (.int .i64 (-c)) ∧ w'.cell? ⟨w5.heap.size, 1, none⟩ = some (.int .i64 m5) ∧ w'.frozen? ⟨w5.heap.size, 0, none⟩ = false ∧ w'.frozen? ⟨w5.heap.size, 1, none⟩ = false ∧ w5.heap.size < w'.heap.size) ∧ (w'.cell? ⟨w4.heap.size, 0, none⟩ = some (.int .i64 0) ∧ w'.cell? ⟨w4.heap.size, 1, none⟩ = some (.int .i64 1) ∧ w'.frozen? ⟨w4.heap.size, 0, none⟩ = false ∧ w'.frozen? ⟨w4.heap.size, 1, none⟩ = false ∧ w4.heap.size < w'.heap.size) ∧ (w'.cell? ⟨w3.heap.size, 0, none⟩ = some (.int .i64 n') ∧ w'.cell? ⟨w3.heap.size, 1, none⟩ = some (.int .i64 m') ∧ w'.frozen? ⟨w3.heap.size, 0, none⟩ = false ∧ w'.frozen? ⟨w3.heap.size, 1, none⟩ = false ∧ w3.heap.size < w'.heap.size) ∧ (w'.cell? ⟨w2.heap.size, 0, none⟩ = some (.int .i64 n') ∧ w'.cell? ⟨w2.heap.size, 1, none⟩ = some (.int .i64 m') ∧ w'.frozen? ⟨w2.heap.size, 0, none⟩ = false ∧ w'.frozen? ⟨w2.heap.size, 1, none⟩ = false ∧ w2.heap.size < w'.heap.size) ∧ (w'.cell? ⟨(w1.heap.size + 1), 0, none⟩ = some (.int .i64 c) ∧ w'.cell? ⟨(w1.heap.size + 1), 1, none⟩ = some (.int .i64 m5) ∧ w'.frozen? ⟨(w1.heap.size + 1), 0, none⟩ = false ∧ w'.frozen? ⟨(w1.heap.size + 1), 1, none⟩ = false ∧ (w1.heap.size + 1) < w'.heap.size) ∧ (w'.cell? ⟨w1.heap.size, 0, none⟩ = some (.int .i64 a) ∧ w'.cell? ⟨w1.heap.size, 1, none⟩ = some (.int .i64 b) ∧ w'.frozen? ⟨w1.heap.size, 0, none⟩ = false ∧ w'.frozen? ⟨w1.heap.size, 1, none⟩ = false ∧ w1.heap.size < w'.heap.size)) ∧ Below w.heap.size w w') (first | exact keep0 | exact held _ _ b6 (by assumption)) (first | (go_at_call 23; refine (frac_any _ _).mono ?_; rintro e w6 ⟨rfl, b6⟩))
    have hz := held _ _ b6 (by assumption)
    go_wp2
    go_ret
    exact ⟨by first | rfl | simp, hz.2⟩

set_option maxRecDepth 100000 in
theorem lifted (os : Os) (started : os.Started) (H : Type) (enc : TypeId × Value → H) :
    ReturnsInHanded {} Try.checked os 10 .any (Rows.fnFracSubSelfSpec.pre6 enc Try.prog Try.f10 Rows.fnFracSubSelfRow.domain false) (Rows.fnFracSubSelfSpec.post enc Try.prog Try.f10 false true false false) := by
  refine returnsInHanded_of_change (C := Try.checked) own started (by kernel_rfl) Try.func10
    (ChangeSpec.witness6 (enc := enc) (C := Try.checked) false ⟨#[], #[.slice none 0 0], []⟩ 8 (by kernel_rfl) (by kernel_rfl) (by kernel_rfl) (by kernel_rfl)) ?_
  intro W base args ds gs before hval0 hW hcnd _
  have hval : ∀ (j : Nat) t v, Try.f10.params[j]? = some t → args[j]? = some v → Value.okWide Try.prog W .any base t v := hval0
  have hW' := hW
  obtain ⟨p, q, hA0, hV, rfl, hfz, hnd⟩ := hW
  have hA : DataW.TrodAll enc Try.prog W 0 (fun _ => true) true Try.f10.params.toList args.toList ds p := hA0
  rw [Try.params10] at hA hval
  obtain ⟨v0, vs0, d0, ds0, p0, q0, hargs, rfl, rfl, h0, r0⟩ := trodAll_cons hA
  obtain ⟨rfl, rfl, rfl⟩ := trodAll_nil r0
  obtain rfl : args = #[v0] := by cases args; simp_all
  obtain ⟨rfl, rfl⟩ := trodVars_none hV
  obtain ⟨a0, len0, cap0, rfl⟩ := okWide_slice Try.underlying22 (hval 0 22 v0 rfl rfl)
  have k0 := h0
  have lt0 : ∀ x ∈ p0, x.block < W.heap.size := by obtain ⟨m, hm⟩ := k0; exact DataW.trod_lt m _ _ _ hm
  obtain ⟨z0, w0⟩ : ∃ zs, IsRow .u8 W a0 len0 cap0 zs := by
    obtain ⟨fuel, hf⟩ := h0
    rcases open_ints Try.underlying22 Try.underlying5 (by kernel_rfl) hf with ⟨hcs, _⟩ | ⟨x, l, c, zs, hcs, _, hl, hm, hz, _, hcell, hwz⟩
    · simp [Value.cells] at hcs
      obtain ⟨rfl, rfl, rfl⟩ := hcs
      exact ⟨[], .inl ⟨rfl, rfl, rfl, rfl⟩⟩
    · simp [Value.cells] at hcs
      obtain ⟨rfl, rfl, rfl⟩ := hcs
      exact ⟨zs, .inr ⟨_, rfl, hl, hm, by simpa using hz, hcell, hwz⟩⟩
  clear hA0 hval0
  refine (walk a0 len0 cap0 z0 W w0).mono fun e W' ⟨he, bel⟩ => ?_
  subst he
  exact ⟨_, rfl, _, _, _, [], _, [], hW', trodAll_mk1 (shut_bool Try.underlying4 _), (trodAll_cons_mk (Below.trod laidOut (by kernel_rfl) (of_decide_eq_true (by kernel_rfl)) k0 bel lt0) trodAll_mk0), rfl, bel.frame _, fun h => by cases h⟩

theorem over : Rows.fnFracSubSelfRow.holds Try.pinned (OpenSpec.ofChange Rows.fnFracSubSelfSpec) :=
  OpenClaim.holds_of_wide 10 Try.f10 rfl rfl rfl rfl rfl rfl rfl ⟨rfl, rfl, rfl, rfl, rfl⟩ rfl rfl rfl rfl rfl (by kernel_rfl) Try.func10 (by kernel_rfl)
    (of_decide_eq_true (by kernel_rfl)) (by unfold Func.isWrapper; first | (rw [if_pos (by decide +kernel)]; kernel_rfl) | (rw [if_neg (by decide +kernel)]; exact ⟨rfl, rfl⟩))
    (fun os started H enc _ => lifted os started H enc)

/-- ████ THE STATEMENT ████ -/
theorem proved : Rows.FnFracSubSelfSaid := over
#print axioms proved
end Go.Proofs.Ytahiidepegdnmab.fnFracSubSelf
