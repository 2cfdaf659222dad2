/- For every input, the law FnAtRises of the given statements returns true over the program at this commit, and its arguments read afterwards as before: no condition. -/
import Derived.Test.YthpfehjjaamkkaaRows
import Derived.Test.YthpfehjjaamkkaaLawK
import Derived.WalkKit
import Derived.ProofKit
import Derived.OpenShut
import Derived.ShutString
import Derived.ChangeOld
import Derived.Below
namespace Go.Proofs.Ythpfehjjaamkkaa.fnAtRises
open Go.ChangeShapes Go.WideShapes Go.ChangeAt Go.RowKit
open Go.ChangeMaps (open_string shut_string)
set_option linter.unusedVariables false

theorem own : ownKnob Try.prog.godebug = none := by kernel_rfl
theorem laidOut : laidOutB Try.prog = true := by kernel_rfl

/-- WHAT THE WALK IS TOLD OF A SLICE OF INTEGERS THAT CAME IN: it is nil; or it leads to a row of 'cap' cells, the numbers 'zs' (the first 'len' are its elements, the rest its spare room), each fitting its kind. -/
def IsRow (k : IntKind) (w : World) (a : Option Addr) (len cap : Nat) (zs : List Int) : Prop :=
  (a = none ∧ len = 0 ∧ cap = 0 ∧ zs = []) ∨
  ∃ x, a = some x ∧ len ≤ cap ∧ cap ≤ maxLen ∧ zs.length = cap ∧ (∀ i, i < zs.length → w.cell? (x.add i) = some (.int k (zs.getD i 0))) ∧ ∀ n ∈ zs, (Lit.int k n).wf = true

set_option maxRecDepth 100000 in
set_option maxHeartbeats 3200000 in
theorem walk (a0 : Option Addr) (len0 cap0 : Nat) (z0 : List Int) (w : World) (w0 : IsRow .u8 w a0 len0 cap0 z0) :
    Calls Try.prog 5 #[.slice a0 len0 cap0] w fun e w' => e = .returned (.bool true) ∧ Below w.heap.size w w' := by
  have hB := bytes_of w0
  by_cases hl : 1048576 < len0
  · have hdec : decide (1048576 < len0) = true := by simpa using hl
    go_enter Try.func5, Try.ntmps5
    go_wp2_with fail
    go_ret
    exact ⟨rfl, Below.refl _ _⟩
  have hdec : decide (1048576 < len0) = false := by simpa using hl
  have hm : len0 ≤ 1048576 := by omega
  go_enter Try.func5, Try.ntmps5
  go_wp2_with fail
  refine (DrawCurveAt_any hB).mono ?_
  rintro e u1 ⟨v, l, x, rfl, hr, hbd, hl, hx0, hx1, b1⟩
  clear w0 hB
  have S := St.start b1
  clear b1
  have R := Lib.hid hr
  clear hr
  have BD := Lib.hid hbd
  clear hbd
  cases ho : onC l ((x : Int) : Rat)
  · have HO := Lib.hid ho
    clear ho
    go_wp2_with fail
    refine (at_no R.out HO.out).mono ?_
    rintro e u2 ⟨rfl, b2⟩
    replace R := Lib.hid ((R.out.grow b2).alloc 0 0 32)
    replace S := (S.next b2).alloc 0 0
    clear b2
    have r := S.holds
    simp only [Holds, and_true] at r
    try simp only [World.size_alloc] at r
    go_wp2_with fail
    refine (at_noS R.out HO.out).mono ?_
    rintro e u3 ⟨rfl, b3⟩
    replace R := Lib.hid ((R.out.grow b3).alloc 0 0 32)
    replace S := (S.next b3).alloc 0 0
    clear b3
    clear r
    have r := S.holds
    simp only [Holds, and_true] at r
    try simp only [World.size_alloc] at r
    go_wp2_with fail
    go_ret
    exact ⟨by simp, S.below⟩
  have HO := Lib.hid ho
  clear ho
  go_wp2_with fail
  refine (at_yes R.out HO.out).mono ?_
  rintro e u2 ⟨n, d, rfl, hf, hq, b2⟩
  replace R := Lib.hid ((R.out.grow b2).alloc n d 32)
  replace S := (S.next b2).alloc n d
  clear b2
  have r := S.holds
  simp only [Holds, and_true] at r
  try simp only [World.size_alloc] at r
  have HF := Lib.hid hf; have HQ := Lib.hid hq
  clear hf hq
  go_wp2_with fail
  refine (got_same (at_yesS R.out HO.out) HF.out HQ.out).mono ?_
  rintro e u3 ⟨rfl, b3⟩
  replace R := Lib.hid ((R.out.grow b3).alloc n d 32)
  replace S := (S.next b3).alloc n d
  clear b3
  clear r
  have r := S.holds
  simp only [Holds, and_true] at r
  try simp only [World.size_alloc] at r
  have HC := Lib.hid (onC_curve HO.out)
  obtain ⟨g, o, cp, rfl, hcap, hcapm⟩ := R.out.known hl
  unfold maxLen at hcapm
  obtain ⟨m, hm⟩ : ∃ m, l.length = m + 1 := ⟨l.length - 1, by omega⟩
  rw [hm] at hcap
  rw [hm] at R
  rw [hm]
  have HM := Lib.hid hm
  have em : l.length - 1 = m := by omega
  have hml : m < l.length := by omega
  have h0l : 0 < l.length := by omega
  have q0 : (0 : Int) < (m : Int) + 1 := by omega
  have q1 : 0 < m + 1 := by omega
  have q2 : IntKind.i64.wrap ((m : Int) + 1 - 1) = (m : Int) := by rw [show (m : Int) + 1 - 1 = m by omega]; exact IntWalk.i64_in _ (by omega)
  have q2' : IntKind.i64.wrap (m : Int) = (m : Int) := IntWalk.i64_in _ (by omega)
  have q3 : (0 : Int) ≤ (m : Int) := by omega
  have q4 : (m : Int) < (m : Int) + 1 := by omega
  have q5 : m < m + 1 := by omega
  have ix := (onC_is HC.out h0l).1 HO.out
  simp only [em] at ix
  have z0 : IntKind.i64.wrap (x + 1) = x + 1 := IntWalk.i64_in _ (by omega)
  by_cases hx : x = l[m].1
  · have N1 := Lib.hid (onC_not (x := x + 1) HC.out h0l (.inr (by simp only [em]; omega)))
    have e1 : (x == l[m].1) = true := by simpa using hx
    clear hx
    go_wp2_with fail
    refine (at_no R.out N1.out).mono ?_
    rintro e u4 ⟨rfl, b4⟩
    replace R := Lib.hid ((R.out.grow b4).alloc 0 0 32)
    replace S := (S.next b4).alloc 0 0
    clear b4
    clear r
    have r := S.holds
    simp only [Holds, and_true] at r
    try simp only [World.size_alloc] at r
    obtain ⟨t0, t1⟩ := R.out.cells m hml
    go_wp2_with fail
    go_ret
    exact ⟨by first | rfl | (simp; done) | (simp; omega), S.below⟩
  · have O1 := Lib.hid ((onC_is (x := x + 1) HC.out h0l).2 (by simp only [em]; omega))
    have e1 : (x == l[m].1) = false := by simpa using hx
    clear hx
    go_wp2_with fail
    refine (at_yes R.out O1.out).mono ?_
    rintro e u4 ⟨n2, d2, rfl, hf2, hq2, b4⟩
    replace R := Lib.hid ((R.out.grow b4).alloc n2 d2 32)
    replace S := (S.next b4).alloc n2 d2
    clear b4
    clear r
    have r := S.holds
    simp only [Holds, and_true] at r
    try simp only [World.size_alloc] at r
    obtain ⟨t0, t1⟩ := R.out.cells m hml
    have LT : Hid (decide (fq n d < fq n2 d2) = true) := Lib.hid (decide_eq_true (by rw [HQ.out, hq2]; exact at_rises HO.out O1.out (Rat.intCast_lt_intCast.2 (by omega))))
    have HF2 := Lib.hid hf2
    clear hf2 hq2
    go_wp2_with fail
    refine (less_is' HF.out HF2.out LT.out _).mono ?_
    rintro e u5 ⟨rfl, b5⟩
    replace R := Lib.hid ((R.out.grow b5))
    replace S := (S.next b5)
    clear b5
    clear r
    have r := S.holds
    simp only [Holds, and_true] at r
    try simp only [World.size_alloc] at r
    go_wp2_with fail
    go_ret
    exact ⟨by first | rfl | (simp; done) | (simp; omega), S.below⟩

set_option maxRecDepth 100000 in
theorem lifted (os : Os) (started : os.Started) (H : Type) (enc : TypeId × Value → H) :
    ReturnsInHanded {} Try.checked os 5 .any (Rows.fnAtRisesSpec.pre6 enc Try.prog Try.f5 Rows.fnAtRisesRow.domain false) (Rows.fnAtRisesSpec.post enc Try.prog Try.f5 false true false false) := by
  refine returnsInHanded_of_change (C := Try.checked) own started (by kernel_rfl) Try.func5
    (ChangeSpec.witness6 (enc := enc) (C := Try.checked) false ⟨#[], #[.slice none 0 0], []⟩ 8 (by kernel_rfl) (by kernel_rfl) (by kernel_rfl) (by kernel_rfl)) ?_
  intro W base args ds gs before hval0 hW hcnd _
  have hval : ∀ (j : Nat) t v, Try.f5.params[j]? = some t → args[j]? = some v → Value.okWide Try.prog W .any base t v := hval0
  have hW' := hW
  obtain ⟨p, q, hA0, hV, rfl, hfz, hnd⟩ := hW
  have hA : DataW.TrodAll enc Try.prog W 0 (fun _ => true) true Try.f5.params.toList args.toList ds p := hA0
  rw [Try.params5] at hA hval
  obtain ⟨v0, vs0, d0, ds0, p0, q0, hargs, rfl, rfl, h0, r0⟩ := trodAll_cons hA
  obtain ⟨rfl, rfl, rfl⟩ := trodAll_nil r0
  obtain rfl : args = #[v0] := by cases args; simp_all
  obtain ⟨rfl, rfl⟩ := trodVars_none hV
  obtain ⟨a0, len0, cap0, rfl⟩ := okWide_slice Try.underlying22 (hval 0 22 v0 rfl rfl)
  have k0 := h0
  have lt0 : ∀ x ∈ p0, x.block < W.heap.size := by obtain ⟨m, hm⟩ := k0; exact DataW.trod_lt m _ _ _ hm
  obtain ⟨z0, w0⟩ : ∃ zs, IsRow .u8 W a0 len0 cap0 zs := by
    obtain ⟨fuel, hf⟩ := h0
    rcases open_ints Try.underlying22 Try.underlying5 (by kernel_rfl) hf with ⟨hcs, _⟩ | ⟨x, l, c, zs, hcs, _, hl, hm, hz, _, hcell, hwz⟩
    · simp [Value.cells] at hcs
      obtain ⟨rfl, rfl, rfl⟩ := hcs
      exact ⟨[], .inl ⟨rfl, rfl, rfl, rfl⟩⟩
    · simp [Value.cells] at hcs
      obtain ⟨rfl, rfl, rfl⟩ := hcs
      exact ⟨zs, .inr ⟨_, rfl, hl, hm, by simpa using hz, hcell, hwz⟩⟩
  clear hA0 hval0
  refine (walk a0 len0 cap0 z0 W w0).mono fun e W' ⟨he, bel⟩ => ?_
  subst he
  exact ⟨_, rfl, _, _, _, [], _, [], hW', trodAll_mk1 (shut_bool Try.underlying4 _), (trodAll_cons_mk (Below.trod laidOut (by kernel_rfl) (of_decide_eq_true (by kernel_rfl)) k0 bel lt0) trodAll_mk0), rfl, bel.frame _, fun h => by cases h⟩

theorem over : Rows.fnAtRisesRow.holds Try.pinned (OpenSpec.ofChange Rows.fnAtRisesSpec) :=
  OpenClaim.holds_of_wide 5 Try.f5 rfl rfl rfl rfl rfl rfl rfl ⟨rfl, rfl, rfl, rfl, rfl⟩ rfl rfl rfl rfl rfl (by kernel_rfl) Try.func5 (by kernel_rfl)
    (of_decide_eq_true (by kernel_rfl)) (by unfold Func.isWrapper; first | (rw [if_pos (by decide +kernel)]; kernel_rfl) | (rw [if_neg (by decide +kernel)]; exact ⟨rfl, rfl⟩))
    (fun os started H enc _ => lifted os started H enc)

/-- ████ THE STATEMENT ████ -/
theorem proved : Rows.FnAtRisesSaid := over
#print axioms proved
end Go.Proofs.Ythpfehjjaamkkaa.fnAtRises
