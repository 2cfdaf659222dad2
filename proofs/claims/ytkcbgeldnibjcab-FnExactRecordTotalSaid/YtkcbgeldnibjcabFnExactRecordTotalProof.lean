/- For every input, the law FnExactRecordTotal of the given statements returns true over the program at this commit, and its arguments read afterwards as before: no condition. -/
import Derived.Test.YtkcbgeldnibjcabRows
import Derived.Test.YtkcbgeldnibjcabExactR
import Derived.WalkKit
import Derived.ProofKit
import Derived.OpenShut
import Derived.ShutString
import Derived.ChangeOld
import Derived.Below
namespace Go.Proofs.Ytkcbgeldnibjcab.fnExactRecordTotal
open Go.ChangeShapes Go.WideShapes Go.ChangeAt Go.RowKit
open Go.ChangeMaps (open_string shut_string)
set_option linter.unusedVariables false

theorem own : ownKnob Try.prog.godebug = none := by kernel_rfl
theorem laidOut : laidOutB Try.prog = true := by kernel_rfl

/-- WHAT THE WALK IS TOLD OF A SLICE OF INTEGERS THAT CAME IN: it is nil; or it leads to a row of 'cap' cells, the numbers 'zs' (the first 'len' are its elements, the rest its spare room), each fitting its kind. -/
def IsRow (k : IntKind) (w : World) (a : Option Addr) (len cap : Nat) (zs : List Int) : Prop :=
  (a = none ∧ len = 0 ∧ cap = 0 ∧ zs = []) ∨
  ∃ x, a = some x ∧ len ≤ cap ∧ cap ≤ maxLen ∧ zs.length = cap ∧ (∀ i, i < zs.length → w.cell? (x.add i) = some (.int k (zs.getD i 0))) ∧ ∀ n ∈ zs, (Lit.int k n).wf = true

set_option maxRecDepth 100000 in
set_option maxHeartbeats 3200000 in
theorem walk (a0 : Option Addr) (len0 cap0 : Nat) (z0 : List Int) (a1 : Option Addr) (len1 cap1 : Nat) (z1 : List Int) (w : World) (w0 : IsRow .i64 w a0 len0 cap0 z0) (w1 : IsRow .i64 w a1 len1 cap1 z1) :
    Calls Try.prog 11 #[.slice a0 len0 cap0, .slice a1 len1 cap1] w fun e w' => e = .returned (.bool true) ∧ Below w.heap.size w w' := by
  obtain ⟨l0, r0, hn0⟩ := irow_of w0
  have R0 := Lib.hid r0; have HN0 := Lib.hid hn0
  clear w0 r0 hn0
  obtain ⟨l1, r1, hn1⟩ := irow_of w1
  have R1 := Lib.hid r1; have HN1 := Lib.hid hn1
  clear w1 r1 hn1
  by_cases hl0 : 1048576 < len0
  · have hd0 : decide ((1048576 : Int) < (len0 : Int)) = true := by simp; omega
    go_enter Try.func11, Try.ntmps11
    go_wp2_with fail
    go_ret
    exact ⟨rfl, Below.refl _ _⟩
  have hd0 : decide ((1048576 : Int) < (len0 : Int)) = false := by simp; omega
  have h20_0 : l0.length ≤ 1048576 := by have := HN0.out; omega
  by_cases hl1 : 1048576 < len1
  · have hd1 : decide ((1048576 : Int) < (len1 : Int)) = true := by simp; omega
    go_enter Try.func11, Try.ntmps11
    go_wp2_with fail
    go_ret
    exact ⟨rfl, Below.refl _ _⟩
  have hd1 : decide ((1048576 : Int) < (len1 : Int)) = false := by simp; omega
  have h20_1 : l1.length ≤ 1048576 := by have := HN1.out; omega
  go_enter Try.func11, Try.ntmps11
  have S := St.start (Below.refl w.heap.size w)
  go_wp2_with fail
  refine (toIntS_any R0.out h20_0).mono ?_
  rintro e wv2 ⟨vA0, rfl, o9, b2⟩
  replace R0 := Lib.hid ((R0.out.grow b2))
  replace R1 := Lib.hid ((R1.out.grow b2))
  replace S := (S.next b2)
  have A0 := Lib.hid o9
  clear o9
  clear b2
  go_wp2_with fail
  refine (toIntS_any R1.out h20_1).mono ?_
  rintro e wv3 ⟨vA1, rfl, o9, b3⟩
  replace R0 := Lib.hid ((R0.out.grow b3))
  replace R1 := Lib.hid ((R1.out.grow b3))
  replace A0 := Lib.hid ((A0.out.grow b3))
  replace S := (S.next b3)
  have A1 := Lib.hid o9
  clear o9
  clear b3
  go_wp2_with fail
  refine (specRecordTotal_any A0.out.row A1.out.row).mono ?_
  rintro e wv4 ⟨rfl, b4⟩
  replace R0 := Lib.hid ((R0.out.grow b4))
  replace R1 := Lib.hid ((R1.out.grow b4))
  replace A0 := Lib.hid ((A0.out.grow b4))
  replace A1 := Lib.hid ((A1.out.grow b4))
  replace S := (S.next b4)
  clear b4
  go_wp2_with fail
  refine (toIntS_any R0.out h20_0).mono ?_
  rintro e wv5 ⟨vX0, rfl, o9, b5⟩
  replace R0 := Lib.hid ((R0.out.grow b5))
  replace R1 := Lib.hid ((R1.out.grow b5))
  replace S := (S.next b5)
  have X0 := Lib.hid o9
  clear o9
  clear b5
  go_wp2_with fail
  refine (toIntS_any R1.out h20_1).mono ?_
  rintro e wv6 ⟨vX1, rfl, o9, b6⟩
  replace R0 := Lib.hid ((R0.out.grow b6))
  replace R1 := Lib.hid ((R1.out.grow b6))
  replace X0 := Lib.hid ((X0.out.grow b6))
  replace S := (S.next b6)
  have X1 := Lib.hid o9
  clear o9
  clear b6
  go_wp2_with fail
  refine (implRecordTotal_any ⟨X0.out.row, X1.out.row⟩).mono ?_
  rintro e wv7 ⟨rfl, b7⟩
  replace R0 := Lib.hid ((R0.out.grow b7))
  replace R1 := Lib.hid ((R1.out.grow b7))
  replace X0 := Lib.hid ((X0.out.grow b7))
  replace X1 := Lib.hid ((X1.out.grow b7))
  replace S := (S.next b7)
  clear b7
  go_wp2_with fail
  refine (toIntS_any R0.out h20_0).mono ?_
  rintro e wv8 ⟨vY0, rfl, o9, b8⟩
  replace R0 := Lib.hid ((R0.out.grow b8))
  replace R1 := Lib.hid ((R1.out.grow b8))
  replace X0 := Lib.hid ((X0.out.grow b8))
  replace X1 := Lib.hid ((X1.out.grow b8))
  replace S := (S.next b8)
  have Y0 := Lib.hid o9
  clear o9
  clear b8
  go_wp2_with fail
  refine (ieqs_yes X0.out.row Y0.out.row rfl).mono ?_
  rintro e wv9 ⟨rfl, b9⟩
  replace R0 := Lib.hid ((R0.out.grow b9))
  replace R1 := Lib.hid ((R1.out.grow b9))
  replace X0 := Lib.hid ((X0.out.grow b9))
  replace X1 := Lib.hid ((X1.out.grow b9))
  replace Y0 := Lib.hid ((Y0.out.grow b9))
  replace S := (S.next b9)
  clear b9
  go_wp2_with fail
  refine (toIntS_any R1.out h20_1).mono ?_
  rintro e wv10 ⟨vY1, rfl, o9, b10⟩
  replace R0 := Lib.hid ((R0.out.grow b10))
  replace R1 := Lib.hid ((R1.out.grow b10))
  replace X0 := Lib.hid ((X0.out.grow b10))
  replace X1 := Lib.hid ((X1.out.grow b10))
  replace S := (S.next b10)
  have Y1 := Lib.hid o9
  clear o9
  clear b10
  go_wp2_with fail
  refine (ieqs_yes X1.out.row Y1.out.row rfl).mono ?_
  rintro e wv11 ⟨rfl, b11⟩
  replace R0 := Lib.hid ((R0.out.grow b11))
  replace R1 := Lib.hid ((R1.out.grow b11))
  replace X0 := Lib.hid ((X0.out.grow b11))
  replace X1 := Lib.hid ((X1.out.grow b11))
  replace Y1 := Lib.hid ((Y1.out.grow b11))
  replace S := (S.next b11)
  clear b11
  go_wp2_with fail
  go_ret
  exact ⟨by first | rfl | (simp; done) | (simp; omega), S.below⟩

set_option maxRecDepth 100000 in
theorem lifted (os : Os) (started : os.Started) (H : Type) (enc : TypeId × Value → H) :
    ReturnsInHanded {} Try.checked os 11 .any (Rows.fnExactRecordTotalSpec.pre6 enc Try.prog Try.f11 Rows.fnExactRecordTotalRow.domain false) (Rows.fnExactRecordTotalSpec.post enc Try.prog Try.f11 false true false false) := by
  refine returnsInHanded_of_change (C := Try.checked) own started (by kernel_rfl) Try.func11
    (ChangeSpec.witness6 (enc := enc) (C := Try.checked) false ⟨#[], #[.slice none 0 0, .slice none 0 0], []⟩ 8 (by kernel_rfl) (by kernel_rfl) (by kernel_rfl) (by kernel_rfl)) ?_
  intro W base args ds gs before hval0 hW hcnd _
  have hval : ∀ (j : Nat) t v, Try.f11.params[j]? = some t → args[j]? = some v → Value.okWide Try.prog W .any base t v := hval0
  have hW' := hW
  obtain ⟨p, q, hA0, hV, rfl, hfz, hnd⟩ := hW
  have hA : DataW.TrodAll enc Try.prog W 0 (fun _ => true) true Try.f11.params.toList args.toList ds p := hA0
  rw [Try.params11] at hA hval
  obtain ⟨v0, vs0, d0, ds0, p0, q0, hargs, rfl, rfl, h0, r0⟩ := trodAll_cons hA
  obtain ⟨v1, vs1, d1, ds1, p1, q1, rfl, rfl, rfl, h1, r1⟩ := trodAll_cons r0
  obtain ⟨rfl, rfl, rfl⟩ := trodAll_nil r1
  obtain rfl : args = #[v0, v1] := by cases args; simp_all
  obtain ⟨rfl, rfl⟩ := trodVars_none hV
  obtain ⟨a0, len0, cap0, rfl⟩ := okWide_slice Try.underlying23 (hval 0 23 v0 rfl rfl)
  have k0 := h0
  have lt0 : ∀ x ∈ p0, x.block < W.heap.size := by obtain ⟨m, hm⟩ := k0; exact DataW.trod_lt m _ _ _ hm
  obtain ⟨z0, w0⟩ : ∃ zs, IsRow .i64 W a0 len0 cap0 zs := by
    obtain ⟨fuel, hf⟩ := h0
    rcases open_ints Try.underlying23 Try.underlying3 (by kernel_rfl) hf with ⟨hcs, _⟩ | ⟨x, l, c, zs, hcs, _, hl, hm, hz, _, hcell, hwz⟩
    · simp [Value.cells] at hcs
      obtain ⟨rfl, rfl, rfl⟩ := hcs
      exact ⟨[], .inl ⟨rfl, rfl, rfl, rfl⟩⟩
    · simp [Value.cells] at hcs
      obtain ⟨rfl, rfl, rfl⟩ := hcs
      exact ⟨zs, .inr ⟨_, rfl, hl, hm, by simpa using hz, hcell, hwz⟩⟩
  obtain ⟨a1, len1, cap1, rfl⟩ := okWide_slice Try.underlying23 (hval 1 23 v1 rfl rfl)
  have k1 := h1
  have lt1 : ∀ x ∈ p1, x.block < W.heap.size := by obtain ⟨m, hm⟩ := k1; exact DataW.trod_lt m _ _ _ hm
  obtain ⟨z1, w1⟩ : ∃ zs, IsRow .i64 W a1 len1 cap1 zs := by
    obtain ⟨fuel, hf⟩ := h1
    rcases open_ints Try.underlying23 Try.underlying3 (by kernel_rfl) hf with ⟨hcs, _⟩ | ⟨x, l, c, zs, hcs, _, hl, hm, hz, _, hcell, hwz⟩
    · simp [Value.cells] at hcs
      obtain ⟨rfl, rfl, rfl⟩ := hcs
      exact ⟨[], .inl ⟨rfl, rfl, rfl, rfl⟩⟩
    · simp [Value.cells] at hcs
      obtain ⟨rfl, rfl, rfl⟩ := hcs
      exact ⟨zs, .inr ⟨_, rfl, hl, hm, by simpa using hz, hcell, hwz⟩⟩
  clear hA0 hval0
  refine (walk a0 len0 cap0 z0 a1 len1 cap1 z1 W w0 w1).mono fun e W' ⟨he, bel⟩ => ?_
  subst he
  exact ⟨_, rfl, _, _, _, [], _, [], hW', trodAll_mk1 (shut_bool Try.underlying4 _), (trodAll_cons_mk (Below.trod laidOut (by kernel_rfl) (of_decide_eq_true (by kernel_rfl)) k0 bel lt0) (trodAll_cons_mk (Below.trod laidOut (by kernel_rfl) (of_decide_eq_true (by kernel_rfl)) k1 bel lt1) trodAll_mk0)), rfl, bel.frame _, fun h => by cases h⟩

theorem over : Rows.fnExactRecordTotalRow.holds Try.pinned (OpenSpec.ofChange Rows.fnExactRecordTotalSpec) :=
  OpenClaim.holds_of_wide 11 Try.f11 rfl rfl rfl rfl rfl rfl rfl ⟨rfl, rfl, rfl, rfl, rfl⟩ rfl rfl rfl rfl rfl (by kernel_rfl) Try.func11 (by kernel_rfl)
    (of_decide_eq_true (by kernel_rfl)) (by unfold Func.isWrapper; first | (rw [if_pos (by decide +kernel)]; kernel_rfl) | (rw [if_neg (by decide +kernel)]; exact ⟨rfl, rfl⟩))
    (fun os started H enc _ => lifted os started H enc)

/-- ████ THE STATEMENT ████ -/
theorem proved : Rows.FnExactRecordTotalSaid := over
#print axioms proved
end Go.Proofs.Ytkcbgeldnibjcab.fnExactRecordTotal
