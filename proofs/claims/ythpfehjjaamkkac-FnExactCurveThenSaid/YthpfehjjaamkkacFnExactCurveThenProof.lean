/- For every input, the law FnExactCurveThen of the given statements returns true over the program at this commit, and its arguments read afterwards as before: no condition. -/
import Derived.Test.YthpfehjjaamkkacRows
import Derived.Test.YthpfehjjaamkkacKnotX
import Derived.Test.YthpfehjjaamkkacSpecThen
import Derived.WalkKit
import Derived.ProofKit
import Derived.OpenShut
import Derived.ShutString
import Derived.Lib.SmallJoins
import Derived.ChangeOld
import Derived.Below
import Derived.Carry
namespace Go.Proofs.Ythpfehjjaamkkac.fnExactCurveThen
open Go.ChangeShapes Go.WideShapes Go.ChangeAt Go.RowKit
open Go.ChangeMaps (open_string shut_string)
set_option linter.unusedVariables false

theorem own : ownKnob Try.prog.godebug = none := by kernel_rfl

theorem laidOut : laidOutB Try.prog = true := by kernel_rfl

set_option maxRecDepth 100000 in
set_option maxHeartbeats 3200000 in
theorem walk (a0 : Option Addr) (len0 cap0 : Nat) (l0 : List Pc) (a1 : Option Addr) (len1 cap1 : Nat) (l1 : List Pc) (a2 : Int) (w2 : (Lit.int .i64 a2).wf = true) (w : World) (w0 : Row w (.slice a0 len0 cap0) l0) (w1 : Row w (.slice a1 len1 cap1) l1) :
    Calls Try.prog 9 #[.slice a0 len0 cap0, .slice a1 len1 cap1, .int .i64 a2] w fun e w' => e = .returned (.bool true) ∧ Below w.heap.size w w' := by
  have R0 := Lib.hid w0
  have R1 := Lib.hid w1
  obtain ⟨_, n0, _, e0, hln, hc1, hc2, -⟩ := id w0
  obtain ⟨_, n1, _, e1, hln1, hd1, hd2, -⟩ := id w1
  simp only [Value.slice.injEq] at e0 e1
  obtain ⟨-, rfl, -⟩ := e0
  obtain ⟨-, rfl, -⟩ := e1
  have hc3 : len0 ≤ 9223372036854775807 := by unfold maxLen at hc2; omega
  have hd3 : len1 ≤ 9223372036854775807 := by unfold maxLen at hd2; omega
  clear w0 w1 hc1 hc2 hd1 hd2
  by_cases hl : (1048576 : Int) - len0 < 0
  · go_enter Try.func9, Try.ntmps9
    go_wp2_with fail
    refine (szKnotS_any _ _ _ hc3 _).mono ?_
    rintro e u1 ⟨rfl, rfl⟩
    rw [if_pos hl]
    go_wp2_with fail
    go_ret
    exact ⟨rfl, Below.refl _ _⟩
  have hl20 : l0.length ≤ 1048576 := by omega
  obtain ⟨lft, hlf⟩ : ∃ x : Int, (if (1048576 : Int) - len0 < 0 then (-1 : Int) else 1048576 - len0) = x := ⟨_, rfl⟩
  have hlf0 : 0 ≤ lft := by rw [← hlf, if_neg hl]; omega
  have hlf1 : lft ≤ 1048576 := by rw [← hlf, if_neg hl]; omega
  have HLF := Lib.hid hlf
  clear hlf hl
  by_cases hl : lft - len1 < 0
  · go_enter Try.func9, Try.ntmps9
    go_wp2_with fail
    refine (szKnotS_any _ _ _ hc3 _).mono ?_
    rintro e u1 ⟨rfl, rfl⟩
    rw [HLF.out]
    go_wp2_with fail
    refine (sz_any _ _ _ lft hlf0 hlf1 hd3 _).mono ?_
    rintro e u1 ⟨rfl, rfl⟩
    rw [if_pos hl]
    go_wp2_with fail
    go_ret
    exact ⟨rfl, Below.refl _ _⟩
  have hl21 : l1.length ≤ 1048576 := by omega
  obtain ⟨lfu, hlg⟩ : ∃ x : Int, (if lft - len1 < 0 then (-1 : Int) else lft - len1) = x := ⟨_, rfl⟩
  have hlg0 : 0 ≤ lfu := by rw [← hlg, if_neg hl]; omega
  have hlg1 : lfu ≤ 1048576 := by rw [← hlg, if_neg hl]; omega
  have HLG := Lib.hid hlg
  clear hlg hl
  go_enter Try.func9, Try.ntmps9
  go_wp2_with fail
  refine (szKnotS_any _ _ _ hc3 _).mono ?_
  rintro e u1 ⟨rfl, rfl⟩
  rw [HLF.out]
  go_wp2_with fail
  refine (sz_any _ _ _ lft hlf0 hlf1 hd3 _).mono ?_
  rintro e u1 ⟨rfl, rfl⟩
  rw [HLG.out]
  clear HLF HLG
  have S := St.start (Below.refl w.heap.size w)
  go_wp2_with fail
  refine (toKnotS_any R0.out hl20).mono ?_
  rintro e u2 ⟨v2, rfl, o2, b2⟩
  replace R0 := Lib.hid ((R0.out.grow b2))
  replace R1 := Lib.hid ((R1.out.grow b2))
  replace S := (S.next b2)
  have R2 := Lib.hid o2.row
  go_wp2_with fail
  refine (toKnotS_any R1.out hl21).mono ?_
  rintro e u3 ⟨v3, rfl, o3, b3⟩
  replace R0 := Lib.hid ((R0.out.grow b3))
  replace R1 := Lib.hid ((R1.out.grow b3))
  replace R2 := Lib.hid ((R2.out.grow b3))
  replace S := (S.next b3)
  have R3 := Lib.hid o3.row
  clear o2 b2 o3 b3
  go_wp2_with fail
  refine (specCurveThen_any a2 R2.out R3.out).mono ?_
  rintro e u4 ⟨n4, d4, ok4, rfl, hr4, b4⟩
  replace R0 := Lib.hid ((R0.out.grow b4).alloc n4 d4 35)
  replace R1 := Lib.hid ((R1.out.grow b4).alloc n4 d4 35)
  replace R2 := Lib.hid ((R2.out.grow b4).alloc n4 d4 35)
  replace R3 := Lib.hid ((R3.out.grow b4).alloc n4 d4 35)
  replace S := (S.next b4).alloc n4 d4
  have H4 := Lib.hid hr4
  clear hr4 b4 R2 R3
  go_wp2_with fail
  refine (toKnotS_any R0.out hl20).mono ?_
  rintro e u5 ⟨v5, rfl, o5, b5⟩
  replace R0 := Lib.hid ((R0.out.grow b5))
  replace R1 := Lib.hid ((R1.out.grow b5))
  replace S := (S.next b5)
  have R5 := Lib.hid o5.row
  go_wp2_with fail
  refine (toKnotS_any R1.out hl21).mono ?_
  rintro e u6 ⟨v6, rfl, o6, b6⟩
  replace R0 := Lib.hid ((R0.out.grow b6))
  replace R1 := Lib.hid ((R1.out.grow b6))
  replace R5 := Lib.hid ((R5.out.grow b6))
  replace S := (S.next b6)
  have R6 := Lib.hid o6.row
  clear o5 b5 o6 b6
  go_wp2_with fail
  refine (implCurveThen_any a2 R5.out R6.out).mono ?_
  rintro e u9 ⟨n9, d9, ok9, rfl, hr9, b9⟩
  obtain ⟨rfl, rfl, rfl⟩ := H4.out.same hr9
  replace R0 := Lib.hid ((R0.out.grow b9).alloc n9 d9 35)
  replace R1 := Lib.hid ((R1.out.grow b9).alloc n9 d9 35)
  replace R5 := Lib.hid ((R5.out.grow b9).alloc n9 d9 35)
  replace R6 := Lib.hid ((R6.out.grow b9).alloc n9 d9 35)
  replace S := (S.next b9).alloc n9 d9
  clear hr9 b9
  have r9 := S.holds
  simp only [Holds, and_true] at r9
  try simp only [World.size_alloc] at r9
  go_wp2_with fail
  refine (eqFrac_yes _ _ _).mono ?_
  rintro e ua ⟨rfl, ba⟩
  replace R0 := Lib.hid ((R0.out.grow ba))
  replace R1 := Lib.hid ((R1.out.grow ba))
  replace R5 := Lib.hid ((R5.out.grow ba))
  replace R6 := Lib.hid ((R6.out.grow ba))
  replace S := (S.next ba)
  clear ba r9
  go_wp2_with fail
  refine (toKnotS_any R0.out hl20).mono ?_
  rintro e ub ⟨vb, rfl, ob, bb⟩
  replace R0 := Lib.hid ((R0.out.grow bb))
  replace R1 := Lib.hid ((R1.out.grow bb))
  replace R5 := Lib.hid ((R5.out.grow bb))
  replace R6 := Lib.hid ((R6.out.grow bb))
  replace S := (S.next bb)
  have RB := Lib.hid ob.row
  clear ob bb
  go_wp2_with fail
  refine (eqs_yes R5.out RB.out rfl).mono ?_
  rintro e uc ⟨rfl, bc⟩
  replace R0 := Lib.hid ((R0.out.grow bc))
  replace R1 := Lib.hid ((R1.out.grow bc))
  replace R5 := Lib.hid ((R5.out.grow bc))
  replace R6 := Lib.hid ((R6.out.grow bc))
  replace RB := Lib.hid ((RB.out.grow bc))
  replace S := (S.next bc)
  clear bc RB
  go_wp2_with fail
  refine (toKnotS_any R1.out hl21).mono ?_
  rintro e ud ⟨vd, rfl, od, bd⟩
  replace R0 := Lib.hid ((R0.out.grow bd))
  replace R1 := Lib.hid ((R1.out.grow bd))
  replace R5 := Lib.hid ((R5.out.grow bd))
  replace R6 := Lib.hid ((R6.out.grow bd))
  replace S := (S.next bd)
  have RD := Lib.hid od.row
  clear od bd
  go_wp2_with fail
  refine (eqs_yes R6.out RD.out rfl).mono ?_
  rintro e ue ⟨rfl, be⟩
  replace R0 := Lib.hid ((R0.out.grow be))
  replace R1 := Lib.hid ((R1.out.grow be))
  replace R5 := Lib.hid ((R5.out.grow be))
  replace R6 := Lib.hid ((R6.out.grow be))
  replace RD := Lib.hid ((RD.out.grow be))
  replace S := (S.next be)
  go_wp2_with fail
  go_ret
  exact ⟨rfl, S.below⟩

set_option maxRecDepth 100000 in
theorem lifted (os : Os) (started : os.Started) (H : Type) (enc : TypeId × Value → H) :
    ReturnsInHanded {} Try.checked os 9 .any (Rows.fnExactCurveThenSpec.pre6 enc Try.prog Try.f9 Rows.fnExactCurveThenRow.domain false) (Rows.fnExactCurveThenSpec.post enc Try.prog Try.f9 false true false false) := by
  refine returnsInHanded_of_change (C := Try.checked) own started (by kernel_rfl) Try.func9
    (ChangeSpec.witness6 (enc := enc) (C := Try.checked) false ⟨#[], #[.slice none 0 0, .slice none 0 0, .int .i64 0], []⟩ 8 (by kernel_rfl) (by kernel_rfl) (by kernel_rfl) (by kernel_rfl)) ?_
  intro W base args ds gs before hval0 hW hcnd _
  have hval : ∀ (j : Nat) t v, Try.f9.params[j]? = some t → args[j]? = some v → Value.okWide Try.prog W .any base t v := hval0
  have hW' := hW
  obtain ⟨p, q, hA0, hV, rfl, hfz, hnd⟩ := hW
  have hA : DataW.TrodAll enc Try.prog W 0 (fun _ => true) true Try.f9.params.toList args.toList ds p := hA0
  rw [Try.params9] at hA hval
  obtain ⟨v0, vs0, d0, ds0, p0, q0, hargs, rfl, rfl, h0, r0⟩ := trodAll_cons hA
  obtain ⟨v1, vs1, d1, ds1, p1, q1, rfl, rfl, rfl, h1, r1⟩ := trodAll_cons r0
  obtain ⟨v2, vs2, d2, ds2, p2, q2, rfl, rfl, rfl, h2, r2⟩ := trodAll_cons r1
  obtain ⟨rfl, rfl, rfl⟩ := trodAll_nil r2
  obtain rfl : args = #[v0, v1, v2] := by cases args; simp_all
  obtain ⟨rfl, rfl⟩ := trodVars_none hV
  obtain ⟨a0, len0, cap0, rfl⟩ := okWide_slice Try.underlying41 (hval 0 41 v0 rfl rfl)
  have k0 := h0
  have lt0 : ∀ x ∈ p0, x.block < W.heap.size := by obtain ⟨m, hm⟩ := k0; exact DataW.trod_lt m _ _ _ hm
  obtain ⟨l0, w0⟩ := open_pieces Try.underlying41 Try.underlying49 (by kernel_rfl) rfl rfl (by kernel_rfl) (by kernel_rfl) Try.underlying3 Try.underlying3 h0
  obtain ⟨a1, len1, cap1, rfl⟩ := okWide_slice Try.underlying41 (hval 1 41 v1 rfl rfl)
  have k1 := h1
  have lt1 : ∀ x ∈ p1, x.block < W.heap.size := by obtain ⟨m, hm⟩ := k1; exact DataW.trod_lt m _ _ _ hm
  obtain ⟨l1, w1⟩ := open_pieces Try.underlying41 Try.underlying49 (by kernel_rfl) rfl rfl (by kernel_rfl) (by kernel_rfl) Try.underlying3 Try.underlying3 h1
  obtain ⟨a2, rfl, rfl, rfl, w2⟩ := open_int Try.underlying3 (hval 2 3 v2 rfl rfl) h2
  clear hA0 hval0
  refine (walk a0 len0 cap0 l0 a1 len1 cap1 l1 a2 w2 W w0 w1).mono fun e W' ⟨he, hg⟩ => ?_
  subst he
  exact ⟨_, rfl, _, _, _, [], _, [], hW', (trodAll_cons_mk (shut_bool Try.underlying4 _) trodAll_mk0), (trodAll_cons_mk (Below.trod laidOut (by kernel_rfl) (of_decide_eq_true (by kernel_rfl)) k0 hg lt0) (trodAll_cons_mk (Below.trod laidOut (by kernel_rfl) (of_decide_eq_true (by kernel_rfl)) k1 hg lt1) (trodAll_cons_mk (shut_int Try.underlying3 w2) trodAll_mk0))), rfl, hg.frame _, fun h => by cases h⟩

theorem over : Rows.fnExactCurveThenRow.holds Try.pinned (OpenSpec.ofChange Rows.fnExactCurveThenSpec) :=
  OpenClaim.holds_of_wide 9 Try.f9 rfl rfl rfl rfl rfl rfl rfl ⟨rfl, rfl, rfl, rfl, rfl⟩ rfl rfl rfl rfl rfl (by kernel_rfl) Try.func9 (by kernel_rfl)
    (of_decide_eq_true (by kernel_rfl)) (by unfold Func.isWrapper; first | (rw [if_pos (by decide +kernel)]; kernel_rfl) | (rw [if_neg (by decide +kernel)]; exact ⟨rfl, rfl⟩))
    (fun os started H enc _ => lifted os started H enc)

/-- The statement. -/
theorem proved : Rows.FnExactCurveThenSaid :=
  over
#print axioms proved
end Go.Proofs.Ythpfehjjaamkkac.fnExactCurveThen
