/- For every input, the law FnExactWindowsFit of the given statements returns true over the program at this commit, and its arguments read afterwards as before: no condition. -/
import Derived.Test.YtanfalkpmmkklacRows
import Derived.Test.YtanfalkpmmkklacPcXWindow
import Derived.Test.YtanfalkpmmkklacWinV
import Derived.WalkKit
import Derived.ProofKit
import Derived.OpenShut
import Derived.ShutString
import Derived.Lib.SmallJoins
import Derived.ChangeOld
import Derived.Below
import Derived.Carry
namespace Go.Proofs.Ytanfalkpmmkklac.fnExactWindowsFit
open Go.ChangeShapes Go.WideShapes Go.ChangeAt Go.RowKit
open Go.ChangeMaps (open_string shut_string)
set_option linter.unusedVariables false

theorem own : ownKnob Try.prog.godebug = none := by kernel_rfl

theorem laidOut : laidOutB Try.prog = true := by kernel_rfl

set_option maxRecDepth 100000 in
set_option maxHeartbeats 3200000 in
theorem walk (a0 : Option Addr) (len0 cap0 : Nat) (l0 : List Pc) (a1 : Option Addr) (len1 cap1 : Nat) (l1 : List Pc) (a2 : Option Addr) (len2 cap2 : Nat) (l2 : List Int) (w : World) (w0 : Row w (.slice a0 len0 cap0) l0) (w1 : Row w (.slice a1 len1 cap1) l1) (w2 : IRow w (.slice a2 len2 cap2) l2) :
    Calls Try.prog 3 #[.slice a0 len0 cap0, .slice a1 len1 cap1, .slice a2 len2 cap2] w fun e w' => e = .returned (.bool true) ∧ Below w.heap.size w w' := by
  have R0 := Lib.hid w0
  obtain ⟨_, n0, _, e0, hn0, hc0, hd0, -⟩ := id w0
  simp only [Value.slice.injEq] at e0
  obtain ⟨-, rfl, -⟩ := e0
  have hs0 : len0 ≤ 9223372036854775807 := by unfold maxLen at hd0; omega
  clear w0 hc0 hd0
  have R1 := Lib.hid w1
  obtain ⟨_, n1, _, e1, hn1, hc1, hd1, -⟩ := id w1
  simp only [Value.slice.injEq] at e1
  obtain ⟨-, rfl, -⟩ := e1
  have hs1 : len1 ≤ 9223372036854775807 := by unfold maxLen at hd1; omega
  clear w1 hc1 hd1
  have R2 := Lib.hid w2
  obtain ⟨_, n2, _, e2, hn2, hc2, hd2, -⟩ := id w2
  simp only [Value.slice.injEq] at e2
  obtain ⟨-, rfl, -⟩ := e2
  have hs2 : len2 ≤ 9223372036854775807 := by unfold maxLen at hd2; omega
  clear w2 hc2 hd2
  by_cases hl2 : 1048576 < len2
  · have hi2 : decide ((1048576 : Int) < (len2 : Int)) = true := by simp; omega
    go_enter Try.func3, Try.ntmps3
    go_wp2_with fail
    go_ret
    exact ⟨rfl, Below.refl _ _⟩
  have hi2 : decide ((1048576 : Int) < (len2 : Int)) = false := by simp; omega
  have h20_2 : l2.length ≤ 1048576 := by omega
  obtain ⟨x0, hx0⟩ : ∃ x : Int, (if (1048576 : Int) - (len0 : Int) < 0 then (-1 : Int) else 1048576 - len0) = x := ⟨_, rfl⟩
  by_cases hl0 : (1048576 : Int) - (len0 : Int) < 0
  · rw [if_pos hl0] at hx0
    subst hx0
    go_enter Try.func3, Try.ntmps3
    have BB := Lib.hid (Below.refl w.heap.size w)
    go_wp2_with fail
    refine (szWindow_is (x := 1048576) (by omega) (by omega) hs0 (by rw [if_pos hl0]) _).mono ?_
    rintro e wv2 ⟨rfl, b9⟩
    replace BB := Lib.hid (BB.out.trans (b9.mono BB.out.size))
    have z2 : w.heap.size ≤ wv2.heap.size := b9.size
    clear b9
    go_wp2_with fail
    go_ret
    exact ⟨by first | rfl | (simp; done) | (simp; omega), BB.out⟩
  have h20_0 : l0.length ≤ 1048576 := by omega
  have g0 : 0 ≤ x0 ∧ x0 ≤ 1048576 := by rw [← hx0, if_neg hl0]; omega
  have HX0 := Lib.hid hx0
  clear hx0 hl0
  obtain ⟨x1, hx1⟩ : ∃ x : Int, (if (x0 : Int) - (len1 : Int) < 0 then (-1 : Int) else x0 - len1) = x := ⟨_, rfl⟩
  by_cases hl1 : (x0 : Int) - (len1 : Int) < 0
  · rw [if_pos hl1] at hx1
    subst hx1
    go_enter Try.func3, Try.ntmps3
    have BB := Lib.hid (Below.refl w.heap.size w)
    go_wp2_with fail
    refine (szWindow_is (x := 1048576) (by omega) (by omega) hs0 HX0.out _).mono ?_
    rintro e wv2 ⟨rfl, b9⟩
    replace BB := Lib.hid (BB.out.trans (b9.mono BB.out.size))
    have z2 : w.heap.size ≤ wv2.heap.size := b9.size
    clear b9
    go_wp2_with fail
    refine (szWindow_is (x := x0) (by omega) (by omega) hs1 (by rw [if_pos hl1]) _).mono ?_
    rintro e wv3 ⟨rfl, b9⟩
    replace BB := Lib.hid (BB.out.trans (b9.mono BB.out.size))
    have z3 : wv2.heap.size ≤ wv3.heap.size := b9.size
    clear b9
    go_wp2_with fail
    go_ret
    exact ⟨by first | rfl | (simp; done) | (simp; omega), BB.out⟩
  have h20_1 : l1.length ≤ 1048576 := by omega
  have g1 : 0 ≤ x1 ∧ x1 ≤ 1048576 := by rw [← hx1, if_neg hl1]; omega
  have HX1 := Lib.hid hx1
  clear hx1 hl1
  obtain ⟨y, hy⟩ : ∃ y, fitB l0 l1 l2 = y := ⟨_, rfl⟩
  have HY := Lib.hid hy
  clear hy
  have bo : (y != y) = false := by simp
  go_enter Try.func3, Try.ntmps3
  have BB := Lib.hid (Below.refl w.heap.size w)
  go_wp2_with fail
  refine (szWindow_is (x := 1048576) (by omega) (by omega) hs0 HX0.out _).mono ?_
  rintro e wv2 ⟨rfl, b9⟩
  replace BB := Lib.hid (BB.out.trans (b9.mono BB.out.size))
  have z2 : w.heap.size ≤ wv2.heap.size := b9.size
  clear b9
  go_wp2_with fail
  refine (szWindow_is (x := x0) (by omega) (by omega) hs1 HX1.out _).mono ?_
  rintro e wv3 ⟨rfl, b9⟩
  replace BB := Lib.hid (BB.out.trans (b9.mono BB.out.size))
  have z3 : wv2.heap.size ≤ wv3.heap.size := b9.size
  clear b9
  go_wp2_with fail
  refine (toWindowS_any (R0.out.grow BB.out) h20_0).mono ?_
  rintro e wv4 ⟨vA0, rfl, o9, b9⟩
  replace BB := Lib.hid (BB.out.trans (b9.mono BB.out.size))
  have z4 : wv3.heap.size ≤ wv4.heap.size := b9.size
  have OA0 := Lib.hid o9
  have DA0 := Lib.hid (o9).lies
  clear b9
  clear o9
  go_wp2_with fail
  refine (toWindowS_any (R1.out.grow BB.out) h20_1).mono ?_
  rintro e wv5 ⟨vA1, rfl, o9, b9⟩
  replace OA0 := Lib.hid (OA0.out.grow b9)
  replace BB := Lib.hid (BB.out.trans (b9.mono BB.out.size))
  have z5 : wv4.heap.size ≤ wv5.heap.size := b9.size
  have OA1 := Lib.hid o9
  have DA1 := Lib.hid (o9).lies
  clear b9
  clear o9
  go_wp2_with fail
  refine (toIntS_any (R2.out.grow BB.out) h20_2).mono ?_
  rintro e wv6 ⟨vA2, rfl, o9, b9⟩
  replace OA0 := Lib.hid (OA0.out.grow b9)
  replace OA1 := Lib.hid (OA1.out.grow b9)
  replace BB := Lib.hid (BB.out.trans (b9.mono BB.out.size))
  have z6 : wv5.heap.size ≤ wv6.heap.size := b9.size
  have OA2 := Lib.hid o9
  have DA2 := Lib.hid (o9).lies
  clear b9
  clear o9
  go_wp2_with fail
  refine (val_gen (specFitW_any OA0.out.row OA1.out.row OA2.out.row) (show Value.bool _ = Value.bool y by rw [HY.out])).mono ?_
  rintro e wv7 ⟨rfl, b9⟩
  replace OA0 := Lib.hid (OA0.out.grow b9)
  replace OA1 := Lib.hid (OA1.out.grow b9)
  replace OA2 := Lib.hid (OA2.out.grow b9)
  replace BB := Lib.hid (BB.out.trans (b9.mono BB.out.size))
  have z7 : wv6.heap.size ≤ wv7.heap.size := b9.size
  clear b9
  clear OA0 DA0
  clear OA1 DA1
  clear OA2 DA2
  go_wp2_with fail
  refine (toWindowS_any (R0.out.grow BB.out) h20_0).mono ?_
  rintro e wv8 ⟨vX0, rfl, o9, b9⟩
  replace BB := Lib.hid (BB.out.trans (b9.mono BB.out.size))
  have z8 : wv7.heap.size ≤ wv8.heap.size := b9.size
  have OX0 := Lib.hid o9
  have DX0 := Lib.hid (o9).lies
  clear b9
  clear o9
  go_wp2_with fail
  refine (toWindowS_any (R1.out.grow BB.out) h20_1).mono ?_
  rintro e wv9 ⟨vX1, rfl, o9, b9⟩
  replace OX0 := Lib.hid (OX0.out.grow b9)
  replace BB := Lib.hid (BB.out.trans (b9.mono BB.out.size))
  have z9 : wv8.heap.size ≤ wv9.heap.size := b9.size
  have OX1 := Lib.hid o9
  have DX1 := Lib.hid (o9).lies
  clear b9
  clear o9
  go_wp2_with fail
  refine (toIntS_any (R2.out.grow BB.out) h20_2).mono ?_
  rintro e wv10 ⟨vX2, rfl, o9, b9⟩
  replace OX0 := Lib.hid (OX0.out.grow b9)
  replace OX1 := Lib.hid (OX1.out.grow b9)
  replace BB := Lib.hid (BB.out.trans (b9.mono BB.out.size))
  have z10 : wv9.heap.size ≤ wv10.heap.size := b9.size
  have OX2 := Lib.hid o9
  have DX2 := Lib.hid (o9).lies
  clear b9
  clear o9
  go_wp2_with fail
  refine (val_gen (implFitW_any OX0.out.row OX1.out.row OX2.out.row) (show Value.bool _ = Value.bool y by rw [HY.out])).mono ?_
  rintro e wv11 ⟨rfl, b9⟩
  replace OX0 := Lib.hid (OX0.out.grow b9)
  replace OX1 := Lib.hid (OX1.out.grow b9)
  replace OX2 := Lib.hid (OX2.out.grow b9)
  replace BB := Lib.hid (BB.out.trans (b9.mono BB.out.size))
  have z11 : wv10.heap.size ≤ wv11.heap.size := b9.size
  clear b9
  go_wp2_with fail
  refine (toWindowS_any (R0.out.grow BB.out) h20_0).mono ?_
  rintro e wv12 ⟨vA, rfl, o9, b9⟩
  replace OX0 := Lib.hid (OX0.out.grow b9)
  replace OX1 := Lib.hid (OX1.out.grow b9)
  replace OX2 := Lib.hid (OX2.out.grow b9)
  replace BB := Lib.hid (BB.out.trans (b9.mono BB.out.size))
  have z12 : wv11.heap.size ≤ wv12.heap.size := b9.size
  have OA := Lib.hid o9
  have DA := Lib.hid (o9).lies
  clear b9
  clear o9
  go_wp2_with fail
  refine (eqsWindow_yes OX0.out.row OA.out.row rfl).mono ?_
  rintro e wv13 ⟨rfl, b9⟩
  replace OX0 := Lib.hid (OX0.out.grow b9)
  replace OX1 := Lib.hid (OX1.out.grow b9)
  replace OX2 := Lib.hid (OX2.out.grow b9)
  replace OA := Lib.hid (OA.out.grow b9)
  replace BB := Lib.hid (BB.out.trans (b9.mono BB.out.size))
  have z13 : wv12.heap.size ≤ wv13.heap.size := b9.size
  clear b9
  clear OA DA
  go_wp2_with fail
  refine (toWindowS_any (R1.out.grow BB.out) h20_1).mono ?_
  rintro e wv14 ⟨vA, rfl, o9, b9⟩
  replace OX0 := Lib.hid (OX0.out.grow b9)
  replace OX1 := Lib.hid (OX1.out.grow b9)
  replace OX2 := Lib.hid (OX2.out.grow b9)
  replace BB := Lib.hid (BB.out.trans (b9.mono BB.out.size))
  have z14 : wv13.heap.size ≤ wv14.heap.size := b9.size
  have OA := Lib.hid o9
  have DA := Lib.hid (o9).lies
  clear b9
  clear o9
  go_wp2_with fail
  refine (eqsWindow_yes OX1.out.row OA.out.row rfl).mono ?_
  rintro e wv15 ⟨rfl, b9⟩
  replace OX0 := Lib.hid (OX0.out.grow b9)
  replace OX1 := Lib.hid (OX1.out.grow b9)
  replace OX2 := Lib.hid (OX2.out.grow b9)
  replace OA := Lib.hid (OA.out.grow b9)
  replace BB := Lib.hid (BB.out.trans (b9.mono BB.out.size))
  have z15 : wv14.heap.size ≤ wv15.heap.size := b9.size
  clear b9
  clear OA DA
  go_wp2_with fail
  refine (toIntS_any (R2.out.grow BB.out) h20_2).mono ?_
  rintro e wv16 ⟨vA, rfl, o9, b9⟩
  replace OX0 := Lib.hid (OX0.out.grow b9)
  replace OX1 := Lib.hid (OX1.out.grow b9)
  replace OX2 := Lib.hid (OX2.out.grow b9)
  replace BB := Lib.hid (BB.out.trans (b9.mono BB.out.size))
  have z16 : wv15.heap.size ≤ wv16.heap.size := b9.size
  have OA := Lib.hid o9
  have DA := Lib.hid (o9).lies
  clear b9
  clear o9
  go_wp2_with fail
  refine (ieqs_yes OX2.out.row OA.out.row rfl).mono ?_
  rintro e wv17 ⟨rfl, b9⟩
  replace OX0 := Lib.hid (OX0.out.grow b9)
  replace OX1 := Lib.hid (OX1.out.grow b9)
  replace OX2 := Lib.hid (OX2.out.grow b9)
  replace OA := Lib.hid (OA.out.grow b9)
  replace BB := Lib.hid (BB.out.trans (b9.mono BB.out.size))
  have z17 : wv16.heap.size ≤ wv17.heap.size := b9.size
  clear b9
  clear OA DA
  go_wp2_with fail
  go_ret
  exact ⟨by first | rfl | (simp; done) | (simp; omega), BB.out⟩

set_option maxRecDepth 100000 in
theorem lifted (os : Os) (started : os.Started) (H : Type) (enc : TypeId × Value → H) :
    ReturnsInHanded {} Try.checked os 3 .any (Rows.fnExactWindowsFitSpec.pre6 enc Try.prog Try.f3 Rows.fnExactWindowsFitRow.domain false) (Rows.fnExactWindowsFitSpec.post enc Try.prog Try.f3 false true false false) := by
  refine returnsInHanded_of_change (C := Try.checked) own started (by kernel_rfl) Try.func3
    (ChangeSpec.witness6 (enc := enc) (C := Try.checked) false ⟨#[], #[.slice none 0 0, .slice none 0 0, .slice none 0 0], []⟩ 8 (by kernel_rfl) (by kernel_rfl) (by kernel_rfl) (by kernel_rfl)) ?_
  intro W base args ds gs before hval0 hW hcnd _
  have hval : ∀ (j : Nat) t v, Try.f3.params[j]? = some t → args[j]? = some v → Value.okWide Try.prog W .any base t v := hval0
  have hW' := hW
  obtain ⟨p, q, hA0, hV, rfl, hfz, hnd⟩ := hW
  have hA : DataW.TrodAll enc Try.prog W 0 (fun _ => true) true Try.f3.params.toList args.toList ds p := hA0
  rw [Try.params3] at hA hval
  obtain ⟨v0, vs0, d0, ds0, p0, q0, hargs, rfl, rfl, h0, r0⟩ := trodAll_cons hA
  obtain ⟨v1, vs1, d1, ds1, p1, q1, rfl, rfl, rfl, h1, r1⟩ := trodAll_cons r0
  obtain ⟨v2, vs2, d2, ds2, p2, q2, rfl, rfl, rfl, h2, r2⟩ := trodAll_cons r1
  obtain ⟨rfl, rfl, rfl⟩ := trodAll_nil r2
  obtain rfl : args = #[v0, v1, v2] := by cases args; simp_all
  obtain ⟨rfl, rfl⟩ := trodVars_none hV
  obtain ⟨a0, len0, cap0, rfl⟩ := okWide_slice Try.underlying22 (hval 0 22 v0 rfl rfl)
  have k0 := h0
  have lt0 : ∀ x ∈ p0, x.block < W.heap.size := by obtain ⟨m, hm⟩ := k0; exact DataW.trod_lt m _ _ _ hm
  obtain ⟨l0, w0⟩ := open_pieces Try.underlying22 Try.underlying36 (by kernel_rfl) rfl rfl (by kernel_rfl) (by kernel_rfl) Try.underlying3 Try.underlying3 h0
  obtain ⟨a1, len1, cap1, rfl⟩ := okWide_slice Try.underlying22 (hval 1 22 v1 rfl rfl)
  have k1 := h1
  have lt1 : ∀ x ∈ p1, x.block < W.heap.size := by obtain ⟨m, hm⟩ := k1; exact DataW.trod_lt m _ _ _ hm
  obtain ⟨l1, w1⟩ := open_pieces Try.underlying22 Try.underlying36 (by kernel_rfl) rfl rfl (by kernel_rfl) (by kernel_rfl) Try.underlying3 Try.underlying3 h1
  obtain ⟨a2, len2, cap2, rfl⟩ := okWide_slice Try.underlying23 (hval 2 23 v2 rfl rfl)
  have k2 := h2
  have lt2 : ∀ x ∈ p2, x.block < W.heap.size := by obtain ⟨m, hm⟩ := k2; exact DataW.trod_lt m _ _ _ hm
  obtain ⟨l2, w2⟩ : ∃ l, IRow W (.slice a2 len2 cap2) l := by
    obtain ⟨fuel, hf⟩ := h2
    rcases open_ints Try.underlying23 Try.underlying3 (by kernel_rfl) hf with ⟨hcs, _⟩ | ⟨x, l, c, zs, hcs, _, hl, hm, hz, _, hcell, hwz⟩
    · simp [Value.cells] at hcs
      obtain ⟨rfl, rfl, rfl⟩ := hcs
      exact ⟨[], irow_empty none (Nat.zero_le _)⟩
    · simp [Value.cells] at hcs
      obtain ⟨rfl, rfl, rfl⟩ := hcs
      obtain ⟨r, hr, _⟩ := irow_of (zs := zs) (.inr ⟨_, rfl, hl, hm, by simpa using hz, hcell, hwz⟩)
      exact ⟨r, hr⟩
  clear hA0 hval0
  refine (walk a0 len0 cap0 l0 a1 len1 cap1 l1 a2 len2 cap2 l2 W w0 w1 w2).mono fun e W' ⟨he, hg⟩ => ?_
  subst he
  exact ⟨_, rfl, _, _, _, [], _, [], hW', (trodAll_cons_mk (shut_bool Try.underlying4 _) trodAll_mk0), (trodAll_cons_mk (Below.trod laidOut (by kernel_rfl) (of_decide_eq_true (by kernel_rfl)) k0 hg lt0) (trodAll_cons_mk (Below.trod laidOut (by kernel_rfl) (of_decide_eq_true (by kernel_rfl)) k1 hg lt1) (trodAll_cons_mk (Below.trod laidOut (by kernel_rfl) (of_decide_eq_true (by kernel_rfl)) k2 hg lt2) trodAll_mk0))), rfl, hg.frame _, fun h => by cases h⟩

theorem over : Rows.fnExactWindowsFitRow.holds Try.pinned (OpenSpec.ofChange Rows.fnExactWindowsFitSpec) :=
  OpenClaim.holds_of_wide 3 Try.f3 rfl rfl rfl rfl rfl rfl rfl ⟨rfl, rfl, rfl, rfl, rfl⟩ rfl rfl rfl rfl rfl (by kernel_rfl) Try.func3 (by kernel_rfl)
    (of_decide_eq_true (by kernel_rfl)) (by unfold Func.isWrapper; first | (rw [if_pos (by decide +kernel)]; kernel_rfl) | (rw [if_neg (by decide +kernel)]; exact ⟨rfl, rfl⟩))
    (fun os started H enc _ => lifted os started H enc)

/-- The statement. -/
theorem proved : Rows.FnExactWindowsFitSaid :=
  over
#print axioms proved
end Go.Proofs.Ytanfalkpmmkklac.fnExactWindowsFit
