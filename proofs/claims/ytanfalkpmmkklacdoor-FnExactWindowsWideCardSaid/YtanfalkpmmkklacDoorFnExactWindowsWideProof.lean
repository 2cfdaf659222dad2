/- For every input, the law FnExactWindowsWide of the given statements returns true over the program at this commit, and its arguments read afterwards as before: its conditions: the package-level variables that the row lists hold what the program's own text lays into them, which the card ties. -/
import Derived.Test.YtanfalkpmmkklacDoorRows
import Derived.Test.YtanfalkpmmkklacDoorCards
import Derived.Test.YtanfalkpmmkklacDoorTie
import Derived.Test.YtanfalkpmmkklacDoorPcXWindow
import Derived.Test.YtanfalkpmmkklacDoorWinI
import Derived.Deep.DeepWitnessRowRef
import Derived.LaidMore
import Derived.MakeChecks
import Derived.SevenTiedAt
import Derived.WalkKit
import Derived.ProofKit
import Derived.OpenShut
import Derived.ShutString
import Derived.Lib.SmallJoins
import Derived.ChangeOld
import Derived.Below
import Derived.Carry
namespace Go.Proofs.YtanfalkpmmkklacDoor.fnExactWindowsWide
open Go.ChangeShapes Go.WideShapes Go.ChangeAt Go.RowKit
open Go.ChangeMaps (open_string shut_string)
set_option linter.unusedVariables false

theorem own : ownKnob Tryd.prog.godebug = none := by kernel_rfl

theorem laidOut : laidOutB Tryd.prog = true := by kernel_rfl

set_option maxRecDepth 100000 in
set_option maxHeartbeats 3200000 in
theorem walk (a0 : Option Addr) (len0 cap0 : Nat) (l0 : List Pc) (a1 : Option Addr) (len1 cap1 : Nat) (l1 : List Pc) (w : World) (w0 : Row w (.slice a0 len0 cap0) l0) (w1 : Row w (.slice a1 len1 cap1) l1) (hL : laidMet Tryd.prog Rows.fnExactWindowsWideRow.laid w) (hSh : w.ShapedOpen Tryd.prog) :
    Calls Tryd.prog 6 #[.slice a0 len0 cap0, .slice a1 len1 cap1] w fun e w' => e = .returned (.bool true) ∧ Below w.heap.size w w' := by
  have R0 := Lib.hid w0
  obtain ⟨_, n0, _, e0, hn0, hc0, hd0, -⟩ := id w0
  simp only [Value.slice.injEq] at e0
  obtain ⟨-, rfl, -⟩ := e0
  have hs0 : len0 ≤ 9223372036854775807 := by unfold maxLen at hd0; omega
  clear w0 hc0 hd0
  have R1 := Lib.hid w1
  obtain ⟨_, n1, _, e1, hn1, hc1, hd1, -⟩ := id w1
  simp only [Value.slice.injEq] at e1
  obtain ⟨-, rfl, -⟩ := e1
  have hs1 : len1 ≤ 9223372036854775807 := by unfold maxLen at hd1; omega
  clear w1 hc1 hd1
  obtain ⟨x0, hx0⟩ : ∃ x : Int, (if (1048576 : Int) - (len0 : Int) < 0 then (-1 : Int) else 1048576 - len0) = x := ⟨_, rfl⟩
  by_cases hl0 : (1048576 : Int) - (len0 : Int) < 0
  · rw [if_pos hl0] at hx0
    subst hx0
    go_enter Tryd.func6, Tryd.ntmps6
    have BB := Lib.hid (Below.refl w.heap.size w)
    go_wp2_with fail
    refine (szWindow_is (x := 1048576) (by omega) (by omega) hs0 (by rw [if_pos hl0]) _).mono ?_
    rintro e wv2 ⟨rfl, b9⟩
    replace BB := Lib.hid (BB.out.trans (b9.mono BB.out.size))
    have z2 : w.heap.size ≤ wv2.heap.size := b9.size
    clear b9
    go_wp2_with fail
    go_ret
    exact ⟨by first | rfl | (simp; done) | (simp; omega), BB.out⟩
  have h20_0 : l0.length ≤ 1048576 := by omega
  have g0 : 0 ≤ x0 ∧ x0 ≤ 1048576 := by rw [← hx0, if_neg hl0]; omega
  have HX0 := Lib.hid hx0
  clear hx0 hl0
  obtain ⟨x1, hx1⟩ : ∃ x : Int, (if (x0 : Int) - (len1 : Int) < 0 then (-1 : Int) else x0 - len1) = x := ⟨_, rfl⟩
  by_cases hl1 : (x0 : Int) - (len1 : Int) < 0
  · rw [if_pos hl1] at hx1
    subst hx1
    go_enter Tryd.func6, Tryd.ntmps6
    have BB := Lib.hid (Below.refl w.heap.size w)
    go_wp2_with fail
    refine (szWindow_is (x := 1048576) (by omega) (by omega) hs0 HX0.out _).mono ?_
    rintro e wv2 ⟨rfl, b9⟩
    replace BB := Lib.hid (BB.out.trans (b9.mono BB.out.size))
    have z2 : w.heap.size ≤ wv2.heap.size := b9.size
    clear b9
    go_wp2_with fail
    refine (szWindow_is (x := x0) (by omega) (by omega) hs1 (by rw [if_pos hl1]) _).mono ?_
    rintro e wv3 ⟨rfl, b9⟩
    replace BB := Lib.hid (BB.out.trans (b9.mono BB.out.size))
    have z3 : wv2.heap.size ≤ wv3.heap.size := b9.size
    clear b9
    go_wp2_with fail
    go_ret
    exact ⟨by first | rfl | (simp; done) | (simp; omega), BB.out⟩
  have h20_1 : l1.length ≤ 1048576 := by omega
  have g1 : 0 ≤ x1 ∧ x1 ≤ 1048576 := by rw [← hx1, if_neg hl1]; omega
  have HX1 := Lib.hid hx1
  clear hx1 hl1
  obtain ⟨y, hy⟩ : ∃ y, wideOf l0 l1 = y := ⟨_, rfl⟩
  have HY := Lib.hid hy
  clear hy
  have bo : (y != y) = false := by simp
  go_enter Tryd.func6, Tryd.ntmps6
  have BB := Lib.hid (Below.refl w.heap.size w)
  go_wp2_with fail
  refine (szWindow_is (x := 1048576) (by omega) (by omega) hs0 HX0.out _).mono ?_
  rintro e wv2 ⟨rfl, b9⟩
  replace BB := Lib.hid (BB.out.trans (b9.mono BB.out.size))
  have z2 : w.heap.size ≤ wv2.heap.size := b9.size
  clear b9
  go_wp2_with fail
  refine (szWindow_is (x := x0) (by omega) (by omega) hs1 HX1.out _).mono ?_
  rintro e wv3 ⟨rfl, b9⟩
  replace BB := Lib.hid (BB.out.trans (b9.mono BB.out.size))
  have z3 : wv2.heap.size ≤ wv3.heap.size := b9.size
  clear b9
  go_wp2_with fail
  refine (toWindowS_any (R0.out.grow BB.out) h20_0).mono ?_
  rintro e wv4 ⟨vA0, rfl, o9, b9⟩
  replace BB := Lib.hid (BB.out.trans (b9.mono BB.out.size))
  have z4 : wv3.heap.size ≤ wv4.heap.size := b9.size
  have OA0 := Lib.hid o9
  have DA0 := Lib.hid (o9).lies
  clear b9
  clear o9
  go_wp2_with fail
  refine (toWindowS_any (R1.out.grow BB.out) h20_1).mono ?_
  rintro e wv5 ⟨vA1, rfl, o9, b9⟩
  replace OA0 := Lib.hid (OA0.out.grow b9)
  replace BB := Lib.hid (BB.out.trans (b9.mono BB.out.size))
  have z5 : wv4.heap.size ≤ wv5.heap.size := b9.size
  have OA1 := Lib.hid o9
  have DA1 := Lib.hid (o9).lies
  clear b9
  clear o9
  go_wp2_with fail
  refine (val_gen (specWide_any OA0.out.row OA1.out.row) (show (Value.int .i64) _ = (Value.int .i64) y by rw [HY.out])).mono ?_
  rintro e wv6 ⟨rfl, b9⟩
  replace OA0 := Lib.hid (OA0.out.grow b9)
  replace OA1 := Lib.hid (OA1.out.grow b9)
  replace BB := Lib.hid (BB.out.trans (b9.mono BB.out.size))
  have z6 : wv5.heap.size ≤ wv6.heap.size := b9.size
  clear b9
  clear OA0 DA0
  clear OA1 DA1
  go_wp2_with fail
  refine (toWindowS_any (R0.out.grow BB.out) h20_0).mono ?_
  rintro e wv7 ⟨vX0, rfl, o9, b9⟩
  replace BB := Lib.hid (BB.out.trans (b9.mono BB.out.size))
  have z7 : wv6.heap.size ≤ wv7.heap.size := b9.size
  have OX0 := Lib.hid o9
  have DX0 := Lib.hid (o9).lies
  clear b9
  clear o9
  go_wp2_with fail
  refine (toWindowS_any (R1.out.grow BB.out) h20_1).mono ?_
  rintro e wv8 ⟨vX1, rfl, o9, b9⟩
  replace OX0 := Lib.hid (OX0.out.grow b9)
  replace BB := Lib.hid (BB.out.trans (b9.mono BB.out.size))
  have z8 : wv7.heap.size ≤ wv8.heap.size := b9.size
  have OX1 := Lib.hid o9
  have DX1 := Lib.hid (o9).lies
  clear b9
  clear o9
  go_wp2_with fail
  refine (val_gen (implWide_any ((sent_of hL).grow BB.out) OX0.out.row OX1.out.row) (show (Value.int .i64) _ = (Value.int .i64) y by rw [HY.out])).mono ?_
  rintro e wv9 ⟨rfl, b9⟩
  replace OX0 := Lib.hid (OX0.out.grow b9)
  replace OX1 := Lib.hid (OX1.out.grow b9)
  replace BB := Lib.hid (BB.out.trans (b9.mono BB.out.size))
  have z9 : wv8.heap.size ≤ wv9.heap.size := b9.size
  clear b9
  go_wp2_with fail
  refine (toWindowS_any (R0.out.grow BB.out) h20_0).mono ?_
  rintro e wv10 ⟨vA, rfl, o9, b9⟩
  replace OX0 := Lib.hid (OX0.out.grow b9)
  replace OX1 := Lib.hid (OX1.out.grow b9)
  replace BB := Lib.hid (BB.out.trans (b9.mono BB.out.size))
  have z10 : wv9.heap.size ≤ wv10.heap.size := b9.size
  have OA := Lib.hid o9
  have DA := Lib.hid (o9).lies
  clear b9
  clear o9
  go_wp2_with fail
  refine (eqsWindow_yes OX0.out.row OA.out.row rfl).mono ?_
  rintro e wv11 ⟨rfl, b9⟩
  replace OX0 := Lib.hid (OX0.out.grow b9)
  replace OX1 := Lib.hid (OX1.out.grow b9)
  replace OA := Lib.hid (OA.out.grow b9)
  replace BB := Lib.hid (BB.out.trans (b9.mono BB.out.size))
  have z11 : wv10.heap.size ≤ wv11.heap.size := b9.size
  clear b9
  clear OA DA
  go_wp2_with fail
  refine (toWindowS_any (R1.out.grow BB.out) h20_1).mono ?_
  rintro e wv12 ⟨vA, rfl, o9, b9⟩
  replace OX0 := Lib.hid (OX0.out.grow b9)
  replace OX1 := Lib.hid (OX1.out.grow b9)
  replace BB := Lib.hid (BB.out.trans (b9.mono BB.out.size))
  have z12 : wv11.heap.size ≤ wv12.heap.size := b9.size
  have OA := Lib.hid o9
  have DA := Lib.hid (o9).lies
  clear b9
  clear o9
  go_wp2_with fail
  refine (eqsWindow_yes OX1.out.row OA.out.row rfl).mono ?_
  rintro e wv13 ⟨rfl, b9⟩
  replace OX0 := Lib.hid (OX0.out.grow b9)
  replace OX1 := Lib.hid (OX1.out.grow b9)
  replace OA := Lib.hid (OA.out.grow b9)
  replace BB := Lib.hid (BB.out.trans (b9.mono BB.out.size))
  have z13 : wv12.heap.size ≤ wv13.heap.size := b9.size
  clear b9
  clear OA DA
  go_wp2_with fail
  go_ret
  exact ⟨by first | rfl | (simp; done) | (simp; omega), BB.out⟩

/-- A start that fits: the heap that the program's own start-up code for the listed variables leaves. -/
noncomputable def laidWorld (os : Os) : World := World.doorLaid Tryd.prog 600 os
theorem laid_met (os : Os) (args : Array Value) : laidMetH Tryd.prog Rows.fnExactWindowsWideRow.laid ((laidWorld os).forCall (fun _ _ => 0) ⟨#[], args, []⟩).memory := by
  rw [MakeChecks.laidMetH_plain _ _ _ (by kernel_rfl)]
  exact laidMet_of_run' 8 (by kernel_rfl) (by kernel_rfl)
theorem reads (os : Os) {H : Type} (enc : TypeId × Value → H) : ∃ x, DataW.whole enc Tryd.prog ((laidWorld os).forCall (fun _ _ => 0) ⟨#[], #[.slice none 0 0, .slice none 0 0], []⟩).memory Tryd.f6.params.toList Rows.fnExactWindowsWideSpec.vars false #[(Value.slice none 0 0), (Value.slice none 0 0)].toList 8 = some x :=
  Option.isSome_iff_exists.1 (by kernel_rfl)

set_option maxRecDepth 100000 in
theorem lifted (os : Os) (started : os.Started) (H : Type) (enc : TypeId × Value → H) (F : Stop.Interp) :
    ReturnsInHanded {} Tryd.checked os 6 .any ((OpenSpec.ofChange Rows.fnExactWindowsWideSpec).preRow enc Tryd.prog Tryd.f6 Rows.fnExactWindowsWideRow.domain false Rows.fnExactWindowsWideRow.laid) (((OpenSpec.ofChange Rows.fnExactWindowsWideSpec).at F).post enc Tryd.prog Tryd.f6 false true false false) := by
  obtain ⟨x, hx⟩ := reads os enc
  refine returnsInHanded_of_row (C := Tryd.checked) (s := OpenSpec.ofChange Rows.fnExactWindowsWideSpec) own started (by kernel_rfl) Tryd.func6
    (witness_row_atRef (enc := enc) (C := Tryd.checked) false (laidWorld os) #[.slice none 0 0, .slice none 0 0] rfl (by kernel_rfl) (by kernel_rfl) (by kernel_rfl)
      (OpenSpec.preRow_of_cond 8 hx (by kernel_rfl) (fun k hk => by cases hk) (by kernel_rfl) (laid_met os _))) ?_
  intro W base args ds gs before hval0 hW hcnd _ hsz hLH hSh _
  have hL : laidMet Tryd.prog Rows.fnExactWindowsWideRow.laid W := by rw [← MakeChecks.laidMetH_plain _ _ _ (by kernel_rfl)]; exact hLH
  have hval : ∀ (j : Nat) t v, Tryd.f6.params[j]? = some t → args[j]? = some v → Value.okWide Tryd.prog W .any base t v := hval0
  have hW' := hW
  obtain ⟨p, q, hA0, hV, rfl, hfz, hnd⟩ := hW
  have hA : DataW.TrodAll enc Tryd.prog W 0 (fun _ => true) true Tryd.f6.params.toList args.toList ds p := hA0
  rw [Tryd.params6] at hA hval
  obtain ⟨v0, vs0, d0, ds0, p0, q0, hargs, rfl, rfl, h0, r0⟩ := trodAll_cons hA
  obtain ⟨v1, vs1, d1, ds1, p1, q1, rfl, rfl, rfl, h1, r1⟩ := trodAll_cons r0
  obtain ⟨rfl, rfl, rfl⟩ := trodAll_nil r1
  obtain rfl : args = #[v0, v1] := by cases args; simp_all
  obtain ⟨g1, rfl, hback⟩ := sent_back0 hL hV
  obtain ⟨a0, len0, cap0, rfl⟩ := okWide_slice Tryd.underlying22 (hval 0 22 v0 rfl rfl)
  have k0 := h0
  have lt0 : ∀ x ∈ p0, x.block < W.heap.size := by obtain ⟨m, hm⟩ := k0; exact DataW.trod_lt m _ _ _ hm
  obtain ⟨l0, w0⟩ := open_pieces Tryd.underlying22 Tryd.underlying41 (by kernel_rfl) rfl rfl (by kernel_rfl) (by kernel_rfl) Tryd.underlying3 Tryd.underlying3 h0
  obtain ⟨a1, len1, cap1, rfl⟩ := okWide_slice Tryd.underlying22 (hval 1 22 v1 rfl rfl)
  have k1 := h1
  have lt1 : ∀ x ∈ p1, x.block < W.heap.size := by obtain ⟨m, hm⟩ := k1; exact DataW.trod_lt m _ _ _ hm
  obtain ⟨l1, w1⟩ := open_pieces Tryd.underlying22 Tryd.underlying41 (by kernel_rfl) rfl rfl (by kernel_rfl) (by kernel_rfl) Tryd.underlying3 Tryd.underlying3 h1
  clear hA0 hval0
  refine (walk a0 len0 cap0 l0 a1 len1 cap1 l1 W w0 w1 hL hSh).mono fun e W' ⟨he, hg⟩ => ?_
  subst he
  exact ⟨_, rfl, _, _, _, [], _, _, hW', (trodAll_cons_mk (shut_bool Tryd.underlying4 _) trodAll_mk0), (trodAll_cons_mk (Below.trod laidOut (by kernel_rfl) (of_decide_eq_true (by kernel_rfl)) k0 hg lt0) (trodAll_cons_mk (Below.trod laidOut (by kernel_rfl) (of_decide_eq_true (by kernel_rfl)) k1 hg lt1) trodAll_mk0)), hback _ _ hg, hg.frame _, fun h => by cases h⟩

theorem said : Rows.fnExactWindowsWideRow.holds Tryd.pinned (OpenSpec.ofChange Rows.fnExactWindowsWideSpec) :=
  OpenClaim.holds_of_cond 6 Tryd.f6 rfl rfl rfl rfl rfl rfl rfl ⟨rfl, rfl, rfl, rfl, rfl⟩ rfl rfl rfl rfl rfl (by kernel_rfl) Tryd.func6 (by kernel_rfl)
    (of_decide_eq_true (by kernel_rfl)) (by unfold Func.isWrapper; first | (rw [if_pos (by decide +kernel)]; kernel_rfl) | (rw [if_neg (by decide +kernel)]; exact ⟨rfl, rfl⟩))
    (fun os started H enc _ F => by rw [OpenClaim.pre_eq_preRow]; exact lifted os started H enc F)

/-- No parameter wants a stand-in; the program's own looks are as the card says. -/
theorem plain (f : FuncId) (fn : Func) (hf : Tryd.pinned.checked.prog.funcNamed "loop.example/icecores/laws.FnExactWindowsWide" = some f) (hfn : Tryd.pinned.checked.prog.funcs[f]? = some fn) :
    true = Tryd.pinned.checked.prog.looks [] ∧ ∀ (j : Nat) t, fn.params[j]? = some t → Tryd.pinned.checked.prog.wantsStandIn t = false := by
  obtain rfl : f = 6 := Option.some.inj ((show Tryd.prog.funcNamed "loop.example/icecores/laws.FnExactWindowsWide" = some 6 by kernel_rfl).symm.trans hf) |>.symm
  obtain rfl : fn = Tryd.f6 := (Option.some.inj (Tryd.func6.symm.trans hfn)).symm
  refine ⟨by kernel_rfl, fun j t ht => ?_⟩
  have hall : (Tryd.f6.params.toList.all fun u => !Tryd.prog.wantsStandIn u) = true := by kernel_rfl
  exact (show Tryd.prog.wantsStandIn t = false by simpa using List.all_eq_true.1 hall t (by simpa using Array.mem_of_getElem? ht))

/-- The card: the row, and what its listed variables hold tied to the program's text. -/
theorem proved : Rows.FnExactWindowsWideCardSaid :=
  Claim7.holds_tied_plain_at .later [] _ _ _ _ said (fun _ h => by cases h) (by kernel_rfl) (fun _ h => by cases h) fnExactWindowsWide_row_tie rfl ⟨rfl, rfl⟩ (by kernel_rfl) rfl plain (by kernel_rfl)
#print axioms proved
end Go.Proofs.YtanfalkpmmkklacDoor.fnExactWindowsWide
