/- For every input, the law FnExactCurveAdd of the given statements returns true over the program at this commit, and its arguments read afterwards as before: no condition. -/
import Derived.Test.YthpfehjjaamkkacRows
import Derived.Test.YthpfehjjaamkkacKnotX
import Derived.Test.YthpfehjjaamkkacSpecAdd
import Derived.Test.YthpfehjjaamkkacCurveAdd
import Derived.WalkKit
import Derived.ProofKit
import Derived.OpenShut
import Derived.ShutString
import Derived.Lib.SmallJoins
import Derived.ChangeOld
import Derived.Below
import Derived.Carry
namespace Go.Proofs.Ythpfehjjaamkkac.fnExactCurveAdd
open Go.ChangeShapes Go.WideShapes Go.ChangeAt Go.RowKit
open Go.ChangeMaps (open_string shut_string)
set_option linter.unusedVariables false

theorem own : ownKnob Try.prog.godebug = none := by kernel_rfl
theorem cells49 : Try.prog.cellsOf 49 = 2 := by kernel_rfl
theorem laidOut : laidOutB Try.prog = true := by kernel_rfl

set_option maxRecDepth 100000 in
set_option maxHeartbeats 3200000 in
theorem walk (a0 : Option Addr) (len0 cap0 : Nat) (l0 : List Pc) (a1f0 a1f1 : Int) (w1f0 : (Lit.int .i64 a1f0).wf = true) (w1f1 : (Lit.int .i64 a1f1).wf = true) (w : World) (w0 : Row w (.slice a0 len0 cap0) l0) :
    Calls Try.prog 10 #[.slice a0 len0 cap0, .agg #[.int .i64 a1f0, .int .i64 a1f1]] w fun e w' => e = .returned (.bool true) ∧ Below w.heap.size w w' := by
  have R0 := Lib.hid w0
  obtain ⟨_, n0, _, e0, hln, hc1, hc2, -⟩ := id w0
  simp only [Value.slice.injEq] at e0
  obtain ⟨-, rfl, -⟩ := e0
  have hc3 : len0 ≤ 9223372036854775807 := by unfold maxLen at hc2; omega
  clear w0 hc1 hc2
  by_cases hl : (1048576 : Int) - len0 < 0
  · go_enter Try.func10, Try.ntmps10
    go_wp2_with fail
    refine (szKnotS_any _ _ _ hc3 _).mono ?_
    rintro e u1 ⟨rfl, rfl⟩
    rw [if_pos hl]
    go_wp2_with fail
    go_ret
    exact ⟨rfl, by go_grown⟩
  have hl20 : l0.length ≤ 1048576 := by omega
  obtain ⟨lft, hlf⟩ : ∃ x : Int, (if (1048576 : Int) - len0 < 0 then (-1 : Int) else 1048576 - len0) = x := ⟨_, rfl⟩
  have hlf0 : 0 ≤ lft := by rw [← hlf, if_neg hl]; omega
  have hlf1 : lft ≤ 1048576 := by rw [← hlf, if_neg hl]; omega
  obtain ⟨m, hm⟩ : ∃ m, (addOf (a1f0, a1f1) l0).getD [] = m := ⟨_, rfl⟩
  have HM := Lib.hid hm
  have hm20 : m.length ≤ 1048576 := by rw [← hm]; exact add20 (a1f0, a1f1) l0
  clear hm
  obtain ⟨b, hb⟩ : ∃ b, (addOf (a1f0, a1f1) l0).isSome = b := ⟨_, rfl⟩
  have HB := Lib.hid hb
  clear hb
  obtain ⟨nk, hnk⟩ : ∃ x : Int, 1 + 2 * (l0.length : Int) = x := ⟨_, rfl⟩
  have hnk0 : 0 ≤ nk := by omega
  have NK := Lib.hid hnk
  obtain ⟨nm, hnm⟩ : ∃ x : Int, 1 + 2 * (m.length : Int) = x := ⟨_, rfl⟩
  have hnm0 : 0 ≤ nm := by omega
  have NM := Lib.hid hnm
  clear hnk hnm
  go_enter Try.func10, Try.ntmps10
  go_wp2_with fail
  refine (szKnotS_any _ _ _ hc3 _).mono ?_
  rintro e u1 ⟨rfl, rfl⟩
  rw [hlf]
  clear hlf hl
  go_wp2_with fail
  have KC : Hid ((w.alloc (.cells #[.int .i64 a1f0, .int .i64 a1f1] 49)).cell? ⟨w.heap.size, 0, none⟩ = some (.int .i64 a1f0) ∧ (w.alloc (.cells #[.int .i64 a1f0, .int .i64 a1f1] 49)).cell? ⟨w.heap.size, 1, none⟩ = some (.int .i64 a1f1)) := Lib.hid ⟨by go_cell, by go_cell⟩
  replace R0 := Lib.hid (R0.out.grow (show Below w.heap.size w (w.alloc (.cells #[.int .i64 a1f0, .int .i64 a1f1] 49)) by go_grown))
  go_region_held3 (fun w' => w'.cell? ⟨w.heap.size, 0, none⟩ = some (.int .i64 a1f0) ∧ w'.cell? ⟨w.heap.size, 1, none⟩ = some (.int .i64 a1f1))
    (first | go_keep | (go_split_ands; exact held2 b2 ‹_› ‹_›) | (go_split_ands; exact held2 bk ‹_› ‹_›) | (go_split_ands; exact held2 b3 ‹_› ‹_›))
    (first | (go_at_call 28; refine (toKnotS_any (R0.out.grow (by go_grown)) hl20).mono ?_; rintro e u2 ⟨v2, rfl, o2, b2⟩) | (go_at_call 38; refine (toKnot_any (a1f0, a1f1) _).mono ?_; rintro e uk ⟨rfl, bk⟩) | (go_at_call 37; refine (lstb_own (specCurveAdd_any (a1f0, a1f1) ((o2.row.grow (by go_grown)).grow (by go_grown))) HM.out HB.out).mono ?_; rintro e u3 ⟨vw, rfl, o3, b3⟩))
  have B := Lib.hid (show Below (w.alloc (.cells #[.int .i64 a1f0, .int .i64 a1f1] 49)).heap.size (w.alloc (.cells #[.int .i64 a1f0, .int .i64 a1f1] 49)) u2 from Below.trans (by go_grown) (b2.mono (by go_size)))
  replace B := Lib.hid (B.out.trans (bk.mono B.out.size))
  have OW := Lib.hid o3
  have S1 := Lib.hid B.out.size
  replace B := Lib.hid (B.out.trans (b3.mono B.out.size))
  clear b2 bk b3 o2 o3
  go_wp2_with fail
  refine (toKnotS_any (R0.out.grow B.out) hl20).mono ?_
  rintro e u4 ⟨vx, rfl, o4, b4⟩
  have OX := Lib.hid o4.owned
  have S3 := Lib.hid B.out.size
  replace OW := Lib.hid (OW.out.grow b4)
  have S4 := Lib.hid b4.size
  replace B := Lib.hid (B.out.trans (b4.mono B.out.size))
  clear o4 b4
  have k0 := (B.out.cell (p := ⟨w.heap.size, 0, none⟩) (by simp)).trans KC.out.1
  have k1 := (B.out.cell (p := ⟨w.heap.size, 1, none⟩) (by simp)).trans KC.out.2
  go_wp2_with fail
  refine (toKnot_any (a1f0, a1f1) _).mono ?_
  rintro e uk ⟨rfl, bk⟩
  replace OW := Lib.hid (OW.out.grow bk)
  replace OX := Lib.hid (OX.out.grow bk)
  replace B := Lib.hid (B.out.trans (bk.mono B.out.size))
  have SK := Lib.hid bk.size
  replace S4 := Lib.hid (Nat.le_trans S4.out bk.size)
  clear bk k0 k1
  go_wp2_with fail
  refine (lstb_own (implCurveAdd_any (a1f0, a1f1) OX.out.row) HM.out HB.out).mono ?_
  rintro e u5 ⟨vg, rfl, o5, b5⟩
  have OG := Lib.hid o5
  have S5 := Lib.hid B.out.size
  replace OW := Lib.hid (OW.out.grow b5)
  replace OX := Lib.hid (OX.out.grow b5)
  replace B := Lib.hid (B.out.trans (b5.mono B.out.size))
  clear o5 b5
  go_wp2_with fail
  refine (eqs_yes OG.out.row OW.out.row rfl).mono ?_
  rintro e u6 ⟨rfl, b6⟩
  replace OW := Lib.hid (OW.out.grow b6)
  replace OX := Lib.hid (OX.out.grow b6)
  replace OG := Lib.hid (OG.out.grow b6)
  replace B := Lib.hid (B.out.trans (b6.mono B.out.size))
  clear b6
  go_wp2_with fail
  refine (toKnotS_any (R0.out.grow B.out) hl20).mono ?_
  rintro e u7 ⟨v7, rfl, o7, b7⟩
  have R7 := Lib.hid o7.row
  replace OW := Lib.hid (OW.out.grow b7)
  replace OX := Lib.hid (OX.out.grow b7)
  replace OG := Lib.hid (OG.out.grow b7)
  replace B := Lib.hid (B.out.trans (b7.mono B.out.size))
  clear o7 b7
  go_wp2_with fail
  refine (eqs_yes OX.out.row R7.out rfl).mono ?_
  rintro e u8 ⟨rfl, b8⟩
  replace OW := Lib.hid (OW.out.grow b8)
  replace OX := Lib.hid (OX.out.grow b8)
  replace OG := Lib.hid (OG.out.grow b8)
  replace B := Lib.hid (B.out.trans (b8.mono B.out.size))
  clear R7 b8
  go_wp2_with fail
  refine (mark_is OX.out hl20 NK.out).mono ?_
  rintro e u9 ⟨rfl, o9, c9⟩
  replace OW := Lib.hid (OW.out.chg c9 OX.out (.inl (Nat.le_refl _)))
  replace OG := Lib.hid (OG.out.chg c9 OX.out (.inr SK.out))
  replace B := Lib.hid (B.out.trans ((c9.below (OX.out.low S3.out))))
  clear o9 c9 OX
  go_wp2_with fail
  refine (eqs_yes OG.out.row OW.out.row rfl).mono ?_
  rintro e u10 ⟨rfl, b10⟩
  replace OW := Lib.hid (OW.out.grow b10)
  replace OG := Lib.hid (OG.out.grow b10)
  replace B := Lib.hid (B.out.trans (b10.mono B.out.size))
  clear b10
  go_wp2_with fail
  refine (mark_is OG.out hm20 NM.out).mono ?_
  rintro e u11 ⟨rfl, o11, c11⟩
  replace OW := Lib.hid (OW.out.chg c11 OG.out (.inl S4.out))
  replace B := Lib.hid (B.out.trans ((c11.below (OG.out.low S5.out))))
  replace OG := Lib.hid o11
  clear o11 c11
  go_wp2_with fail
  refine (held_is OG.out hm20 NM.out).mono ?_
  rintro e u12 ⟨rfl, rfl⟩
  have k0 := (B.out.cell (p := ⟨w.heap.size, 0, none⟩) (by simp)).trans KC.out.1
  have k1 := (B.out.cell (p := ⟨w.heap.size, 1, none⟩) (by simp)).trans KC.out.2
  go_wp2_with fail
  go_region_held3 (fun w' => w'.cell? ⟨w.heap.size, 0, none⟩ = some (.int .i64 a1f0) ∧ w'.cell? ⟨w.heap.size, 1, none⟩ = some (.int .i64 a1f1))
    (first | go_keep | (go_split_ands; exact held2 b13 ‹_› ‹_›) | (go_split_ands; exact held2 bk ‹_› ‹_›) | (go_split_ands; exact held2 b14 ‹_› ‹_›))
    (first | (go_at_call 28; refine (toKnotS_any ((R0.out.grow B.out).grow (by go_grown)) hl20).mono ?_; rintro e u13 ⟨v13, rfl, o13, b13⟩) | (go_at_call 38; refine (toKnot_any (a1f0, a1f1) _).mono ?_; rintro e uk ⟨rfl, bk⟩) | (go_at_call 16; refine (lstb_own (implCurveAdd_any (a1f0, a1f1) ((o13.row.grow (by go_grown)).grow (by go_grown))) HM.out HB.out).mono ?_; rintro e u14 ⟨vh, rfl, o14, b14⟩))
  have BX := Lib.hid (show Below u11.heap.size u11 u13 from Below.trans (by go_grown) (b13.mono (by go_size)))
  replace BX := Lib.hid (BX.out.trans (bk.mono BX.out.size))
  replace BX := Lib.hid (BX.out.trans (b14.mono BX.out.size))
  have R14 := Lib.hid o14.row
  replace OW := Lib.hid (OW.out.grow BX.out)
  replace OG := Lib.hid (OG.out.grow BX.out)
  replace B := Lib.hid (B.out.trans (BX.out.mono B.out.size))
  clear b13 bk b14 o13 o14 k0 k1
  go_wp2_with fail
  refine (eqs_yes R14.out OW.out.row rfl).mono ?_
  rintro e u15 ⟨rfl, b15⟩
  replace OG := Lib.hid (OG.out.grow b15)
  replace B := Lib.hid (B.out.trans (b15.mono B.out.size))
  clear R14 OW b15
  go_wp2_with fail
  refine (held_is OG.out hm20 NM.out).mono ?_
  rintro e u16 ⟨rfl, rfl⟩
  go_wp2_with fail
  go_ret
  exact ⟨rfl, by have := B.out; exact Below.trans (by go_grown) (this.mono (by go_size))⟩

set_option maxRecDepth 100000 in
theorem lifted (os : Os) (started : os.Started) (H : Type) (enc : TypeId × Value → H) :
    ReturnsInHanded {} Try.checked os 10 .any (Rows.fnExactCurveAddSpec.pre6 enc Try.prog Try.f10 Rows.fnExactCurveAddRow.domain false) (Rows.fnExactCurveAddSpec.post enc Try.prog Try.f10 false true false false) := by
  refine returnsInHanded_of_change (C := Try.checked) own started (by kernel_rfl) Try.func10
    (ChangeSpec.witness6 (enc := enc) (C := Try.checked) false ⟨#[], #[.slice none 0 0, .agg #[.int .i64 0, .int .i64 0]], []⟩ 8 (by kernel_rfl) (by kernel_rfl) (by kernel_rfl) (by kernel_rfl)) ?_
  intro W base args ds gs before hval0 hW hcnd _
  have hval : ∀ (j : Nat) t v, Try.f10.params[j]? = some t → args[j]? = some v → Value.okWide Try.prog W .any base t v := hval0
  have hW' := hW
  obtain ⟨p, q, hA0, hV, rfl, hfz, hnd⟩ := hW
  have hA : DataW.TrodAll enc Try.prog W 0 (fun _ => true) true Try.f10.params.toList args.toList ds p := hA0
  rw [Try.params10] at hA hval
  obtain ⟨v0, vs0, d0, ds0, p0, q0, hargs, rfl, rfl, h0, r0⟩ := trodAll_cons hA
  obtain ⟨v1, vs1, d1, ds1, p1, q1, rfl, rfl, rfl, h1, r1⟩ := trodAll_cons r0
  obtain ⟨rfl, rfl, rfl⟩ := trodAll_nil r1
  obtain rfl : args = #[v0, v1] := by cases args; simp_all
  obtain ⟨rfl, rfl⟩ := trodVars_none hV
  obtain ⟨a0, len0, cap0, rfl⟩ := okWide_slice Try.underlying41 (hval 0 41 v0 rfl rfl)
  have k0 := h0
  have lt0 : ∀ x ∈ p0, x.block < W.heap.size := by obtain ⟨m, hm⟩ := k0; exact DataW.trod_lt m _ _ _ hm
  obtain ⟨l0, w0⟩ := open_pieces Try.underlying41 Try.underlying49 (by kernel_rfl) rfl rfl (by kernel_rfl) (by kernel_rfl) Try.underlying3 Try.underlying3 h0
  obtain ⟨c0, c1, y0, y1, m, rfl, rfl, rfl, hy0, hy1⟩ := Go.Joins.open_agg2 Try.underlying49 (by kernel_rfl) cells49 (hval 1 49 v1 rfl rfl) h1
  obtain ⟨a1f0, e0, rfl, w1f0⟩ := DataW.trod_int Try.underlying3 hy0
  obtain ⟨a1f1, e1, rfl, w1f1⟩ := DataW.trod_int Try.underlying3 hy1
  simp at e0 e1
  subst e0 e1
  clear hA0 hval0
  refine (walk a0 len0 cap0 l0 a1f0 a1f1 w1f0 w1f1 W w0).mono fun e W' ⟨he, hg⟩ => ?_
  subst he
  exact ⟨_, rfl, _, _, _, [], _, [], hW', (trodAll_cons_mk (shut_bool Try.underlying4 _) trodAll_mk0), (trodAll_cons_mk (Below.trod laidOut (by kernel_rfl) (of_decide_eq_true (by kernel_rfl)) k0 hg lt0) (trodAll_cons_mk (Go.Joins.shut_agg2 (y0 := (.lit (.int .i64 a1f0), [])) (y1 := (.lit (.int .i64 a1f1), [])) Try.underlying49 (by kernel_rfl) cells49 ⟨1, by simp [DataW.trod, show Try.checked.prog.underlying 3 = some (.int .i64) from Try.underlying3, w1f0]⟩ ⟨1, by simp [DataW.trod, show Try.checked.prog.underlying 3 = some (.int .i64) from Try.underlying3, w1f1]⟩) trodAll_mk0)), rfl, hg.frame _, fun h => by cases h⟩

theorem over : Rows.fnExactCurveAddRow.holds Try.pinned (OpenSpec.ofChange Rows.fnExactCurveAddSpec) :=
  OpenClaim.holds_of_wide 10 Try.f10 rfl rfl rfl rfl rfl rfl rfl ⟨rfl, rfl, rfl, rfl, rfl⟩ rfl rfl rfl rfl rfl (by kernel_rfl) Try.func10 (by kernel_rfl)
    (of_decide_eq_true (by kernel_rfl)) (by unfold Func.isWrapper; first | (rw [if_pos (by decide +kernel)]; kernel_rfl) | (rw [if_neg (by decide +kernel)]; exact ⟨rfl, rfl⟩))
    (fun os started H enc _ => lifted os started H enc)

/-- The statement. -/
theorem proved : Rows.FnExactCurveAddSaid :=
  over
#print axioms proved
end Go.Proofs.Ythpfehjjaamkkac.fnExactCurveAdd
