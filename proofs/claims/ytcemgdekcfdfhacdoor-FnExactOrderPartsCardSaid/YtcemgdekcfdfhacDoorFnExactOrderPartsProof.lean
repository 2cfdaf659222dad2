/- For every input, the law FnExactOrderParts of the given statements returns true over the program at this commit, and its arguments read afterwards as before: its conditions: the package-level variables that the row lists hold what the program's own text lays into them, which the card ties. -/
import Derived.Test.YtcemgdekcfdfhacDoorRows
import Derived.Test.YtcemgdekcfdfhacDoorCards
import Derived.Test.YtcemgdekcfdfhacDoorTie
import Derived.Test.YtcemgdekcfdfhacDoorOrdXP
import Derived.Deep.DeepWitnessRowRef
import Derived.LaidMore
import Derived.MakeChecks
import Derived.SevenTiedAt
import Derived.WalkKit
import Derived.ProofKit
import Derived.OpenShut
import Derived.ShutString
namespace Go.Proofs.YtcemgdekcfdfhacDoor.fnExactOrderParts
open Go.ChangeShapes Go.WideShapes Go.ChangeAt Go.RowKit
open Go.ChangeMaps (open_string shut_string)
set_option linter.unusedVariables false      -- a walk need not use every 'w<i>' (that an integer argument fits its kind)

theorem own : ownKnob Tryd.prog.godebug = none := by kernel_rfl

set_option maxRecDepth 100000 in
set_option maxHeartbeats 3200000 in
theorem walk (a0 : ByteArray) (w0 : a0.size ≤ maxLen) (w : World) (hL : laidMet Tryd.prog Rows.fnExactOrderPartsRow.laid w) (hSh : w.ShapedOpen Tryd.prog) :
    Calls Tryd.prog 3 #[.string a0] w fun e w' => e = .returned (.bool true) ∧ Below w.heap.size w w' := by
  have M0 := Lib.hid (ml_of hSh)
  clear hL hSh
  obtain ⟨L, rfl, hsz⟩ := str_all a0
  by_cases hl0 : 1048576 < L.length
  · have hd0 : decide ((1048576 : Int) < (L.length : Int)) = true := by simp; omega
    rw [← hsz] at hd0
    go_enter Tryd.func3, Tryd.ntmps3
    go_wp2_with fail
    go_ret
    exact ⟨rfl, Below.refl _ _⟩
  have hd0 : decide ((1048576 : Int) < (L.length : Int)) = false := by simp; omega
  rw [← hsz] at hd0
  have h20 : L.length ≤ 1048600 := by omega
  go_enter Tryd.func3, Tryd.ntmps3
  have BB := Lib.hid (Below.refl w.heap.size w)
  obtain ⟨m, hm⟩ : ∃ x, ((partsOf L).map Prod.fst).getD [] = x := ⟨_, rfl⟩
  obtain ⟨n, hn⟩ : ∃ x, ((partsOf L).map Prod.snd).getD [] = x := ⟨_, rfl⟩
  obtain ⟨b, hb⟩ : ∃ x, (partsOf L).isSome = x := ⟨_, rfl⟩
  obtain ⟨m4, n4⟩ := parts_len hm hn
  have HM := Lib.hid hm; have HN := Lib.hid hn; have HB := Lib.hid hb
  clear hm hn hb
  have bo : (b != b) = false := by simp
  have d1 : decide (1 + (m.length : Int) < 0) = false := by simp; omega
  have d2 : decide (1 + (m.length : Int) + (n.length : Int) < 0) = false := by simp; omega
  have d4 : ((1 + (m.length : Int) + (n.length : Int)) != (1 + (m.length : Int) + (n.length : Int))) = false := by simp
  go_wp2_with fail
  refine (oparts_gen (specParts_any L h20 _) HM.out HN.out HB.out).mono ?_
  rintro e wv2 ⟨vV, vW, rfl, o1, o2, p9, b9⟩
  replace BB := Lib.hid (BB.out.trans (b9.mono BB.out.size))
  have z2 : w.heap.size ≤ wv2.heap.size := b9.size
  have OV := Lib.hid o1
  have DV := Lib.hid (o1).lies
  have OW := Lib.hid o2
  have DW := Lib.hid (o2).lies
  clear b9
  have PVW := Lib.hid p9
  clear o1 o2 p9
  go_wp2_with fail
  refine (oparts_gen (partsImpl_any L h20 (M0.out.grow BB.out)) HM.out HN.out HB.out).mono ?_
  rintro e wv3 ⟨vG, vH, rfl, o1, o2, p9, b9⟩
  replace OV := Lib.hid (OV.out.grow b9)
  replace OW := Lib.hid (OW.out.grow b9)
  replace BB := Lib.hid (BB.out.trans (b9.mono BB.out.size))
  have z3 : wv2.heap.size ≤ wv3.heap.size := b9.size
  have OG := Lib.hid o1
  have DG := Lib.hid (o1).lies
  have OH := Lib.hid o2
  have DH := Lib.hid (o2).lies
  clear b9
  have PGH := Lib.hid p9
  clear o1 o2 p9
  go_wp2_with fail
  refine (ieqs_yes OG.out.row OV.out.row rfl).mono ?_
  rintro e wv4 ⟨rfl, b9⟩
  replace OV := Lib.hid (OV.out.grow b9)
  replace OW := Lib.hid (OW.out.grow b9)
  replace OG := Lib.hid (OG.out.grow b9)
  replace OH := Lib.hid (OH.out.grow b9)
  replace BB := Lib.hid (BB.out.trans (b9.mono BB.out.size))
  have z4 : wv3.heap.size ≤ wv4.heap.size := b9.size
  clear b9
  go_wp2_with fail
  refine (ieqs_yes OH.out.row OW.out.row rfl).mono ?_
  rintro e wv5 ⟨rfl, b9⟩
  replace OV := Lib.hid (OV.out.grow b9)
  replace OW := Lib.hid (OW.out.grow b9)
  replace OG := Lib.hid (OG.out.grow b9)
  replace OH := Lib.hid (OH.out.grow b9)
  replace BB := Lib.hid (BB.out.trans (b9.mono BB.out.size))
  have z5 : wv4.heap.size ≤ wv5.heap.size := b9.size
  clear b9
  go_wp2_with fail
  refine (markIntS_any (k0 := 1) OG.out (by omega) (by omega) (by omega)).mono ?_
  rintro e wv6 ⟨rfl, om, c9⟩
  replace OV := Lib.hid (OV.out.chg c9 (in_apart DV.out DG.out (by omega)))
  replace OW := Lib.hid (OW.out.chg c9 (in_apart DW.out DG.out (by omega)))
  replace OH := Lib.hid (OH.out.chg c9 PGH.out.symm)
  replace OG := Lib.hid om
  replace BB := Lib.hid (BB.out.trans (c9.below (fun k hk => by have := DG.out k hk; omega)))
  have z6 : wv5.heap.size ≤ wv6.heap.size := Nat.le_of_eq c9.size.symm
  clear om c9
  go_wp2_with fail
  refine (markIntS_any (k0 := 1 + (m.length : Int)) OH.out (by omega) (by omega) (by omega)).mono ?_
  rintro e wv7 ⟨rfl, om, c9⟩
  replace OV := Lib.hid (OV.out.chg c9 (in_apart DV.out DH.out (by omega)))
  replace OW := Lib.hid (OW.out.chg c9 (in_apart DW.out DH.out (by omega)))
  replace OG := Lib.hid (OG.out.chg c9 PGH.out)
  replace OH := Lib.hid om
  replace BB := Lib.hid (BB.out.trans (c9.below (fun k hk => by have := DH.out k hk; omega)))
  have z7 : wv6.heap.size ≤ wv7.heap.size := Nat.le_of_eq c9.size.symm
  clear om c9
  go_wp2_with fail
  refine (heldIntS_any (k0 := 1) OG.out (by omega) (by omega) (by omega)).mono ?_
  rintro e wv8 ⟨rfl, rfl⟩
  go_wp2_with fail
  refine (heldIntS_any (k0 := 1 + (m.length : Int)) OH.out (by omega) (by omega) (by omega)).mono ?_
  rintro e wv9 ⟨rfl, rfl⟩
  go_wp2_with fail
  refine (oparts_gen (partsImpl_any L h20 (M0.out.grow BB.out)) HM.out HN.out HB.out).mono ?_
  rintro e wv10 ⟨vX, vY, rfl, o1, o2, p9, b9⟩
  replace OV := Lib.hid (OV.out.grow b9)
  replace OW := Lib.hid (OW.out.grow b9)
  replace OG := Lib.hid (OG.out.grow b9)
  replace OH := Lib.hid (OH.out.grow b9)
  replace BB := Lib.hid (BB.out.trans (b9.mono BB.out.size))
  have z10 : wv7.heap.size ≤ wv10.heap.size := b9.size
  have OX := Lib.hid o1
  have DX := Lib.hid (o1).lies
  have OY := Lib.hid o2
  have DY := Lib.hid (o2).lies
  clear b9
  have PXY := Lib.hid p9
  clear o1 o2 p9
  go_wp2_with fail
  refine (ieqs_yes OX.out.row OV.out.row rfl).mono ?_
  rintro e wv11 ⟨rfl, b9⟩
  replace OV := Lib.hid (OV.out.grow b9)
  replace OW := Lib.hid (OW.out.grow b9)
  replace OG := Lib.hid (OG.out.grow b9)
  replace OH := Lib.hid (OH.out.grow b9)
  replace OX := Lib.hid (OX.out.grow b9)
  replace OY := Lib.hid (OY.out.grow b9)
  replace BB := Lib.hid (BB.out.trans (b9.mono BB.out.size))
  have z11 : wv10.heap.size ≤ wv11.heap.size := b9.size
  clear b9
  go_wp2_with fail
  refine (ieqs_yes OY.out.row OW.out.row rfl).mono ?_
  rintro e wv12 ⟨rfl, b9⟩
  replace OV := Lib.hid (OV.out.grow b9)
  replace OW := Lib.hid (OW.out.grow b9)
  replace OG := Lib.hid (OG.out.grow b9)
  replace OH := Lib.hid (OH.out.grow b9)
  replace OX := Lib.hid (OX.out.grow b9)
  replace OY := Lib.hid (OY.out.grow b9)
  replace BB := Lib.hid (BB.out.trans (b9.mono BB.out.size))
  have z12 : wv11.heap.size ≤ wv12.heap.size := b9.size
  clear b9
  go_wp2_with fail
  refine (heldIntS_any (k0 := 1) OG.out (by omega) (by omega) (by omega)).mono ?_
  rintro e wv13 ⟨rfl, rfl⟩
  go_wp2_with fail
  refine (heldIntS_any (k0 := 1 + (m.length : Int)) OH.out (by omega) (by omega) (by omega)).mono ?_
  rintro e wv14 ⟨rfl, rfl⟩
  go_wp2_with fail
  go_ret
  exact ⟨by first | rfl | (simp; done) | (simp; omega), BB.out⟩

/-- A start that fits: the heap that the program's own start-up code for the listed variables leaves. -/
noncomputable def laidWorld (os : Os) : World := (World.doorLaid Tryd.prog 600 os).setRow 1 ((Go.Pinned.utf8FirstZ.map fun (n : Nat) => Value.int .u8 (n : Int)).toArray)
theorem laid_met (os : Os) (args : Array Value) : laidMetH Tryd.prog Rows.fnExactOrderPartsRow.laid ((laidWorld os).forCall (fun _ _ => 0) ⟨#[], args, []⟩).memory := by
  rw [MakeChecks.laidMetH_plain _ _ _ (by kernel_rfl)]
  exact laidMet_of_run' 8 (by kernel_rfl) (by kernel_rfl)
theorem reads (os : Os) {H : Type} (enc : TypeId × Value → H) : ∃ places, DataW.whole enc Tryd.prog ((laidWorld os).forCall (fun _ _ => 0) ⟨#[], #[.string ByteArray.empty], []⟩).memory Tryd.f3.params.toList Rows.fnExactOrderPartsSpec.vars false #[(Value.string ByteArray.empty)].toList 8 = some ([.lit (.string [])], [], places) :=
  ⟨[], by kernel_rfl⟩

set_option maxRecDepth 100000 in
theorem lifted (os : Os) (started : os.Started) (H : Type) (enc : TypeId × Value → H) (F : Stop.Interp) :
    ReturnsInHanded {} Tryd.checked os 3 .any ((OpenSpec.ofChange Rows.fnExactOrderPartsSpec).preRow enc Tryd.prog Tryd.f3 Rows.fnExactOrderPartsRow.domain false Rows.fnExactOrderPartsRow.laid) (((OpenSpec.ofChange Rows.fnExactOrderPartsSpec).at F).post enc Tryd.prog Tryd.f3 false true false false) := by
  obtain ⟨places, hx⟩ := reads os enc
  refine returnsInHanded_of_row (C := Tryd.checked) (s := OpenSpec.ofChange Rows.fnExactOrderPartsSpec) own started (by kernel_rfl) Tryd.func3
    (witness_row_atRef (enc := enc) (C := Tryd.checked) false (laidWorld os) #[.string ByteArray.empty] rfl (by kernel_rfl) (by kernel_rfl) (by kernel_rfl)
      (OpenSpec.preRow_of_cond 8 hx (by kernel_rfl) (fun k hk => by cases hk) (by kernel_rfl) (laid_met os _))) ?_
  intro W base args ds gs before hval0 hW hcnd _ hsz hLH hSh _
  have hL : laidMet Tryd.prog Rows.fnExactOrderPartsRow.laid W := by rw [← MakeChecks.laidMetH_plain _ _ _ (by kernel_rfl)]; exact hLH
  have hval : ∀ (j : Nat) t v, Tryd.f3.params[j]? = some t → args[j]? = some v → Value.okWide Tryd.prog W .any base t v := hval0
  have hW' := hW
  obtain ⟨p, q, hA0, hV, rfl, hfz, hnd⟩ := hW
  have hA : DataW.TrodAll enc Tryd.prog W 0 (fun _ => true) true Tryd.f3.params.toList args.toList ds p := hA0
  rw [Tryd.params3] at hA hval
  obtain ⟨v0, vs0, d0, ds0, p0, q0, hargs, rfl, rfl, h0, r0⟩ := trodAll_cons hA
  obtain ⟨rfl, rfl, rfl⟩ := trodAll_nil r0
  obtain rfl : args = #[v0] := by cases args; simp_all
  obtain ⟨rfl, rfl⟩ := trodVars_none hV
  obtain ⟨a0, rfl, rfl, rfl, w0⟩ := open_string Tryd.underlying9 (hval 0 9 v0 rfl rfl) h0
  clear hA0 hval0
  simp only [List.append_nil] at hW'
  refine (walk a0 w0 W hL hSh).mono fun e W' ⟨he, hg⟩ => ?_
  subst he
  exact ⟨_, rfl, _, _, _, [], [], [], hW', (trodAll_cons_mk (shut_bool Tryd.underlying4 _) trodAll_mk0), (trodAll_cons_mk (shut_string Tryd.underlying9 w0) trodAll_mk0), rfl, hg.frame _, fun h => by cases h⟩

theorem said : Rows.fnExactOrderPartsRow.holds Tryd.pinned (OpenSpec.ofChange Rows.fnExactOrderPartsSpec) :=
  OpenClaim.holds_of_cond 3 Tryd.f3 rfl rfl rfl rfl rfl rfl rfl ⟨rfl, rfl, rfl, rfl, rfl⟩ rfl rfl rfl rfl rfl (by kernel_rfl) Tryd.func3 (by kernel_rfl)
    (of_decide_eq_true (by kernel_rfl)) (by unfold Func.isWrapper; first | (rw [if_pos (by decide +kernel)]; kernel_rfl) | (rw [if_neg (by decide +kernel)]; exact ⟨rfl, rfl⟩))
    (fun os started H enc _ F => by rw [OpenClaim.pre_eq_preRow]; exact lifted os started H enc F)

/-- No parameter wants a stand-in; the program's own looks are as the card says. -/
theorem plain (f : FuncId) (fn : Func) (hf : Tryd.pinned.checked.prog.funcNamed "loop.example/icecores/laws.FnExactOrderParts" = some f) (hfn : Tryd.pinned.checked.prog.funcs[f]? = some fn) :
    false = Tryd.pinned.checked.prog.looks [] ∧ ∀ (j : Nat) t, fn.params[j]? = some t → Tryd.pinned.checked.prog.wantsStandIn t = false := by
  obtain rfl : f = 3 := Option.some.inj ((show Tryd.prog.funcNamed "loop.example/icecores/laws.FnExactOrderParts" = some 3 by kernel_rfl).symm.trans hf) |>.symm
  obtain rfl : fn = Tryd.f3 := (Option.some.inj (Tryd.func3.symm.trans hfn)).symm
  refine ⟨by kernel_rfl, fun j t ht => ?_⟩
  have hall : (Tryd.f3.params.toList.all fun u => !Tryd.prog.wantsStandIn u) = true := by kernel_rfl
  exact (show Tryd.prog.wantsStandIn t = false by simpa using List.all_eq_true.1 hall t (by simpa using Array.mem_of_getElem? ht))

/-- The card: the row, and what its listed variables hold tied to the program's text. -/
theorem proved : Rows.FnExactOrderPartsCardSaid :=
  Claim7.holds_tied_plain_at .later [] _ _ _ _ said (fun _ h => by cases h) (by kernel_rfl) (fun _ h => by cases h) fnExactOrderParts_row_tie rfl ⟨rfl, rfl⟩ (by kernel_rfl) rfl plain (by kernel_rfl)
#print axioms proved
end Go.Proofs.YtcemgdekcfdfhacDoor.fnExactOrderParts
