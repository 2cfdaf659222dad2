/- For every input, the law FnOrderPartsJoin of the given statements returns true over the program at this commit, and its arguments read afterwards as before: its conditions: the package-level variables that the row lists hold what the program's own text lays into them, which the card ties. -/
import Derived.Test.YtcemgdekcfdfhabDoorRows
import Derived.Test.YtcemgdekcfdfhabDoorCards
import Derived.Test.YtcemgdekcfdfhabDoorTie
import Derived.Test.YtcemgdekcfdfhabDoorLawJ
import Derived.Deep.DeepWitnessRowRef
import Derived.LaidMore
import Derived.MakeChecks
import Derived.SevenTiedAt
import Derived.WalkKit
import Derived.ProofKit
import Derived.OpenShut
import Derived.ShutString
import Derived.ChangeOld
import Derived.Below
namespace Go.Proofs.YtcemgdekcfdfhabDoor.fnOrderPartsJoin
open Go.ChangeShapes Go.WideShapes Go.ChangeAt Go.RowKit
open Go.ChangeMaps (open_string shut_string)
set_option linter.unusedVariables false

theorem own : ownKnob Tryd.prog.godebug = none := by kernel_rfl
theorem laidOut : laidOutB Tryd.prog = true := by kernel_rfl

/-- WHAT THE WALK IS TOLD OF A SLICE OF INTEGERS THAT CAME IN: it is nil; or it leads to a row of 'cap' cells, the numbers 'zs' (the first 'len' are its elements, the rest its spare room), each fitting its kind. -/
def IsRow (k : IntKind) (w : World) (a : Option Addr) (len cap : Nat) (zs : List Int) : Prop :=
  (a = none ∧ len = 0 ∧ cap = 0 ∧ zs = []) ∨
  ∃ x, a = some x ∧ len ≤ cap ∧ cap ≤ maxLen ∧ zs.length = cap ∧ (∀ i, i < zs.length → w.cell? (x.add i) = some (.int k (zs.getD i 0))) ∧ ∀ n ∈ zs, (Lit.int k n).wf = true

set_option maxRecDepth 100000 in
set_option maxHeartbeats 3200000 in
theorem walk (a0 : Option Addr) (len0 cap0 : Nat) (z0 : List Int) (w : World) (w0 : IsRow .u8 w a0 len0 cap0 z0) (hL : laidMet Tryd.prog Rows.fnOrderPartsJoinRow.laid w) (hSh : w.ShapedOpen Tryd.prog) :
    Calls Tryd.prog 4 #[.slice a0 len0 cap0] w fun e w' => e = .returned (.bool true) ∧ Below w.heap.size w w' := by
  have hB := bytes_of w0
  have M0 := Lib.hid (ml_of hSh)
  clear hL hSh
  by_cases hl : 1048576 < len0
  · have hdec : decide (1048576 < len0) = true := by simpa using hl
    go_enter Tryd.func4, Tryd.ntmps4
    go_wp2_with fail
    go_ret
    exact ⟨rfl, Below.refl _ _⟩
  have hdec : decide (1048576 < len0) = false := by simpa using hl
  have hm : len0 ≤ 1048576 := by omega
  go_enter Tryd.func4, Tryd.ntmps4
  go_wp2_with fail
  refine (DrawOrderParts_any hB).mono ?_
  rintro e wv1 ⟨t, rfl, t64, b1⟩
  clear w0 hB
  have BB := Lib.hid b1
  clear b1
  have M := Lib.hid (M0.out.grow BB.out)
  have so : (str t).size = t.length := str_size t
  have t9 : t.length ≤ 1048600 := by omega
  clear M0
  cases hp : partsOf t with
  | none =>
    have HP := Lib.hid hp
    clear hp
    go_wp2_with fail
    refine (got_none (partsImpl_any t t9 M.out) HP.out).mono ?_
    rintro e wv2 ⟨vA, vB, rfl, o1, o2, b9⟩
    replace M := Lib.hid (M.out.grow b9)
    replace BB := Lib.hid (BB.out.trans (b9.mono BB.out.size))
    clear b9
    have A := Lib.hid o1
    clear o1
    have B := Lib.hid o2
    clear o2
    go_wp2_with fail
    refine (got_none (specParts_any t t9 _) HP.out).mono ?_
    rintro e wv3 ⟨vX, vY, rfl, o1, o2, b9⟩
    replace M := Lib.hid (M.out.grow b9)
    replace A := Lib.hid (A.out.grow b9)
    replace B := Lib.hid (B.out.grow b9)
    replace BB := Lib.hid (BB.out.trans (b9.mono BB.out.size))
    clear b9
    have X := Lib.hid o1
    clear o1
    have Y := Lib.hid o2
    clear o2
    go_wp2_with fail
    refine (isame_yes A.out X.out rfl).mono ?_
    rintro e wv4 ⟨rfl, b9⟩
    replace M := Lib.hid (M.out.grow b9)
    replace A := Lib.hid (A.out.grow b9)
    replace B := Lib.hid (B.out.grow b9)
    replace X := Lib.hid (X.out.grow b9)
    replace Y := Lib.hid (Y.out.grow b9)
    replace BB := Lib.hid (BB.out.trans (b9.mono BB.out.size))
    clear b9
    go_wp2_with fail
    refine (isame_yes B.out Y.out rfl).mono ?_
    rintro e wv5 ⟨rfl, b9⟩
    replace M := Lib.hid (M.out.grow b9)
    replace A := Lib.hid (A.out.grow b9)
    replace B := Lib.hid (B.out.grow b9)
    replace X := Lib.hid (X.out.grow b9)
    replace Y := Lib.hid (Y.out.grow b9)
    replace BB := Lib.hid (BB.out.trans (b9.mono BB.out.size))
    clear b9
    go_wp2_with fail
    refine (isame_yes A.out X.out rfl).mono ?_
    rintro e wv6 ⟨rfl, b9⟩
    replace M := Lib.hid (M.out.grow b9)
    replace A := Lib.hid (A.out.grow b9)
    replace B := Lib.hid (B.out.grow b9)
    replace X := Lib.hid (X.out.grow b9)
    replace Y := Lib.hid (Y.out.grow b9)
    replace BB := Lib.hid (BB.out.trans (b9.mono BB.out.size))
    clear b9
    go_wp2_with fail
    refine (isame_yes B.out Y.out rfl).mono ?_
    rintro e wv7 ⟨rfl, b9⟩
    replace M := Lib.hid (M.out.grow b9)
    replace A := Lib.hid (A.out.grow b9)
    replace B := Lib.hid (B.out.grow b9)
    replace X := Lib.hid (X.out.grow b9)
    replace Y := Lib.hid (Y.out.grow b9)
    replace BB := Lib.hid (BB.out.trans (b9.mono BB.out.size))
    clear b9
    go_wp2_with fail
    go_ret
    exact ⟨by first | rfl | (simp; done) | (simp; omega), BB.out⟩
  | some ab =>
    obtain ⟨a, b⟩ := ab
    have HP := Lib.hid hp
    clear hp
    go_wp2_with fail
    refine (got_yes (partsImpl_any t t9 M.out) HP.out).mono ?_
    rintro e wv2 ⟨vA, vB, rfl, o1, o2, b9⟩
    replace M := Lib.hid (M.out.grow b9)
    replace BB := Lib.hid (BB.out.trans (b9.mono BB.out.size))
    clear b9
    have A := Lib.hid o1
    clear o1
    have B := Lib.hid o2
    clear o2
    go_wp2_with fail
    refine (got_yes (specParts_any t t9 _) HP.out).mono ?_
    rintro e wv3 ⟨vX, vY, rfl, o1, o2, b9⟩
    replace M := Lib.hid (M.out.grow b9)
    replace A := Lib.hid (A.out.grow b9)
    replace B := Lib.hid (B.out.grow b9)
    replace BB := Lib.hid (BB.out.trans (b9.mono BB.out.size))
    clear b9
    have X := Lib.hid o1
    clear o1
    have Y := Lib.hid o2
    clear o2
    go_wp2_with fail
    refine (isame_yes A.out X.out rfl).mono ?_
    rintro e wv4 ⟨rfl, b9⟩
    replace M := Lib.hid (M.out.grow b9)
    replace A := Lib.hid (A.out.grow b9)
    replace B := Lib.hid (B.out.grow b9)
    replace X := Lib.hid (X.out.grow b9)
    replace Y := Lib.hid (Y.out.grow b9)
    replace BB := Lib.hid (BB.out.trans (b9.mono BB.out.size))
    clear b9
    go_wp2_with fail
    refine (isame_yes B.out Y.out rfl).mono ?_
    rintro e wv5 ⟨rfl, b9⟩
    replace M := Lib.hid (M.out.grow b9)
    replace A := Lib.hid (A.out.grow b9)
    replace B := Lib.hid (B.out.grow b9)
    replace X := Lib.hid (X.out.grow b9)
    replace Y := Lib.hid (Y.out.grow b9)
    replace BB := Lib.hid (BB.out.trans (b9.mono BB.out.size))
    clear b9
    clear X
    clear Y
    obtain ⟨hw, ha, hb, hs⟩ := parts_facts HP.out
    have W := Lib.hid hw; have LA := Lib.hid ha; have LB := Lib.hid hb; have LS := Lib.hid hs
    clear hw ha hb hs
    obtain ⟨aA, cA, rfl, kA, mA⟩ := plen_n A.out
    obtain ⟨aB, cB, rfl, kB, mB⟩ := plen_n B.out
    have ad : ∀ w, (Op.stringOp .add (str t) ⟨#[124, 97]⟩).run Tryd.prog w = .ok (.string (str (t ++ [124, 97]))) w := fun w => add_str t [124, 97] w (by simp; omega)
    have t10 : (t ++ [124, 97]).length ≤ 1048600 := by simp; omega
    obtain ⟨j1, j2⟩ := join_parts HP.out
    by_cases a4 : a.length = 4
    · have HN := Lib.hid (j1 a4)
      have a4' : (((a.length : Nat) : Int) == 4) = true := by rw [beq_iff_eq]; omega
      clear j1 j2 a4
      go_wp2_with fail
      refine (got_none (partsImpl_any _ t10 M.out) HN.out).mono ?_
      rintro e wv6 ⟨vP, vQ, rfl, o1, o2, b9⟩
      replace M := Lib.hid (M.out.grow b9)
      replace A := Lib.hid (A.out.grow b9)
      replace B := Lib.hid (B.out.grow b9)
      replace BB := Lib.hid (BB.out.trans (b9.mono BB.out.size))
      clear b9
      have P := Lib.hid o1
      clear o1
      have Q := Lib.hid o2
      clear o2
      go_wp2_with fail
      go_ret
      exact ⟨by first | rfl | (simp; done) | (simp; omega), BB.out⟩
    have HJ := Lib.hid (j2 a4)
    have a4' : (((a.length : Nat) : Int) == 4) = false := beq_eq_false_iff_ne.2 (by omega)
    have WL := Lib.hid W.out.len
    clear j1 j2 a4
    go_wp2_with fail
    refine (got_yes (partsImpl_any _ t10 M.out) HJ.out).mono ?_
    rintro e wv6 ⟨vP, vQ, rfl, o1, o2, b9⟩
    replace M := Lib.hid (M.out.grow b9)
    replace A := Lib.hid (A.out.grow b9)
    replace B := Lib.hid (B.out.grow b9)
    replace BB := Lib.hid (BB.out.trans (b9.mono BB.out.size))
    clear b9
    have P := Lib.hid o1
    clear o1
    have Q := Lib.hid o2
    clear o2
    obtain ⟨gP, oP, qP, eP, kP, mP⟩ := P.out.known (by simp)
    obtain ⟨gQ, oQ, qQ, eQ, kQ, mQ⟩ := Q.out.known (by simp)
    rw [show (a ++ [(1 : Int)]).length = a.length + 1 by simp] at eP kP
    rw [show (b ++ [(0 : Int)]).length = b.length + 1 by simp] at eQ kQ
    subst eP eQ
    have TP := Lib.hid (irow_front P.out a.length rfl)
    have TQ := Lib.hid (irow_front Q.out a.length WL.out.symm)
    have d1 := irow_last P.out a.length rfl
    have d2 := irow_last Q.out a.length WL.out.symm
    unfold maxLen at mP mQ
    have n0 : (0 : Int) ≤ (a.length : Int) := by omega
    have n1 : (a.length : Int) < (b.length : Int) + 1 := by have := WL.out; omega
    have n2 : a.length ≤ qP := by omega
    have n3 : a.length ≤ qQ := by have := WL.out; omega
    have n4 : (a.length : Int) ≤ (b.length : Int) + 1 := by omega
    have n9 : IntKind.i64.wrap ((a.length : Int) + 1) = (a.length : Int) + 1 := IntWalk.i64_in _ (by omega)
    go_wp2_with fail
    refine (isame_yes TP.out A.out rfl).mono ?_
    rintro e wv7 ⟨rfl, b9⟩
    replace M := Lib.hid (M.out.grow b9)
    replace A := Lib.hid (A.out.grow b9)
    replace B := Lib.hid (B.out.grow b9)
    replace P := Lib.hid (P.out.grow b9)
    replace Q := Lib.hid (Q.out.grow b9)
    replace TP := Lib.hid (TP.out.grow b9)
    replace TQ := Lib.hid (TQ.out.grow b9)
    replace BB := Lib.hid (BB.out.trans (b9.mono BB.out.size))
    clear b9
    go_wp2_with fail
    refine (isame_yes TQ.out B.out rfl).mono ?_
    rintro e wv8 ⟨rfl, b9⟩
    replace M := Lib.hid (M.out.grow b9)
    replace A := Lib.hid (A.out.grow b9)
    replace B := Lib.hid (B.out.grow b9)
    replace P := Lib.hid (P.out.grow b9)
    replace Q := Lib.hid (Q.out.grow b9)
    replace TP := Lib.hid (TP.out.grow b9)
    replace TQ := Lib.hid (TQ.out.grow b9)
    replace BB := Lib.hid (BB.out.trans (b9.mono BB.out.size))
    clear b9
    go_wp2_with fail
    go_ret
    exact ⟨by first | rfl | (simp; done) | (simp; omega), BB.out⟩

/-- A start that fits: the heap that the program's own start-up code for the listed variables leaves. -/
noncomputable def laidWorld (os : Os) : World := (World.doorLaid Tryd.prog 600 os).setRow 1 ((Go.Pinned.utf8FirstZ.map fun (n : Nat) => Value.int .u8 (n : Int)).toArray)
theorem laid_met (os : Os) (args : Array Value) : laidMetH Tryd.prog Rows.fnOrderPartsJoinRow.laid ((laidWorld os).forCall (fun _ _ => 0) ⟨#[], args, []⟩).memory := by
  rw [MakeChecks.laidMetH_plain _ _ _ (by kernel_rfl)]
  exact laidMet_of_run' 8 (by kernel_rfl) (by kernel_rfl)
theorem reads (os : Os) {H : Type} (enc : TypeId × Value → H) : ∃ places, DataW.whole enc Tryd.prog ((laidWorld os).forCall (fun _ _ => 0) ⟨#[], #[.slice none 0 0], []⟩).memory Tryd.f4.params.toList Rows.fnOrderPartsJoinSpec.vars false #[(Value.slice none 0 0)].toList 8 = some ([.nil], [], places) :=
  ⟨[], by kernel_rfl⟩

set_option maxRecDepth 100000 in
theorem lifted (os : Os) (started : os.Started) (H : Type) (enc : TypeId × Value → H) (F : Stop.Interp) :
    ReturnsInHanded {} Tryd.checked os 4 .any ((OpenSpec.ofChange Rows.fnOrderPartsJoinSpec).preRow enc Tryd.prog Tryd.f4 Rows.fnOrderPartsJoinRow.domain false Rows.fnOrderPartsJoinRow.laid) (((OpenSpec.ofChange Rows.fnOrderPartsJoinSpec).at F).post enc Tryd.prog Tryd.f4 false true false false) := by
  obtain ⟨places, hx⟩ := reads os enc
  refine returnsInHanded_of_row (C := Tryd.checked) (s := OpenSpec.ofChange Rows.fnOrderPartsJoinSpec) own started (by kernel_rfl) Tryd.func4
    (witness_row_atRef (enc := enc) (C := Tryd.checked) false (laidWorld os) #[.slice none 0 0] rfl (by kernel_rfl) (by kernel_rfl) (by kernel_rfl)
      (OpenSpec.preRow_of_cond 8 hx (by kernel_rfl) (fun k hk => by cases hk) (by kernel_rfl) (laid_met os _))) ?_
  intro W base args ds gs before hval0 hW hcnd _ hsz hLH hSh _
  have hL : laidMet Tryd.prog Rows.fnOrderPartsJoinRow.laid W := by rw [← MakeChecks.laidMetH_plain _ _ _ (by kernel_rfl)]; exact hLH
  have hval : ∀ (j : Nat) t v, Tryd.f4.params[j]? = some t → args[j]? = some v → Value.okWide Tryd.prog W .any base t v := hval0
  have hW' := hW
  obtain ⟨p, q, hA0, hV, rfl, hfz, hnd⟩ := hW
  have hA : DataW.TrodAll enc Tryd.prog W 0 (fun _ => true) true Tryd.f4.params.toList args.toList ds p := hA0
  rw [Tryd.params4] at hA hval
  obtain ⟨v0, vs0, d0, ds0, p0, q0, hargs, rfl, rfl, h0, r0⟩ := trodAll_cons hA
  obtain ⟨rfl, rfl, rfl⟩ := trodAll_nil r0
  obtain rfl : args = #[v0] := by cases args; simp_all
  obtain ⟨rfl, rfl⟩ := trodVars_none hV
  obtain ⟨a0, len0, cap0, rfl⟩ := okWide_slice Tryd.underlying22 (hval 0 22 v0 rfl rfl)
  have k0 := h0
  have lt0 : ∀ x ∈ p0, x.block < W.heap.size := by obtain ⟨m, hm⟩ := k0; exact DataW.trod_lt m _ _ _ hm
  obtain ⟨z0, w0⟩ : ∃ zs, IsRow .u8 W a0 len0 cap0 zs := by
    obtain ⟨fuel, hf⟩ := h0
    rcases open_ints Tryd.underlying22 Tryd.underlying5 (by kernel_rfl) hf with ⟨hcs, _⟩ | ⟨x, l, c, zs, hcs, _, hl, hm, hz, _, hcell, hwz⟩
    · simp [Value.cells] at hcs
      obtain ⟨rfl, rfl, rfl⟩ := hcs
      exact ⟨[], .inl ⟨rfl, rfl, rfl, rfl⟩⟩
    · simp [Value.cells] at hcs
      obtain ⟨rfl, rfl, rfl⟩ := hcs
      exact ⟨zs, .inr ⟨_, rfl, hl, hm, by simpa using hz, hcell, hwz⟩⟩
  clear hA0 hval0
  refine (walk a0 len0 cap0 z0 W w0 hL hSh).mono fun e W' ⟨he, bel⟩ => ?_
  subst he
  exact ⟨_, rfl, _, _, _, [], _, [], hW', trodAll_mk1 (shut_bool Tryd.underlying4 _), (trodAll_cons_mk (Below.trod laidOut (by kernel_rfl) (of_decide_eq_true (by kernel_rfl)) k0 bel lt0) trodAll_mk0), rfl, bel.frame _, fun h => by cases h⟩

theorem said : Rows.fnOrderPartsJoinRow.holds Tryd.pinned (OpenSpec.ofChange Rows.fnOrderPartsJoinSpec) :=
  OpenClaim.holds_of_cond 4 Tryd.f4 rfl rfl rfl rfl rfl rfl rfl ⟨rfl, rfl, rfl, rfl, rfl⟩ rfl rfl rfl rfl rfl (by kernel_rfl) Tryd.func4 (by kernel_rfl)
    (of_decide_eq_true (by kernel_rfl)) (by unfold Func.isWrapper; first | (rw [if_pos (by decide +kernel)]; kernel_rfl) | (rw [if_neg (by decide +kernel)]; exact ⟨rfl, rfl⟩))
    (fun os started H enc _ F => by rw [OpenClaim.pre_eq_preRow]; exact lifted os started H enc F)

/-- No parameter wants a stand-in; the program's own looks are as the card says. -/
theorem plain (f : FuncId) (fn : Func) (hf : Tryd.pinned.checked.prog.funcNamed "loop.example/icecores/laws.FnOrderPartsJoin" = some f) (hfn : Tryd.pinned.checked.prog.funcs[f]? = some fn) :
    false = Tryd.pinned.checked.prog.looks [] ∧ ∀ (j : Nat) t, fn.params[j]? = some t → Tryd.pinned.checked.prog.wantsStandIn t = false := by
  obtain rfl : f = 4 := Option.some.inj ((show Tryd.prog.funcNamed "loop.example/icecores/laws.FnOrderPartsJoin" = some 4 by kernel_rfl).symm.trans hf) |>.symm
  obtain rfl : fn = Tryd.f4 := (Option.some.inj (Tryd.func4.symm.trans hfn)).symm
  refine ⟨by kernel_rfl, fun j t ht => ?_⟩
  have hall : (Tryd.f4.params.toList.all fun u => !Tryd.prog.wantsStandIn u) = true := by kernel_rfl
  exact (show Tryd.prog.wantsStandIn t = false by simpa using List.all_eq_true.1 hall t (by simpa using Array.mem_of_getElem? ht))

/-- The card: the row, and what its listed variables hold tied to the program's text. -/
theorem proved : Rows.FnOrderPartsJoinCardSaid :=
  Claim7.holds_tied_plain_at .later [] _ _ _ _ said (fun _ h => by cases h) (by kernel_rfl) (fun _ h => by cases h) fnOrderPartsJoin_row_tie rfl ⟨rfl, rfl⟩ (by kernel_rfl) rfl plain (by kernel_rfl)
#print axioms proved
end Go.Proofs.YtcemgdekcfdfhabDoor.fnOrderPartsJoin
