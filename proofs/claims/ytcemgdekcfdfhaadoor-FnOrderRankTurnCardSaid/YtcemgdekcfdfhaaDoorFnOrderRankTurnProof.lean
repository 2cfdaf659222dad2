/- For every input, the law FnOrderRankTurn of the given statements returns true over the program at this commit, and its arguments read afterwards as before: its conditions: the package-level variables that the row lists hold what the program's own text lays into them, which the card ties. -/
import Derived.Test.YtcemgdekcfdfhaaDoorRows
import Derived.Test.YtcemgdekcfdfhaaDoorCards
import Derived.Test.YtcemgdekcfdfhaaDoorTie
import Derived.Test.YtcemgdekcfdfhaaDoorLawVT
import Derived.Deep.DeepWitnessRowRef
import Derived.LaidMore
import Derived.MakeChecks
import Derived.SevenTiedAt
import Derived.WalkKit
import Derived.ProofKit
import Derived.OpenShut
import Derived.ShutString
import Derived.ChangeOld
import Derived.Below
namespace Go.Proofs.YtcemgdekcfdfhaaDoor.fnOrderRankTurn
open Go.ChangeShapes Go.WideShapes Go.ChangeAt Go.RowKit
open Go.ChangeMaps (open_string shut_string)
set_option linter.unusedVariables false

theorem own : ownKnob Tryd.prog.godebug = none := by kernel_rfl
theorem laidOut : laidOutB Tryd.prog = true := by kernel_rfl

/-- WHAT THE WALK IS TOLD OF A SLICE OF INTEGERS THAT CAME IN: it is nil; or it leads to a row of 'cap' cells, the numbers 'zs' (the first 'len' are its elements, the rest its spare room), each fitting its kind. -/
def IsRow (k : IntKind) (w : World) (a : Option Addr) (len cap : Nat) (zs : List Int) : Prop :=
  (a = none ∧ len = 0 ∧ cap = 0 ∧ zs = []) ∨
  ∃ x, a = some x ∧ len ≤ cap ∧ cap ≤ maxLen ∧ zs.length = cap ∧ (∀ i, i < zs.length → w.cell? (x.add i) = some (.int k (zs.getD i 0))) ∧ ∀ n ∈ zs, (Lit.int k n).wf = true

set_option maxRecDepth 100000 in
set_option maxHeartbeats 3200000 in
theorem walk (a0 : Option Addr) (len0 cap0 : Nat) (z0 : List Int) (w : World) (w0 : IsRow .u8 w a0 len0 cap0 z0) (hL : laidMet Tryd.prog Rows.fnOrderRankTurnRow.laid w) (hSh : w.ShapedOpen Tryd.prog) :
    Calls Tryd.prog 5 #[.slice a0 len0 cap0] w fun e w' => e = .returned (.bool true) ∧ Below w.heap.size w w' := by
  have hB := bytes_of w0
  have M0 := Lib.hid (ml_of hSh)
  clear hL hSh
  by_cases hl : 1048576 < len0
  · have hdec : decide (1048576 < len0) = true := by simpa using hl
    go_enter Tryd.func5, Tryd.ntmps5
    go_wp2_with fail
    go_ret
    exact ⟨rfl, Below.refl _ _⟩
  have hdec : decide (1048576 < len0) = false := by simpa using hl
  have hm : len0 ≤ 1048576 := by omega
  go_enter Tryd.func5, Tryd.ntmps5
  go_wp2_with fail
  refine (DrawOrderRank_any hB).mono ?_
  rintro e wv1 ⟨t, rfl, t64, b1⟩
  clear w0 hB
  have BB := Lib.hid b1
  clear b1
  have M := Lib.hid (M0.out.grow BB.out)
  have so : (str t).size = t.length := str_size t
  have t9 : t.length ≤ 1048600 := by omega
  clear M0
  obtain ⟨z, hz⟩ : ∃ z, rankOf t = z := ⟨_, rfl⟩
  have HZ := Lib.hid hz
  by_cases neg : z < 0
  · clear hz
    go_wp2_with fail
    refine (rkI_is t9 M.out HZ.out).mono ?_
    rintro e wv2 ⟨rfl, b9⟩
    replace M := Lib.hid (M.out.grow b9)
    replace BB := Lib.hid (BB.out.trans (b9.mono BB.out.size))
    clear b9
    go_wp2_with fail
    refine (rkS_is t9 HZ.out).mono ?_
    rintro e wv3 ⟨rfl, b9⟩
    replace M := Lib.hid (M.out.grow b9)
    replace BB := Lib.hid (BB.out.trans (b9.mono BB.out.size))
    clear b9
    go_wp2_with fail
    go_ret
    exact ⟨by first | rfl | (simp; done) | (simp; omega), BB.out⟩
  obtain ⟨a, b, c, r2, hp, hc, hr2, hsum, h20, c9⟩ := rank_turn hz (by omega)
  have HP := Lib.hid hp; have HC := Lib.hid hc; have HR := Lib.hid hr2
  have g0 : decide (z < 0) = false := decide_eq_false neg
  have w1 : IntKind.i64.wrap (r2 + z) = c - 1 := by rw [hsum]; exact IntWalk.i64_in _ (by omega)
  have w2 : IntKind.i64.wrap (c - 1) = c - 1 := IntWalk.i64_in _ (by omega)
  clear hz hp hc hr2 neg hsum h20 c9
  go_wp2_with fail
  refine (rkI_is t9 M.out HZ.out).mono ?_
  rintro e wv2 ⟨rfl, b9⟩
  replace M := Lib.hid (M.out.grow b9)
  replace BB := Lib.hid (BB.out.trans (b9.mono BB.out.size))
  clear b9
  go_wp2_with fail
  refine (rkS_is t9 HZ.out).mono ?_
  rintro e wv3 ⟨rfl, b9⟩
  replace M := Lib.hid (M.out.grow b9)
  replace BB := Lib.hid (BB.out.trans (b9.mono BB.out.size))
  clear b9
  go_wp2_with fail
  go_loopg [6, 7] t.length (fun g x y wr => ∃ p : Nat, y = .int .i64 p ∧ p + g = t.length ∧ x = .string (str (turnB (t.take p))) ∧ wv3 = wr)
  case atStart => exact ⟨0, rfl, by omega, rfl, rfl⟩
  case round =>
    obtain ⟨p, rfl, hk, rfl, rfl⟩ := hrel
    obtain ⟨gj, rfl⟩ : ∃ g, g = gk := ⟨_, rfl⟩
    have K := Lib.hid hk
    have hpl : p ≤ t.length := by omega
    clear hk
    by_cases hlt : p < t.length
    · have tn := turnB_next hlt
      have p0 : (0 : Int) ≤ (p : Int) := by omega
      have p1 : (p : Int) < (t.length : Int) := by omega
      have p9 : IntKind.i64.wrap ((p : Int) + 1) = (p : Int) + 1 := IntWalk.i64_in _ (by omega)
      obtain ⟨c', hc'⟩ : ∃ c', t[p] = c' := ⟨_, rfl⟩
      have i97 : ((((str t)[p]'(by rw [str_size]; exact hlt)).toNat : Int) == 97) = decide (c' = 97) := str_is2 t p hlt hc' 97
      have i98 : ((((str t)[p]'(by rw [str_size]; exact hlt)).toNat : Int) == 98) = decide (c' = 98) := str_is2 t p hlt hc' 98
      rw [hc'] at tn
      have ol := turnB_length (t.take p)
      obtain ⟨o, ho⟩ : ∃ o, turnB (t.take p) = o := ⟨_, rfl⟩
      rw [ho] at tn ol ⊢
      have o64 : o.length ≤ 64 := by rw [ol, List.length_take]; omega
      clear hc' ho ol
      have ad97 : ∀ w, (Op.stringOp .add (str o) ⟨#[97]⟩).run Tryd.prog w = .ok (.string (str (o ++ [97]))) w := fun w => add_str o [97] w (by simp; omega)
      have ad98 : ∀ w, (Op.stringOp .add (str o) ⟨#[98]⟩).run Tryd.prog w = .ok (.string (str (o ++ [98]))) w := fun w => add_str o [98] w (by simp; omega)
      have ad124 : ∀ w, (Op.stringOp .add (str o) ⟨#[124]⟩).run Tryd.prog w = .ok (.string (str (o ++ [124]))) w := fun w => add_str o [124] w (by simp; omega)
      by_cases ca : c' = 97
      · have nb : ¬ c' = 98 := by rw [ca]; decide
        unfold turnC at tn
        rw [if_pos ca] at tn
        rw [decide_eq_true ca] at i97
        rw [decide_eq_false nb] at i98
        have TN := Lib.hid (show turnB (t.take (p + 1)) = o ++ [98] from tn)
        clear tn
        go_wp2_with fail
        go_roundg (gj - 1)
        case measure => have := K.out; omega
        case rel => exact ⟨p + 1, by go_num, by have := K.out; omega, by rw [TN.out], rfl⟩
      unfold turnC at tn
      rw [if_neg ca] at tn
      rw [decide_eq_false ca] at i97
      by_cases cb : c' = 98
      · rw [if_pos cb] at tn
        rw [decide_eq_true cb] at i98
        have TN := Lib.hid (show turnB (t.take (p + 1)) = o ++ [97] from tn)
        clear tn
        go_wp2_with fail
        go_roundg (gj - 1)
        case measure => have := K.out; omega
        case rel => exact ⟨p + 1, by go_num, by have := K.out; omega, by rw [TN.out], rfl⟩
      rw [if_neg cb] at tn
      rw [decide_eq_false cb] at i98
      have TN := Lib.hid (show turnB (t.take (p + 1)) = o ++ [124] from tn)
      clear tn
      go_wp2_with fail
      go_roundg (gj - 1)
      case measure => have := K.out; omega
      case rel => exact ⟨p + 1, by go_num, by have := K.out; omega, by rw [TN.out], rfl⟩
    have TE : Hid (t.take p = t) := Lib.hid (List.take_of_length_le (by omega))
    rw [TE.out]
    have i1 : decide (p < t.length) = false := decide_eq_false hlt
    have t10 : (turnB t).length ≤ 1048600 := by rw [turnB_length]; exact t9
    obtain ⟨y, hy⟩ : ∃ y, turnB t = y := ⟨_, rfl⟩
    rw [hy] at HR t10 ⊢
    clear K TE hy hlt
    go_wp2_with fail
    refine (got_yes (partsImpl_any t t9 M.out) HP.out).mono ?_
    rintro e wv4 ⟨vA, vB, rfl, o1, o2, b9⟩
    replace M := Lib.hid (M.out.grow b9)
    replace BB := Lib.hid (BB.out.trans (b9.mono BB.out.size))
    clear b9
    have A := Lib.hid o1
    clear o1
    have B := Lib.hid o2
    clear o2
    go_wp2_with fail
    refine (rkI_is t10 M.out HR.out).mono ?_
    rintro e wv5 ⟨rfl, b9⟩
    replace M := Lib.hid (M.out.grow b9)
    replace A := Lib.hid (A.out.grow b9)
    replace B := Lib.hid (B.out.grow b9)
    replace BB := Lib.hid (BB.out.trans (b9.mono BB.out.size))
    clear b9
    go_wp2_with fail
    refine (cntI_is A.out B.out HC.out).mono ?_
    rintro e wv6 ⟨rfl, b9⟩
    replace M := Lib.hid (M.out.grow b9)
    replace A := Lib.hid (A.out.grow b9)
    replace B := Lib.hid (B.out.grow b9)
    replace BB := Lib.hid (BB.out.trans (b9.mono BB.out.size))
    clear b9
    go_wp2_with fail
    go_ret
    exact ⟨by first | rfl | (simp; done) | (simp; omega), BB.out⟩

/-- A start that fits: the heap that the program's own start-up code for the listed variables leaves. -/
noncomputable def laidWorld (os : Os) : World := (World.doorLaid Tryd.prog 600 os).setRow 1 ((Go.Pinned.utf8FirstZ.map fun (n : Nat) => Value.int .u8 (n : Int)).toArray)
theorem laid_met (os : Os) (args : Array Value) : laidMetH Tryd.prog Rows.fnOrderRankTurnRow.laid ((laidWorld os).forCall (fun _ _ => 0) ⟨#[], args, []⟩).memory := by
  rw [MakeChecks.laidMetH_plain _ _ _ (by kernel_rfl)]
  exact laidMet_of_run' 8 (by kernel_rfl) (by kernel_rfl)
theorem reads (os : Os) {H : Type} (enc : TypeId × Value → H) : ∃ places, DataW.whole enc Tryd.prog ((laidWorld os).forCall (fun _ _ => 0) ⟨#[], #[.slice none 0 0], []⟩).memory Tryd.f5.params.toList Rows.fnOrderRankTurnSpec.vars false #[(Value.slice none 0 0)].toList 8 = some ([.nil], [], places) :=
  ⟨[], by kernel_rfl⟩

set_option maxRecDepth 100000 in
theorem lifted (os : Os) (started : os.Started) (H : Type) (enc : TypeId × Value → H) (F : Stop.Interp) :
    ReturnsInHanded {} Tryd.checked os 5 .any ((OpenSpec.ofChange Rows.fnOrderRankTurnSpec).preRow enc Tryd.prog Tryd.f5 Rows.fnOrderRankTurnRow.domain false Rows.fnOrderRankTurnRow.laid) (((OpenSpec.ofChange Rows.fnOrderRankTurnSpec).at F).post enc Tryd.prog Tryd.f5 false true false false) := by
  obtain ⟨places, hx⟩ := reads os enc
  refine returnsInHanded_of_row (C := Tryd.checked) (s := OpenSpec.ofChange Rows.fnOrderRankTurnSpec) own started (by kernel_rfl) Tryd.func5
    (witness_row_atRef (enc := enc) (C := Tryd.checked) false (laidWorld os) #[.slice none 0 0] rfl (by kernel_rfl) (by kernel_rfl) (by kernel_rfl)
      (OpenSpec.preRow_of_cond 8 hx (by kernel_rfl) (fun k hk => by cases hk) (by kernel_rfl) (laid_met os _))) ?_
  intro W base args ds gs before hval0 hW hcnd _ hsz hLH hSh _
  have hL : laidMet Tryd.prog Rows.fnOrderRankTurnRow.laid W := by rw [← MakeChecks.laidMetH_plain _ _ _ (by kernel_rfl)]; exact hLH
  have hval : ∀ (j : Nat) t v, Tryd.f5.params[j]? = some t → args[j]? = some v → Value.okWide Tryd.prog W .any base t v := hval0
  have hW' := hW
  obtain ⟨p, q, hA0, hV, rfl, hfz, hnd⟩ := hW
  have hA : DataW.TrodAll enc Tryd.prog W 0 (fun _ => true) true Tryd.f5.params.toList args.toList ds p := hA0
  rw [Tryd.params5] at hA hval
  obtain ⟨v0, vs0, d0, ds0, p0, q0, hargs, rfl, rfl, h0, r0⟩ := trodAll_cons hA
  obtain ⟨rfl, rfl, rfl⟩ := trodAll_nil r0
  obtain rfl : args = #[v0] := by cases args; simp_all
  obtain ⟨rfl, rfl⟩ := trodVars_none hV
  obtain ⟨a0, len0, cap0, rfl⟩ := okWide_slice Tryd.underlying22 (hval 0 22 v0 rfl rfl)
  have k0 := h0
  have lt0 : ∀ x ∈ p0, x.block < W.heap.size := by obtain ⟨m, hm⟩ := k0; exact DataW.trod_lt m _ _ _ hm
  obtain ⟨z0, w0⟩ : ∃ zs, IsRow .u8 W a0 len0 cap0 zs := by
    obtain ⟨fuel, hf⟩ := h0
    rcases open_ints Tryd.underlying22 Tryd.underlying5 (by kernel_rfl) hf with ⟨hcs, _⟩ | ⟨x, l, c, zs, hcs, _, hl, hm, hz, _, hcell, hwz⟩
    · simp [Value.cells] at hcs
      obtain ⟨rfl, rfl, rfl⟩ := hcs
      exact ⟨[], .inl ⟨rfl, rfl, rfl, rfl⟩⟩
    · simp [Value.cells] at hcs
      obtain ⟨rfl, rfl, rfl⟩ := hcs
      exact ⟨zs, .inr ⟨_, rfl, hl, hm, by simpa using hz, hcell, hwz⟩⟩
  clear hA0 hval0
  refine (walk a0 len0 cap0 z0 W w0 hL hSh).mono fun e W' ⟨he, bel⟩ => ?_
  subst he
  exact ⟨_, rfl, _, _, _, [], _, [], hW', trodAll_mk1 (shut_bool Tryd.underlying4 _), (trodAll_cons_mk (Below.trod laidOut (by kernel_rfl) (of_decide_eq_true (by kernel_rfl)) k0 bel lt0) trodAll_mk0), rfl, bel.frame _, fun h => by cases h⟩

theorem said : Rows.fnOrderRankTurnRow.holds Tryd.pinned (OpenSpec.ofChange Rows.fnOrderRankTurnSpec) :=
  OpenClaim.holds_of_cond 5 Tryd.f5 rfl rfl rfl rfl rfl rfl rfl ⟨rfl, rfl, rfl, rfl, rfl⟩ rfl rfl rfl rfl rfl (by kernel_rfl) Tryd.func5 (by kernel_rfl)
    (of_decide_eq_true (by kernel_rfl)) (by unfold Func.isWrapper; first | (rw [if_pos (by decide +kernel)]; kernel_rfl) | (rw [if_neg (by decide +kernel)]; exact ⟨rfl, rfl⟩))
    (fun os started H enc _ F => by rw [OpenClaim.pre_eq_preRow]; exact lifted os started H enc F)

/-- No parameter wants a stand-in; the program's own looks are as the card says. -/
theorem plain (f : FuncId) (fn : Func) (hf : Tryd.pinned.checked.prog.funcNamed "loop.example/icecores/laws.FnOrderRankTurn" = some f) (hfn : Tryd.pinned.checked.prog.funcs[f]? = some fn) :
    false = Tryd.pinned.checked.prog.looks [] ∧ ∀ (j : Nat) t, fn.params[j]? = some t → Tryd.pinned.checked.prog.wantsStandIn t = false := by
  obtain rfl : f = 5 := Option.some.inj ((show Tryd.prog.funcNamed "loop.example/icecores/laws.FnOrderRankTurn" = some 5 by kernel_rfl).symm.trans hf) |>.symm
  obtain rfl : fn = Tryd.f5 := (Option.some.inj (Tryd.func5.symm.trans hfn)).symm
  refine ⟨by kernel_rfl, fun j t ht => ?_⟩
  have hall : (Tryd.f5.params.toList.all fun u => !Tryd.prog.wantsStandIn u) = true := by kernel_rfl
  exact (show Tryd.prog.wantsStandIn t = false by simpa using List.all_eq_true.1 hall t (by simpa using Array.mem_of_getElem? ht))

/-- The card: the row, and what its listed variables hold tied to the program's text. -/
theorem proved : Rows.FnOrderRankTurnCardSaid :=
  Claim7.holds_tied_plain_at .later [] _ _ _ _ said (fun _ h => by cases h) (by kernel_rfl) (fun _ h => by cases h) fnOrderRankTurn_row_tie rfl ⟨rfl, rfl⟩ (by kernel_rfl) rfl plain (by kernel_rfl)
#print axioms proved
end Go.Proofs.YtcemgdekcfdfhaaDoor.fnOrderRankTurn
