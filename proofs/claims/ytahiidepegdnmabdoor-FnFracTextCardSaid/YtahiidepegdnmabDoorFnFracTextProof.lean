/- For every input, the law FnFracText of the given statements returns true over the program at this commit, and its arguments read afterwards as before: its conditions: the package-level variables that the row lists hold what the program's own text lays into them, which the card ties. -/
import Derived.Test.YtahiidepegdnmabDoorRows
import Derived.Test.YtahiidepegdnmabDoorCards
import Derived.Test.YtahiidepegdnmabDoorTie
import Derived.Test.YtahiidepegdnmabDoorFracTextMore
import Derived.Deep.DeepWitnessRowRef
import Derived.LaidMore
import Derived.MakeChecks
import Derived.SevenTiedAt
import Derived.WalkKit
import Derived.ProofKit
import Derived.OpenShut
import Derived.ShutString
import Derived.ChangeOld
import Derived.Below
namespace Go.Proofs.YtahiidepegdnmabDoor.fnFracText
open Go.ChangeShapes Go.WideShapes Go.ChangeAt Go.RowKit
open Go.ChangeMaps (open_string shut_string)
set_option linter.unusedVariables false

theorem own : ownKnob Tryd.prog.godebug = none := by kernel_rfl
theorem laidOut : laidOutB Tryd.prog = true := by kernel_rfl

/-- WHAT THE WALK IS TOLD OF A SLICE OF INTEGERS THAT CAME IN: it is nil; or it leads to a row of 'cap' cells, the numbers 'zs' (the first 'len' are its elements, the rest its spare room), each fitting its kind. -/
def IsRow (k : IntKind) (w : World) (a : Option Addr) (len cap : Nat) (zs : List Int) : Prop :=
  (a = none ∧ len = 0 ∧ cap = 0 ∧ zs = []) ∨
  ∃ x, a = some x ∧ len ≤ cap ∧ cap ≤ maxLen ∧ zs.length = cap ∧ (∀ i, i < zs.length → w.cell? (x.add i) = some (.int k (zs.getD i 0))) ∧ ∀ n ∈ zs, (Lit.int k n).wf = true

set_option maxHeartbeats 4000000 in
theorem walk (a0 : Option Addr) (len0 cap0 : Nat) (z0 : List Int) (w : World) (w0 : IsRow .u8 w a0 len0 cap0 z0) (hL : laidMet Tryd.prog Rows.fnFracTextRow.laid w) (hSh : w.ShapedOpen Tryd.prog) :
    Calls Tryd.prog 3 #[.slice a0 len0 cap0] w fun e w' => e = .returned (.bool true) ∧ Below w.heap.size w w' := by
  have hB := bytes_of w0
  have ht := tab_of hL
  clear hL hSh
  by_cases hl : 1048576 < len0
  · go_enter Tryd.func3, Tryd.ntmps3
    go_wp2_with fail
    go_ret
    exact ⟨rfl, Below.refl _ _⟩
  · have hm : len0 ≤ 1048576 := by omega
    go_enter Tryd.func3, Tryd.ntmps3
    go_wp2_with fail
    refine (DrawFracText_any hB).mono ?_
    rintro e w1 ⟨a, b, rfl, ha, b1⟩
    clear w0 hB
    have S := (St.start b1).alloc a b
    have htw := Lib.hid ht
    clear ht
    go_wp2_with fail
    refine (implFracText_any _ _ _ (htw.out.next S.below)).mono ?_
    rintro e w2 ⟨rfl, b2⟩
    replace S := S.next b2
    have r2 := S.holds
    (simp only [Holds, and_true] at r2; try simp only [World.size_alloc] at r2)
    go_wp2_with fail
    refine (specFracText_any _ _ _).mono ?_
    rintro e w3 ⟨rfl, b3⟩
    replace S := S.next b3
    have r3 := S.holds
    (simp only [Holds, and_true] at r3; try simp only [World.size_alloc] at r3)
    clear r2 b2 b3
    cases hv : fv a b
    · have f1 := fracText_no hv
      go_wp2_with fail
      go_ret
      exact ⟨rfl, S.below⟩
    · have p := fv_part hv
      obtain ⟨p1, p2, p3, p4⟩ := p
      have z := fracText_size hv
      have hs := Lib.hid (slash_at hv)
      obtain ⟨s, hx⟩ : ∃ s, s = fracText a b := ⟨_, rfl⟩
      have n1 : 0 < a → fracText (-a) b = ⟨#[45]⟩ ++ s := fun k => by rw [hx]; exact fracText_neg hv k
      have n2 : a < 0 → s = ⟨#[45]⟩ ++ fracText (-a) b := fun k => by
        have := fracText_neg (fv_neg' hv).1 (by omega : 0 < -a)
        rw [Int.neg_neg] at this
        rw [hx]; exact this
      have n3 : a = 0 → s = ⟨#[48]⟩ ∧ fracText (-a) b = ⟨#[48]⟩ := fun k => by
        subst k
        have e := zero_whole hv
        subst e
        exact ⟨by rw [hx]; exact fracText_zero, fracText_zero⟩
      have z2 := fracText_size (fv_neg' hv).1
      rw [← hx] at z hs ⊢
      clear hx hv ha
      have f1 := some_text z.1
      obtain ⟨z1, z3⟩ := z
      obtain ⟨x, hx⟩ : ∃ x, x = fracText (-a) b := ⟨_, rfl⟩
      have hx' := Lib.hid hx
      rw [← hx] at n1 n2 n3 z2
      clear hx
      have m1 := Lib.hid n1
      have m2 := Lib.hid n2
      have m3 := Lib.hid n3
      clear n1 n2 n3
      obtain ⟨z4, z5⟩ := z2
      go_wp2
      go_loop [6, 7] (fun u i => ∃ k : Nat, k ≤ s.size ∧ i = .int .i64 k ∧ u = .bool (slashIn (s.data.toList.take k))) (fun _ i => s.size - (intOf i).toNat)
      case atStart => exact ⟨0, Nat.zero_le _, rfl, rfl⟩
      case round =>
        obtain ⟨k, hk, rfl, rfl⟩ := hrel
        by_cases hlt : k < s.size
        · have h1 := Lib.hid (slash_snoc s k hlt)
          cases h2 : slashIn (s.data.toList.take k)
          · go_wp2
            go_round
            case rel => exact ⟨k + 1, by omega, by go_num, by rw [h1.out, h2]; first | rfl | simp⟩
            case measure => simp [intOf]; omega
          · go_wp2
            go_round
            case rel => exact ⟨k + 1, by omega, by go_num, by rw [h1.out, h2]; first | rfl | simp⟩
            case measure => simp [intOf]; omega
        · have e : s.data.toList.take k = s.data.toList := List.take_of_length_le (by simpa using (show s.size ≤ k by omega))
          rw [e, hs.out]
          clear e hs
          go_wp2_with fail
          refine (implFracText_any _ _ _ (htw.out.next S.below)).mono ?_
          rw [← hx'.out]
          rintro e w4 ⟨rfl, b4⟩
          replace S := S.next b4
          have r4 := S.holds
          (simp only [Holds, and_true] at r4; try simp only [World.size_alloc] at r4)
          clear r3 b4 hx'
          have a1 := fun w => add_hyphen (s := s) (by omega) w
          have a2 := fun w => add_hyphen (s := x) (by omega) w
          rcases Int.lt_trichotomy a 0 with k0 | k0 | k0
          · have g1 : (x.toList == (⟨#[45]⟩ ++ s).toList) = false := other_size (by rw [m2.out k0, ByteArray.size_append, ByteArray.size_append]; show _ ≠ 1 + (1 + _); omega)
            have g2 : ((⟨#[45]⟩ ++ x).toList == s.toList) = true := same_text (m2.out k0).symm
            have g3 : (a == 0) = false := by simp; omega
            clear k0
            go_wp2_with fail
            go_ret
            exact ⟨one_of (by simp), S.below⟩
          · obtain ⟨e1, e2⟩ := m3.out k0
            subst k0
            subst e1
            subst e2
            clear m1 m2 m3
            go_wp2_with fail
            go_ret
            exact ⟨one_of (by simp), S.below⟩
          · have g1 : (x.toList == (⟨#[45]⟩ ++ s).toList) = true := same_text (m1.out k0)
            have g3 : (a == 0) = false := by simp; omega
            clear k0
            go_wp2_with fail
            go_ret
            exact ⟨one_of (by simp), S.below⟩

/-- A start that fits: the heap that the program's own start-up code for the listed variables leaves. -/
noncomputable def laidWorld (os : Os) : World := World.doorLaid Tryd.prog 600 os
theorem laid_met (os : Os) (args : Array Value) : laidMetH Tryd.prog Rows.fnFracTextRow.laid ((laidWorld os).forCall (fun _ _ => 0) ⟨#[], args, []⟩).memory := by
  rw [MakeChecks.laidMetH_plain _ _ _ (by kernel_rfl)]
  exact laidMet_of_run' 8 (by kernel_rfl) (by kernel_rfl)
theorem reads (os : Os) {H : Type} (enc : TypeId × Value → H) : ∃ places, DataW.whole enc Tryd.prog ((laidWorld os).forCall (fun _ _ => 0) ⟨#[], #[.slice none 0 0], []⟩).memory Tryd.f3.params.toList Rows.fnFracTextSpec.vars false #[(Value.slice none 0 0)].toList 8 = some ([.nil], [], places) :=
  ⟨[], by kernel_rfl⟩

set_option maxRecDepth 100000 in
theorem lifted (os : Os) (started : os.Started) (H : Type) (enc : TypeId × Value → H) (F : Stop.Interp) :
    ReturnsInHanded {} Tryd.checked os 3 .any ((OpenSpec.ofChange Rows.fnFracTextSpec).preRow enc Tryd.prog Tryd.f3 Rows.fnFracTextRow.domain false Rows.fnFracTextRow.laid) (((OpenSpec.ofChange Rows.fnFracTextSpec).at F).post enc Tryd.prog Tryd.f3 false true false false) := by
  obtain ⟨places, hx⟩ := reads os enc
  refine returnsInHanded_of_row (C := Tryd.checked) (s := OpenSpec.ofChange Rows.fnFracTextSpec) own started (by kernel_rfl) Tryd.func3
    (witness_row_atRef (enc := enc) (C := Tryd.checked) false (laidWorld os) #[.slice none 0 0] rfl (by kernel_rfl) (by kernel_rfl) (by kernel_rfl)
      (OpenSpec.preRow_of_cond 8 hx (by kernel_rfl) (fun k hk => by cases hk) (by kernel_rfl) (laid_met os _))) ?_
  intro W base args ds gs before hval0 hW hcnd _ hsz hLH hSh _
  have hL : laidMet Tryd.prog Rows.fnFracTextRow.laid W := by rw [← MakeChecks.laidMetH_plain _ _ _ (by kernel_rfl)]; exact hLH
  have hval : ∀ (j : Nat) t v, Tryd.f3.params[j]? = some t → args[j]? = some v → Value.okWide Tryd.prog W .any base t v := hval0
  have hW' := hW
  obtain ⟨p, q, hA0, hV, rfl, hfz, hnd⟩ := hW
  have hA : DataW.TrodAll enc Tryd.prog W 0 (fun _ => true) true Tryd.f3.params.toList args.toList ds p := hA0
  rw [Tryd.params3] at hA hval
  obtain ⟨v0, vs0, d0, ds0, p0, q0, hargs, rfl, rfl, h0, r0⟩ := trodAll_cons hA
  obtain ⟨rfl, rfl, rfl⟩ := trodAll_nil r0
  obtain rfl : args = #[v0] := by cases args; simp_all
  obtain ⟨rfl, rfl⟩ := trodVars_none hV
  obtain ⟨a0, len0, cap0, rfl⟩ := okWide_slice Tryd.underlying22 (hval 0 22 v0 rfl rfl)
  have k0 := h0
  have lt0 : ∀ x ∈ p0, x.block < W.heap.size := by obtain ⟨m, hm⟩ := k0; exact DataW.trod_lt m _ _ _ hm
  obtain ⟨z0, w0⟩ : ∃ zs, IsRow .u8 W a0 len0 cap0 zs := by
    obtain ⟨fuel, hf⟩ := h0
    rcases open_ints Tryd.underlying22 Tryd.underlying5 (by kernel_rfl) hf with ⟨hcs, _⟩ | ⟨x, l, c, zs, hcs, _, hl, hm, hz, _, hcell, hwz⟩
    · simp [Value.cells] at hcs
      obtain ⟨rfl, rfl, rfl⟩ := hcs
      exact ⟨[], .inl ⟨rfl, rfl, rfl, rfl⟩⟩
    · simp [Value.cells] at hcs
      obtain ⟨rfl, rfl, rfl⟩ := hcs
      exact ⟨zs, .inr ⟨_, rfl, hl, hm, by simpa using hz, hcell, hwz⟩⟩
  clear hA0 hval0
  refine (walk a0 len0 cap0 z0 W w0 hL hSh).mono fun e W' ⟨he, bel⟩ => ?_
  subst he
  exact ⟨_, rfl, _, _, _, [], _, [], hW', trodAll_mk1 (shut_bool Tryd.underlying4 _), (trodAll_cons_mk (Below.trod laidOut (by kernel_rfl) (of_decide_eq_true (by kernel_rfl)) k0 bel lt0) trodAll_mk0), rfl, bel.frame _, fun h => by cases h⟩

theorem said : Rows.fnFracTextRow.holds Tryd.pinned (OpenSpec.ofChange Rows.fnFracTextSpec) :=
  OpenClaim.holds_of_cond 3 Tryd.f3 rfl rfl rfl rfl rfl rfl rfl ⟨rfl, rfl, rfl, rfl, rfl⟩ rfl rfl rfl rfl rfl (by kernel_rfl) Tryd.func3 (by kernel_rfl)
    (of_decide_eq_true (by kernel_rfl)) (by unfold Func.isWrapper; first | (rw [if_pos (by decide +kernel)]; kernel_rfl) | (rw [if_neg (by decide +kernel)]; exact ⟨rfl, rfl⟩))
    (fun os started H enc _ F => by rw [OpenClaim.pre_eq_preRow]; exact lifted os started H enc F)

/-- No parameter wants a stand-in; the program's own looks are as the card says. -/
theorem plain (f : FuncId) (fn : Func) (hf : Tryd.pinned.checked.prog.funcNamed "loop.example/icecores/laws.FnFracText" = some f) (hfn : Tryd.pinned.checked.prog.funcs[f]? = some fn) :
    true = Tryd.pinned.checked.prog.looks [] ∧ ∀ (j : Nat) t, fn.params[j]? = some t → Tryd.pinned.checked.prog.wantsStandIn t = false := by
  obtain rfl : f = 3 := Option.some.inj ((show Tryd.prog.funcNamed "loop.example/icecores/laws.FnFracText" = some 3 by kernel_rfl).symm.trans hf) |>.symm
  obtain rfl : fn = Tryd.f3 := (Option.some.inj (Tryd.func3.symm.trans hfn)).symm
  refine ⟨by kernel_rfl, fun j t ht => ?_⟩
  have hall : (Tryd.f3.params.toList.all fun u => !Tryd.prog.wantsStandIn u) = true := by kernel_rfl
  exact (show Tryd.prog.wantsStandIn t = false by simpa using List.all_eq_true.1 hall t (by simpa using Array.mem_of_getElem? ht))

/-- The card: the row, and what its listed variables hold tied to the program's text. -/
theorem proved : Rows.FnFracTextCardSaid :=
  Claim7.holds_tied_plain_at .later [] _ _ _ _ said (fun _ h => by cases h) (by kernel_rfl) (fun _ h => by cases h) fnFracText_row_tie rfl ⟨rfl, rfl⟩ (by kernel_rfl) rfl plain (by kernel_rfl)
#print axioms proved
end Go.Proofs.YtahiidepegdnmabDoor.fnFracText
