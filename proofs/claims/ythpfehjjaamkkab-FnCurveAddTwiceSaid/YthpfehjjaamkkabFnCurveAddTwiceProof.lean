/- For every input, the law FnCurveAddTwice of the given statements returns true over the program at this commit, and its arguments read afterwards as before: no condition. -/
import Derived.Test.YthpfehjjaamkkabRows
import Derived.Test.YthpfehjjaamkkabLawK
import Derived.Test.YthpfehjjaamkkabCurveAdd
import Derived.Test.YthpfehjjaamkkabSpecAdd
import Derived.WalkKit
import Derived.ProofKit
import Derived.OpenShut
import Derived.ShutString
import Derived.ChangeOld
import Derived.Below
namespace Go.Proofs.Ythpfehjjaamkkab.fnCurveAddTwice
open Go.ChangeShapes Go.WideShapes Go.ChangeAt Go.RowKit
open Go.ChangeMaps (open_string shut_string)
set_option linter.unusedVariables false

theorem own : ownKnob Try.prog.godebug = none := by kernel_rfl
theorem laidOut : laidOutB Try.prog = true := by kernel_rfl

/-- WHAT THE WALK IS TOLD OF A SLICE OF INTEGERS THAT CAME IN: it is nil; or it leads to a row of 'cap' cells, the numbers 'zs' (the first 'len' are its elements, the rest its spare room), each fitting its kind. -/
def IsRow (k : IntKind) (w : World) (a : Option Addr) (len cap : Nat) (zs : List Int) : Prop :=
  (a = none ∧ len = 0 ∧ cap = 0 ∧ zs = []) ∨
  ∃ x, a = some x ∧ len ≤ cap ∧ cap ≤ maxLen ∧ zs.length = cap ∧ (∀ i, i < zs.length → w.cell? (x.add i) = some (.int k (zs.getD i 0))) ∧ ∀ n ∈ zs, (Lit.int k n).wf = true

set_option maxRecDepth 100000 in
set_option maxHeartbeats 3200000 in
theorem walk (a0 : Option Addr) (len0 cap0 : Nat) (z0 : List Int) (w : World) (w0 : IsRow .u8 w a0 len0 cap0 z0) :
    Calls Try.prog 4 #[.slice a0 len0 cap0] w fun e w' => e = .returned (.bool true) ∧ Below w.heap.size w w' := by
  have hB := bytes_of w0
  by_cases hl : 1048576 < len0
  · have hdec : decide (1048576 < len0) = true := by simpa using hl
    go_enter Try.func4, Try.ntmps4
    go_wp2_with fail
    go_ret
    exact ⟨rfl, Below.refl _ _⟩
  have hdec : decide (1048576 < len0) = false := by simpa using hl
  have hm : len0 ≤ 1048576 := by omega
  go_enter Try.func4, Try.ntmps4
  go_wp2_with fail
  refine (DrawCurveAdd_any hB).mono ?_
  rintro e wv1 ⟨v, l, kx, ky, rfl, hr, hbd, hl, hkx, hky, b1⟩
  clear w0 hB
  have S := St.start b1
  clear b1
  have R := Lib.hid hr
  clear hr
  have BD := Lib.hid hbd
  clear hbd
  replace R := Lib.hid (R.out.alloc kx ky 25)
  replace S := S.alloc' kx ky 25
  have r := S.holds
  simp only [Holds, and_true] at r
  try simp only [World.size_alloc] at r
  cases hc : addOf (kx, ky) l with
  | none =>
    have HC := Lib.hid hc
    clear hc
    go_wp2_with fail
    refine (lstb_no (implCurveAdd_any (kx, ky) R.out) HC.out).mono ?_
    rintro e wv2 ⟨v1, rfl, r1, b2⟩
    replace R := Lib.hid ((R.out.grow b2))
    replace S := (S.next b2)
    have R1 := Lib.hid r1
    clear r1
    clear b2
    clear r
    have r := S.holds
    simp only [Holds, and_true] at r
    try simp only [World.size_alloc] at r
    go_wp2_with fail
    refine (lstb_no (specCurveAdd_any (kx, ky) R.out) HC.out).mono ?_
    rintro e wv3 ⟨v2, rfl, r2, b3⟩
    replace R := Lib.hid ((R.out.grow b3))
    replace R1 := Lib.hid ((R1.out.grow b3))
    replace S := (S.next b3)
    have R2 := Lib.hid r2
    clear r2
    clear b3
    clear r
    have r := S.holds
    simp only [Holds, and_true] at r
    try simp only [World.size_alloc] at r
    go_wp2_with fail
    refine (same_yes R1.out R2.out rfl).mono ?_
    rintro e wv4 ⟨rfl, b4⟩
    replace R := Lib.hid ((R.out.grow b4))
    replace R1 := Lib.hid ((R1.out.grow b4))
    replace R2 := Lib.hid ((R2.out.grow b4))
    replace S := (S.next b4)
    clear b4
    clear r
    have r := S.holds
    simp only [Holds, and_true] at r
    try simp only [World.size_alloc] at r
    go_wp2_with fail
    refine (same_yes R1.out R2.out rfl).mono ?_
    rintro e wv5 ⟨rfl, b5⟩
    replace R := Lib.hid ((R.out.grow b5))
    replace R1 := Lib.hid ((R1.out.grow b5))
    replace R2 := Lib.hid ((R2.out.grow b5))
    replace S := (S.next b5)
    clear b5
    clear r
    have r := S.holds
    simp only [Holds, and_true] at r
    try simp only [World.size_alloc] at r
    go_wp2_with fail
    go_ret
    exact ⟨rfl, S.below⟩
  | some lm =>
    have HC := Lib.hid hc
    clear hc
    go_wp2_with fail
    refine (lstb_yes (implCurveAdd_any (kx, ky) R.out) HC.out).mono ?_
    rintro e wv2 ⟨v1, rfl, r1, b2⟩
    replace R := Lib.hid ((R.out.grow b2))
    replace S := (S.next b2)
    have R1 := Lib.hid r1
    clear r1
    clear b2
    clear r
    have r := S.holds
    simp only [Holds, and_true] at r
    try simp only [World.size_alloc] at r
    go_wp2_with fail
    refine (lstb_yes (specCurveAdd_any (kx, ky) R.out) HC.out).mono ?_
    rintro e wv3 ⟨v2, rfl, r2, b3⟩
    replace R := Lib.hid ((R.out.grow b3))
    replace R1 := Lib.hid ((R1.out.grow b3))
    replace S := (S.next b3)
    have R2 := Lib.hid r2
    clear r2
    clear b3
    clear r
    have r := S.holds
    simp only [Holds, and_true] at r
    try simp only [World.size_alloc] at r
    go_wp2_with fail
    refine (same_yes R1.out R2.out rfl).mono ?_
    rintro e wv4 ⟨rfl, b4⟩
    replace R := Lib.hid ((R.out.grow b4))
    replace R1 := Lib.hid ((R1.out.grow b4))
    replace R2 := Lib.hid ((R2.out.grow b4))
    replace S := (S.next b4)
    clear b4
    clear r
    have r := S.holds
    simp only [Holds, and_true] at r
    try simp only [World.size_alloc] at r
    obtain ⟨CL, cm, hlm⟩ := addOf_some HC.out
    have NK : Hid (((kx, ky) : Pc) ∉ l) := Lib.hid (by rw [hlm] at cm; exact ins_not cm)
    have HAG : Hid (addOf (kx, ky) lm = none) := Lib.hid (by rw [hlm]; exact ins_again)
    have RS : Hid (lm.filter (fun p => decide (p ≠ ((kx, ky) : Pc))) = l) := Lib.hid (by rw [hlm]; exact ins_rest NK.out)
    replace HC := Lib.hid CL
    have CM := Lib.hid cm
    clear CL cm hlm
    have hlm2 := isCurve_len CM.out
    obtain ⟨g, o, cp, rfl, hcap, hcapm⟩ := R1.out.known (by omega)
    unfold maxLen at hcapm
    obtain ⟨m, hm⟩ : ∃ m, lm.length = m + 1 := ⟨lm.length - 1, by omega⟩
    rw [hm] at hcap
    rw [hm] at R1
    rw [hm]
    have HM := Lib.hid hm
    have em : lm.length - 1 = m := by omega
    have hml : m < lm.length := by omega
    have h0l : 0 < lm.length := by omega
    have q0 : (0 : Int) < (m : Int) + 1 := by omega
    have q1 : 0 < m + 1 := by omega
    have q2 : IntKind.i64.wrap ((m : Int) + 1 - 1) = (m : Int) := by rw [show (m : Int) + 1 - 1 = m by omega]; exact IntWalk.i64_in _ (by omega)
    have q2' : IntKind.i64.wrap (m : Int) = (m : Int) := IntWalk.i64_in _ (by omega)
    have q3 : (0 : Int) ≤ (m : Int) := by omega
    have q4 : (m : Int) < (m : Int) + 1 := by omega
    have q5 : m < m + 1 := by omega
    go_wp2_with fail
    refine (lstb_no (implCurveAdd_any (kx, ky) R1.out) HAG.out).mono ?_
    rintro e wv5 ⟨v3, rfl, r3, b5⟩
    replace R := Lib.hid ((R.out.grow b5))
    replace R1 := Lib.hid ((R1.out.grow b5))
    replace R2 := Lib.hid ((R2.out.grow b5))
    replace S := (S.next b5)
    have R3 := Lib.hid r3
    clear r3
    clear b5
    clear r
    have r := S.holds
    simp only [Holds, and_true] at r
    try simp only [World.size_alloc] at r
    have hgW : g < wv5.heap.size := cell_below (R1.out.cells 0 h0l).1
    have O0 := Lib.hid (own_new 25 (w := wv5) (B := wv5.heap.size) (Nat.le_refl _))
    go_upto_region 9 with fail
    go_wp2_with fail
    go_loopg [11, 12] lm.length (fun rr vb z wr => ∃ j : Nat, z = .int .i64 j ∧ j + rr = lm.length ∧ Own 25 wr wv5.heap.size vb ((lm.take j).filter (fun p => decide (p ≠ ((kx, ky) : Pc)))) ∧ Below wv5.heap.size wv5 wr)
    case atStart => exact ⟨0, rfl, by omega, O0.out, by go_grown⟩
    case round =>
      obtain ⟨j, rfl, hk, ho, hb⟩ := hrel
      have K := Lib.hid hk; have OB := Lib.hid ho; have BB := Lib.hid hb
      have hjl : j ≤ lm.length := by omega
      clear hk ho
      have Q := St.start hb
      replace R := Lib.hid (R.out.grow hb)
      replace R1 := Lib.hid (R1.out.grow hb)
      replace R2 := Lib.hid (R2.out.grow hb)
      replace R3 := Lib.hid (R3.out.grow hb)
      replace S := S.next hb
      clear hb
      clear r
      have r := S.holds
      simp only [Holds, and_true] at r
      try simp only [World.size_alloc] at r
      have hsz := BB.out.size
      by_cases hlt : j < lm.length
      · clear Q S
        have a6 : (0 : Int) ≤ (j : Int) := by omega
        have a7 : (j : Int) < (m : Int) + 1 := by omega
        obtain ⟨c1, c2⟩ := R1.out.cells j hlt
        have fl := filt_len (l := lm) (k := ((kx, ky) : Pc)) j
        by_cases e1 : lm[j].1 = kx
        · have g1 : (lm[j].1 == kx) = true := by simpa using e1
          by_cases e2 : lm[j].2 = ky
          · have g2 : (lm[j].2 == ky) = true := by simpa using e2
            have EQ : Hid (lm[j] = ((kx, ky) : Pc)) := Lib.hid (Prod.ext e1 e2)
            clear e1 e2
            go_wp2_with fail
            go_quiet (fail)
            go_wp2_with fail
            go_roundg (gk - 1)
            case measure => have := K.out; omega
            case rel => exact ⟨j + 1, by go_num, by have := K.out; omega, by rw [← filt_no hlt EQ.out]; exact OB.out.grow (below_drews (Below.refl _ _) _), below_drews BB.out _⟩
          · have g2 : (lm[j].2 == ky) = false := by simpa using e2
            have NE : Hid (lm[j] ≠ ((kx, ky) : Pc)) := Lib.hid (fun e => e2 (by rw [e]))
            clear e1 e2
            go_wp2_with fail
            go_quiet (fail)
            have OQ := Lib.hid (OB.out.grow (below_drews (Below.refl _ _) nq))
            obtain ⟨n1, n2⟩ := new_two (wr.drewN nq) (.int .i64 lm[j].1) (.int .i64 lm[j].2) 25
            have N1 := Lib.hid n1; have N2 := Lib.hid n2
            have BW := Lib.hid ((Below.refl (wr.drewN nq).heap.size (wr.drewN nq)).alloc (Nat.le_refl _) (.cells #[.int .i64 lm[j].1, .int .i64 lm[j].2] 25))
            clear n1 n2
            go_wp2_with (at_builtin; refine append_pair knotT rfl _ _ rfl (B := wv5.heap.size) _ _ rfl (OQ.out.grow BW.out) ⟨wr.heap.size, 0, none⟩ lm[j] rfl N1.out N2.out (by omega) (by simp; omega) ?_; intro v8 w8 hown8 hg8)
            have O8 := Lib.hid hown8
            have B8 := Lib.hid (BB.out.trans (((below_drews (Below.refl _ _) nq).mono hsz).trans ((BW.out.mono (by simpa using hsz)).trans ((OQ.out.grow BW.out).below hg8 (by simp; omega)))))
            clear hown8 hg8
            go_wp2_with fail
            go_roundg (gk - 1)
            case measure => have := K.out; omega
            case rel => exact ⟨j + 1, by go_num, by have := K.out; omega, by have := O8.out; rwa [filt_yes hlt NE.out] at this, B8.out⟩
        · have g1 : (lm[j].1 == kx) = false := by simpa using e1
          have NE : Hid (lm[j] ≠ ((kx, ky) : Pc)) := Lib.hid (fun e => e1 (by rw [e]))
          clear e1
          go_wp2_with fail
          go_quiet (fail)
          have OQ := Lib.hid (OB.out.grow (below_drews (Below.refl _ _) nq))
          obtain ⟨n1, n2⟩ := new_two (wr.drewN nq) (.int .i64 lm[j].1) (.int .i64 lm[j].2) 25
          have N1 := Lib.hid n1; have N2 := Lib.hid n2
          have BW := Lib.hid ((Below.refl (wr.drewN nq).heap.size (wr.drewN nq)).alloc (Nat.le_refl _) (.cells #[.int .i64 lm[j].1, .int .i64 lm[j].2] 25))
          clear n1 n2
          go_wp2_with (at_builtin; refine append_pair knotT rfl _ _ rfl (B := wv5.heap.size) _ _ rfl (OQ.out.grow BW.out) ⟨wr.heap.size, 0, none⟩ lm[j] rfl N1.out N2.out (by omega) (by simp; omega) ?_; intro v8 w8 hown8 hg8)
          have O8 := Lib.hid hown8
          have B8 := Lib.hid (BB.out.trans (((below_drews (Below.refl _ _) nq).mono hsz).trans ((BW.out.mono (by simpa using hsz)).trans ((OQ.out.grow BW.out).below hg8 (by simp; omega)))))
          clear hown8 hg8
          go_wp2_with fail
          go_roundg (gk - 1)
          case measure => have := K.out; omega
          case rel => exact ⟨j + 1, by go_num, by have := K.out; omega, by have := O8.out; rwa [filt_yes hlt NE.out] at this, B8.out⟩
      · have hj : ¬ (j : Int) < (m : Int) + 1 := by omega
        obtain rfl : j = lm.length := by omega
        clear Q
        have RR : Hid (Row wr _ l) := Lib.hid (by have := OB.out.row; rwa [List.take_length, RS.out] at this)
        go_wp2_with fail
        refine (same_yes RR.out R.out rfl).mono ?_
        rintro e wv6 ⟨rfl, b6⟩
        replace R := Lib.hid ((R.out.grow b6))
        replace R1 := Lib.hid ((R1.out.grow b6))
        replace R2 := Lib.hid ((R2.out.grow b6))
        replace R3 := Lib.hid ((R3.out.grow b6))
        replace RR := Lib.hid ((RR.out.grow b6))
        replace S := (S.next b6)
        clear b6
        clear r
        have r := S.holds
        simp only [Holds, and_true] at r
        try simp only [World.size_alloc] at r
        go_wp2_with fail
        go_ret
        exact ⟨by first | rfl | (simp; done) | (simp; omega), S.below⟩

set_option maxRecDepth 100000 in
theorem lifted (os : Os) (started : os.Started) (H : Type) (enc : TypeId × Value → H) :
    ReturnsInHanded {} Try.checked os 4 .any (Rows.fnCurveAddTwiceSpec.pre6 enc Try.prog Try.f4 Rows.fnCurveAddTwiceRow.domain false) (Rows.fnCurveAddTwiceSpec.post enc Try.prog Try.f4 false true false false) := by
  refine returnsInHanded_of_change (C := Try.checked) own started (by kernel_rfl) Try.func4
    (ChangeSpec.witness6 (enc := enc) (C := Try.checked) false ⟨#[], #[.slice none 0 0], []⟩ 8 (by kernel_rfl) (by kernel_rfl) (by kernel_rfl) (by kernel_rfl)) ?_
  intro W base args ds gs before hval0 hW hcnd _
  have hval : ∀ (j : Nat) t v, Try.f4.params[j]? = some t → args[j]? = some v → Value.okWide Try.prog W .any base t v := hval0
  have hW' := hW
  obtain ⟨p, q, hA0, hV, rfl, hfz, hnd⟩ := hW
  have hA : DataW.TrodAll enc Try.prog W 0 (fun _ => true) true Try.f4.params.toList args.toList ds p := hA0
  rw [Try.params4] at hA hval
  obtain ⟨v0, vs0, d0, ds0, p0, q0, hargs, rfl, rfl, h0, r0⟩ := trodAll_cons hA
  obtain ⟨rfl, rfl, rfl⟩ := trodAll_nil r0
  obtain rfl : args = #[v0] := by cases args; simp_all
  obtain ⟨rfl, rfl⟩ := trodVars_none hV
  obtain ⟨a0, len0, cap0, rfl⟩ := okWide_slice Try.underlying22 (hval 0 22 v0 rfl rfl)
  have k0 := h0
  have lt0 : ∀ x ∈ p0, x.block < W.heap.size := by obtain ⟨m, hm⟩ := k0; exact DataW.trod_lt m _ _ _ hm
  obtain ⟨z0, w0⟩ : ∃ zs, IsRow .u8 W a0 len0 cap0 zs := by
    obtain ⟨fuel, hf⟩ := h0
    rcases open_ints Try.underlying22 Try.underlying5 (by kernel_rfl) hf with ⟨hcs, _⟩ | ⟨x, l, c, zs, hcs, _, hl, hm, hz, _, hcell, hwz⟩
    · simp [Value.cells] at hcs
      obtain ⟨rfl, rfl, rfl⟩ := hcs
      exact ⟨[], .inl ⟨rfl, rfl, rfl, rfl⟩⟩
    · simp [Value.cells] at hcs
      obtain ⟨rfl, rfl, rfl⟩ := hcs
      exact ⟨zs, .inr ⟨_, rfl, hl, hm, by simpa using hz, hcell, hwz⟩⟩
  clear hA0 hval0
  refine (walk a0 len0 cap0 z0 W w0).mono fun e W' ⟨he, bel⟩ => ?_
  subst he
  exact ⟨_, rfl, _, _, _, [], _, [], hW', trodAll_mk1 (shut_bool Try.underlying4 _), (trodAll_cons_mk (Below.trod laidOut (by kernel_rfl) (of_decide_eq_true (by kernel_rfl)) k0 bel lt0) trodAll_mk0), rfl, bel.frame _, fun h => by cases h⟩

theorem over : Rows.fnCurveAddTwiceRow.holds Try.pinned (OpenSpec.ofChange Rows.fnCurveAddTwiceSpec) :=
  OpenClaim.holds_of_wide 4 Try.f4 rfl rfl rfl rfl rfl rfl rfl ⟨rfl, rfl, rfl, rfl, rfl⟩ rfl rfl rfl rfl rfl (by kernel_rfl) Try.func4 (by kernel_rfl)
    (of_decide_eq_true (by kernel_rfl)) (by unfold Func.isWrapper; first | (rw [if_pos (by decide +kernel)]; kernel_rfl) | (rw [if_neg (by decide +kernel)]; exact ⟨rfl, rfl⟩))
    (fun os started H enc _ => lifted os started H enc)

/-- ████ THE STATEMENT ████ -/
theorem proved : Rows.FnCurveAddTwiceSaid := over
#print axioms proved
end Go.Proofs.Ythpfehjjaamkkab.fnCurveAddTwice
