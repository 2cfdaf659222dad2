/- For every input, the law FnThenBack of the given statements returns true over the program at this commit, and its arguments read afterwards as before: no condition. -/
import Derived.Test.YthpfehjjaamkkabRows
import Derived.Test.YthpfehjjaamkkabLawK
import Derived.WalkKit
import Derived.ProofKit
import Derived.OpenShut
import Derived.ShutString
import Derived.ChangeOld
import Derived.Below
namespace Go.Proofs.Ythpfehjjaamkkab.fnThenBack
open Go.ChangeShapes Go.WideShapes Go.ChangeAt Go.RowKit
open Go.ChangeMaps (open_string shut_string)
set_option linter.unusedVariables false

theorem own : ownKnob Try.prog.godebug = none := by kernel_rfl
theorem laidOut : laidOutB Try.prog = true := by kernel_rfl

/-- WHAT THE WALK IS TOLD OF A SLICE OF INTEGERS THAT CAME IN: it is nil; or it leads to a row of 'cap' cells, the numbers 'zs' (the first 'len' are its elements, the rest its spare room), each fitting its kind. -/
def IsRow (k : IntKind) (w : World) (a : Option Addr) (len cap : Nat) (zs : List Int) : Prop :=
  (a = none ∧ len = 0 ∧ cap = 0 ∧ zs = []) ∨
  ∃ x, a = some x ∧ len ≤ cap ∧ cap ≤ maxLen ∧ zs.length = cap ∧ (∀ i, i < zs.length → w.cell? (x.add i) = some (.int k (zs.getD i 0))) ∧ ∀ n ∈ zs, (Lit.int k n).wf = true

set_option maxRecDepth 100000 in
set_option maxHeartbeats 3200000 in
theorem walk (a0 : Option Addr) (len0 cap0 : Nat) (z0 : List Int) (w : World) (w0 : IsRow .u8 w a0 len0 cap0 z0) :
    Calls Try.prog 10 #[.slice a0 len0 cap0] w fun e w' => e = .returned (.bool true) ∧ Below w.heap.size w w' := by
  have hB := bytes_of w0
  by_cases hl : 1048576 < len0
  · have hdec : decide (1048576 < len0) = true := by simpa using hl
    go_enter Try.func10, Try.ntmps10
    go_wp2_with fail
    go_ret
    exact ⟨rfl, Below.refl _ _⟩
  have hdec : decide (1048576 < len0) = false := by simpa using hl
  have hm : len0 ≤ 1048576 := by omega
  go_enter Try.func10, Try.ntmps10
  go_wp2_with fail
  refine (DrawCurveThen_any hB).mono ?_
  rintro e u1 ⟨v, u, l, lb, x, rfl, hr, hrb, hbd, hbdb, hl, hlb, hx0, hx1, b1⟩
  clear w0 hB
  have S := St.start b1
  clear b1
  have R := Lib.hid hr
  clear hr
  have RB := Lib.hid hrb
  clear hrb
  have BDB := Lib.hid hbdb
  clear hbdb
  have BD := Lib.hid hbd
  clear hbd
  cases ht : (thenV l lb x && fits (thenR l lb x))
  · have HN := Lib.hid (Bool.and_eq_false_iff.1 ht)
    clear ht
    go_wp2_with fail
    refine (got_no (implCurveThen_any x R.out RB.out) HN.out).mono ?_
    rintro e u2 ⟨rfl, b2⟩
    replace R := Lib.hid ((R.out.grow b2).alloc 0 0 32)
    replace RB := Lib.hid ((RB.out.grow b2).alloc 0 0 32)
    replace S := (S.next b2).alloc 0 0
    clear b2
    have r := S.holds
    simp only [Holds, and_true] at r
    try simp only [World.size_alloc] at r
    go_wp2_with fail
    refine (got_no (specCurveThen_any x R.out RB.out) HN.out).mono ?_
    rintro e u3 ⟨rfl, b3⟩
    replace R := Lib.hid ((R.out.grow b3).alloc 0 0 32)
    replace RB := Lib.hid ((RB.out.grow b3).alloc 0 0 32)
    replace S := (S.next b3).alloc 0 0
    clear b3
    clear r
    have r := S.holds
    simp only [Holds, and_true] at r
    try simp only [World.size_alloc] at r
    go_wp2_with fail
    go_ret
    exact ⟨by simp, S.below⟩
  rw [Bool.and_eq_true] at ht
  have TV := Lib.hid ht.1; have TF := Lib.hid ht.2
  clear ht
  obtain ⟨ho1, ho2⟩ : onC l ((x : Int) : Rat) = true ∧ onC lb (cAt l ((x : Int) : Rat)) = true := by have := TV.out; rwa [thenV, Bool.and_eq_true] at this
  have HO := Lib.hid ho1; have HOB := Lib.hid ho2
  clear ho1 ho2
  go_wp2_with fail
  refine (got_yes (implCurveThen_any x R.out RB.out) TV.out TF.out).mono ?_
  rintro e u2 ⟨n, d, rfl, hf, hq, b2⟩
  replace R := Lib.hid ((R.out.grow b2).alloc n d 32)
  replace RB := Lib.hid ((RB.out.grow b2).alloc n d 32)
  replace S := (S.next b2).alloc n d
  clear b2
  have r := S.holds
  simp only [Holds, and_true] at r
  try simp only [World.size_alloc] at r
  have HF := Lib.hid hf; have HQ := Lib.hid hq
  clear hf hq
  go_wp2_with fail
  refine (got_same (got_yes (specCurveThen_any x R.out RB.out) TV.out TF.out) HF.out HQ.out).mono ?_
  rintro e u3 ⟨rfl, b3⟩
  replace R := Lib.hid ((R.out.grow b3).alloc n d 32)
  replace RB := Lib.hid ((RB.out.grow b3).alloc n d 32)
  replace S := (S.next b3).alloc n d
  clear b3
  clear r
  have r := S.holds
  simp only [Holds, and_true] at r
  try simp only [World.size_alloc] at r
  have HC := Lib.hid (onC_curve HO.out); have HCB := Lib.hid (onC_curve HOB.out)
  have pd := fv_part HF.out
  by_cases h1 : d = 1
  rotate_left
  · have e1 : (d != 1) = true := by simpa using h1
    have e2 : 1 < d := by omega
    clear h1
    go_wp2_with fail
    go_ret
    exact ⟨by first | rfl | (simp; done) | (simp; omega), S.below⟩
  · subst h1
    have e1 : cAt lb (cAt l ((x : Int) : Rat)) = ((n : Int) : Rat) := by have := HQ.out; rw [fq_whole] at this; exact this.symm
    obtain ⟨L1, L2⟩ := turn_lead HOB.out
    obtain ⟨L3, L4⟩ := turn_lead HO.out
    rw [e1] at L1 L2
    have TV2 : Hid (thenV (lb.map turnK) (l.map turnK) n = true) := Lib.hid (by unfold thenV; rw [L1, L2, L3]; rfl)
    have TR2 : Hid (thenR (lb.map turnK) (l.map turnK) n = ((x : Int) : Rat)) := Lib.hid (by unfold thenR; rw [L2, L4])
    obtain ⟨rx0, rx1⟩ := onC_int HO.out
    clear L1 L2 L3 L4 e1 pd
    go_wp2_with fail
    refine (lstb_yes (implCurveTurn_any R.out) (turnOf_is HC.out)).mono ?_
    rintro e u4 ⟨v3, rfl, r3, b4⟩
    replace R := Lib.hid ((R.out.grow b4))
    replace RB := Lib.hid ((RB.out.grow b4))
    replace S := (S.next b4)
    have R3 := Lib.hid r3
    clear r3
    clear b4
    clear r
    have r := S.holds
    simp only [Holds, and_true] at r
    try simp only [World.size_alloc] at r
    go_wp2_with fail
    refine (lstb_yes (implCurveTurn_any RB.out) (turnOf_is HCB.out)).mono ?_
    rintro e u5 ⟨v4, rfl, r4, b5⟩
    replace R := Lib.hid ((R.out.grow b5))
    replace RB := Lib.hid ((RB.out.grow b5))
    replace R3 := Lib.hid ((R3.out.grow b5))
    replace S := (S.next b5)
    have R4 := Lib.hid r4
    clear r4
    clear b5
    clear r
    have r := S.holds
    simp only [Holds, and_true] at r
    try simp only [World.size_alloc] at r
    go_wp2_with fail
    refine (got_whole (got_yes (implCurveThen_any n R4.out R3.out) TV2.out (by rw [TR2.out, ← fq_whole]; exact fq_fits (dp_fv rx0 rx1))) TR2.out rx0 rx1).mono ?_
    rintro e u6 ⟨rfl, b6⟩
    replace R := Lib.hid ((R.out.grow b6).alloc x 1 32)
    replace RB := Lib.hid ((RB.out.grow b6).alloc x 1 32)
    replace R3 := Lib.hid ((R3.out.grow b6).alloc x 1 32)
    replace R4 := Lib.hid ((R4.out.grow b6).alloc x 1 32)
    replace S := (S.next b6).alloc x 1
    clear b6
    clear r
    have r := S.holds
    simp only [Holds, and_true] at r
    try simp only [World.size_alloc] at r
    have Y0 := r.1.1
    have Y1 := r.1.2.1
    go_upto_region 13 with fail
    generalize (u6.alloc (.cells #[.int .i64 x, .int .i64 1] 32)) = W6 at S R RB R3 R4 Y0 Y1 r ⊢
    have mkS : ∀ w' : World, Below W6.heap.size W6 w' → (Below W6.heap.size W6 w' ∧ w'.cell? ⟨u6.heap.size, 0, none⟩ = some (.int .i64 x) ∧ w'.cell? ⟨u6.heap.size, 1, none⟩ = some (.int .i64 1)) := fun w' b => ⟨b, (b.cell (cell_below Y0)).trans Y0, (b.cell (cell_below Y1)).trans Y1⟩
    have held : ∀ W w' : World, Below W.heap.size W w' → (Below W6.heap.size W6 W ∧ W.cell? ⟨u6.heap.size, 0, none⟩ = some (.int .i64 x) ∧ W.cell? ⟨u6.heap.size, 1, none⟩ = some (.int .i64 1)) → (Below W6.heap.size W6 w' ∧ w'.cell? ⟨u6.heap.size, 0, none⟩ = some (.int .i64 x) ∧ w'.cell? ⟨u6.heap.size, 1, none⟩ = some (.int .i64 1)) := fun W w' b h => mkS w' (h.1.trans (b.mono h.1.size))
    have keep0 := mkS _ (Below.refl W6.heap.size W6).drew
    have atR := fun (W : World) (h : (Below W6.heap.size W6 W ∧ W.cell? ⟨u6.heap.size, 0, none⟩ = some (.int .i64 x) ∧ W.cell? ⟨u6.heap.size, 1, none⟩ = some (.int .i64 1))) => R.out.grow h.1
    have atRB := fun (W : World) (h : (Below W6.heap.size W6 W ∧ W.cell? ⟨u6.heap.size, 0, none⟩ = some (.int .i64 x) ∧ W.cell? ⟨u6.heap.size, 1, none⟩ = some (.int .i64 1))) => RB.out.grow h.1
    have atR3 := fun (W : World) (h : (Below W6.heap.size W6 W ∧ W.cell? ⟨u6.heap.size, 0, none⟩ = some (.int .i64 x) ∧ W.cell? ⟨u6.heap.size, 1, none⟩ = some (.int .i64 1))) => R3.out.grow h.1
    have atR4 := fun (W : World) (h : (Below W6.heap.size W6 W ∧ W.cell? ⟨u6.heap.size, 0, none⟩ = some (.int .i64 x) ∧ W.cell? ⟨u6.heap.size, 1, none⟩ = some (.int .i64 1))) => R4.out.grow h.1
    have tok0 : True := trivial
    go_region_held3 (fun w' => (Below W6.heap.size W6 w' ∧ w'.cell? ⟨u6.heap.size, 0, none⟩ = some (.int .i64 x) ∧ w'.cell? ⟨u6.heap.size, 1, none⟩ = some (.int .i64 1))) (first | exact keep0 | exact hs0) (first | (have _t := tok0; clear tok0 _t; go_at_call 17; refine (frac_any _ _).mono ?_; rintro e x0 ⟨rfl, b0⟩; have hs0 := held _ _ b0 (by assumption)))
    have B9 := hs0.1
    replace R := Lib.hid (R.out.grow B9)
    replace RB := Lib.hid (RB.out.grow B9)
    replace R3 := Lib.hid (R3.out.grow B9)
    replace R4 := Lib.hid (R4.out.grow B9)
    replace S := S.next B9
    clear mkS held keep0 B9 atR atRB atR3 atR4 hs0 b0
    clear r
    have r := S.holds
    simp only [Holds, and_true] at r
    try simp only [World.size_alloc] at r
    go_wp2_with fail
    go_ret
    exact ⟨by first | rfl | (simp; done) | (simp; omega), S.below⟩

set_option maxRecDepth 100000 in
theorem lifted (os : Os) (started : os.Started) (H : Type) (enc : TypeId × Value → H) :
    ReturnsInHanded {} Try.checked os 10 .any (Rows.fnThenBackSpec.pre6 enc Try.prog Try.f10 Rows.fnThenBackRow.domain false) (Rows.fnThenBackSpec.post enc Try.prog Try.f10 false true false false) := by
  refine returnsInHanded_of_change (C := Try.checked) own started (by kernel_rfl) Try.func10
    (ChangeSpec.witness6 (enc := enc) (C := Try.checked) false ⟨#[], #[.slice none 0 0], []⟩ 8 (by kernel_rfl) (by kernel_rfl) (by kernel_rfl) (by kernel_rfl)) ?_
  intro W base args ds gs before hval0 hW hcnd _
  have hval : ∀ (j : Nat) t v, Try.f10.params[j]? = some t → args[j]? = some v → Value.okWide Try.prog W .any base t v := hval0
  have hW' := hW
  obtain ⟨p, q, hA0, hV, rfl, hfz, hnd⟩ := hW
  have hA : DataW.TrodAll enc Try.prog W 0 (fun _ => true) true Try.f10.params.toList args.toList ds p := hA0
  rw [Try.params10] at hA hval
  obtain ⟨v0, vs0, d0, ds0, p0, q0, hargs, rfl, rfl, h0, r0⟩ := trodAll_cons hA
  obtain ⟨rfl, rfl, rfl⟩ := trodAll_nil r0
  obtain rfl : args = #[v0] := by cases args; simp_all
  obtain ⟨rfl, rfl⟩ := trodVars_none hV
  obtain ⟨a0, len0, cap0, rfl⟩ := okWide_slice Try.underlying22 (hval 0 22 v0 rfl rfl)
  have k0 := h0
  have lt0 : ∀ x ∈ p0, x.block < W.heap.size := by obtain ⟨m, hm⟩ := k0; exact DataW.trod_lt m _ _ _ hm
  obtain ⟨z0, w0⟩ : ∃ zs, IsRow .u8 W a0 len0 cap0 zs := by
    obtain ⟨fuel, hf⟩ := h0
    rcases open_ints Try.underlying22 Try.underlying5 (by kernel_rfl) hf with ⟨hcs, _⟩ | ⟨x, l, c, zs, hcs, _, hl, hm, hz, _, hcell, hwz⟩
    · simp [Value.cells] at hcs
      obtain ⟨rfl, rfl, rfl⟩ := hcs
      exact ⟨[], .inl ⟨rfl, rfl, rfl, rfl⟩⟩
    · simp [Value.cells] at hcs
      obtain ⟨rfl, rfl, rfl⟩ := hcs
      exact ⟨zs, .inr ⟨_, rfl, hl, hm, by simpa using hz, hcell, hwz⟩⟩
  clear hA0 hval0
  refine (walk a0 len0 cap0 z0 W w0).mono fun e W' ⟨he, bel⟩ => ?_
  subst he
  exact ⟨_, rfl, _, _, _, [], _, [], hW', trodAll_mk1 (shut_bool Try.underlying4 _), (trodAll_cons_mk (Below.trod laidOut (by kernel_rfl) (of_decide_eq_true (by kernel_rfl)) k0 bel lt0) trodAll_mk0), rfl, bel.frame _, fun h => by cases h⟩

theorem over : Rows.fnThenBackRow.holds Try.pinned (OpenSpec.ofChange Rows.fnThenBackSpec) :=
  OpenClaim.holds_of_wide 10 Try.f10 rfl rfl rfl rfl rfl rfl rfl ⟨rfl, rfl, rfl, rfl, rfl⟩ rfl rfl rfl rfl rfl (by kernel_rfl) Try.func10 (by kernel_rfl)
    (of_decide_eq_true (by kernel_rfl)) (by unfold Func.isWrapper; first | (rw [if_pos (by decide +kernel)]; kernel_rfl) | (rw [if_neg (by decide +kernel)]; exact ⟨rfl, rfl⟩))
    (fun os started H enc _ => lifted os started H enc)

/-- ████ THE STATEMENT ████ -/
theorem proved : Rows.FnThenBackSaid := over
#print axioms proved
end Go.Proofs.Ythpfehjjaamkkab.fnThenBack
