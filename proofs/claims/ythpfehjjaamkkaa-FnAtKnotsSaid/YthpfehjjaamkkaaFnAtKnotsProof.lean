/- For every input, the law FnAtKnots of the given statements returns true over the program at this commit, and its arguments read afterwards as before: no condition. -/
import Derived.Test.YthpfehjjaamkkaaRows
import Derived.Test.YthpfehjjaamkkaaLawK
import Derived.WalkKit
import Derived.ProofKit
import Derived.OpenShut
import Derived.ShutString
import Derived.ChangeOld
import Derived.Below
namespace Go.Proofs.Ythpfehjjaamkkaa.fnAtKnots
open Go.ChangeShapes Go.WideShapes Go.ChangeAt Go.RowKit
open Go.ChangeMaps (open_string shut_string)
set_option linter.unusedVariables false

theorem own : ownKnob Try.prog.godebug = none := by kernel_rfl
theorem laidOut : laidOutB Try.prog = true := by kernel_rfl

/-- WHAT THE WALK IS TOLD OF A SLICE OF INTEGERS THAT CAME IN: it is nil; or it leads to a row of 'cap' cells, the numbers 'zs' (the first 'len' are its elements, the rest its spare room), each fitting its kind. -/
def IsRow (k : IntKind) (w : World) (a : Option Addr) (len cap : Nat) (zs : List Int) : Prop :=
  (a = none ∧ len = 0 ∧ cap = 0 ∧ zs = []) ∨
  ∃ x, a = some x ∧ len ≤ cap ∧ cap ≤ maxLen ∧ zs.length = cap ∧ (∀ i, i < zs.length → w.cell? (x.add i) = some (.int k (zs.getD i 0))) ∧ ∀ n ∈ zs, (Lit.int k n).wf = true

set_option maxRecDepth 100000 in
set_option maxHeartbeats 3200000 in
theorem walk (a0 : Option Addr) (len0 cap0 : Nat) (z0 : List Int) (w : World) (w0 : IsRow .u8 w a0 len0 cap0 z0) :
    Calls Try.prog 4 #[.slice a0 len0 cap0] w fun e w' => e = .returned (.bool true) ∧ Below w.heap.size w w' := by
  have hB := bytes_of w0
  by_cases hl : 1048576 < len0
  · have hdec : decide (1048576 < len0) = true := by simpa using hl
    go_enter Try.func4, Try.ntmps4
    go_wp2_with fail
    go_ret
    exact ⟨rfl, Below.refl _ _⟩
  have hdec : decide (1048576 < len0) = false := by simpa using hl
  have hm : len0 ≤ 1048576 := by omega
  go_enter Try.func4, Try.ntmps4
  go_wp2_with fail
  refine (DrawCurveAt_any hB).mono ?_
  rintro e wv1 ⟨v, l, x, rfl, hr, hbd, hl, hx0, hx1, b1⟩
  clear w0 hB
  have S := St.start b1
  clear b1
  have R := Lib.hid hr
  clear hr
  have BD := Lib.hid hbd
  clear hbd
  cases ho : onC l ((x : Int) : Rat)
  · have HO := Lib.hid ho
    clear ho
    go_wp2_with fail
    refine (at_no R.out HO.out).mono ?_
    rintro e wv2 ⟨rfl, b2⟩
    replace R := Lib.hid ((R.out.grow b2).alloc 0 0 32)
    replace S := (S.next b2).alloc 0 0
    clear b2
    have r := S.holds
    simp only [Holds, and_true] at r
    try simp only [World.size_alloc] at r
    go_wp2_with fail
    refine (at_noS R.out HO.out).mono ?_
    rintro e wv3 ⟨rfl, b3⟩
    replace R := Lib.hid ((R.out.grow b3).alloc 0 0 32)
    replace S := (S.next b3).alloc 0 0
    clear b3
    clear r
    have r := S.holds
    simp only [Holds, and_true] at r
    try simp only [World.size_alloc] at r
    go_wp2_with fail
    go_ret
    exact ⟨by simp, S.below⟩
  have HO := Lib.hid ho
  clear ho
  go_wp2_with fail
  refine (at_yes R.out HO.out).mono ?_
  rintro e wv2 ⟨n, d, rfl, hf, hq, b2⟩
  replace R := Lib.hid ((R.out.grow b2).alloc n d 32)
  replace S := (S.next b2).alloc n d
  clear b2
  have r := S.holds
  simp only [Holds, and_true] at r
  try simp only [World.size_alloc] at r
  have HF := Lib.hid hf; have HQ := Lib.hid hq
  clear hf hq
  go_wp2_with fail
  refine (got_same (at_yesS R.out HO.out) HF.out HQ.out).mono ?_
  rintro e wv3 ⟨rfl, b3⟩
  replace R := Lib.hid ((R.out.grow b3).alloc n d 32)
  replace S := (S.next b3).alloc n d
  clear b3
  clear r
  have r := S.holds
  simp only [Holds, and_true] at r
  try simp only [World.size_alloc] at r
  have HC := Lib.hid (onC_curve HO.out)
  obtain ⟨g, o, cp, rfl, hcap, hcapm⟩ := R.out.known hl
  unfold maxLen at hcapm
  obtain ⟨m, hm⟩ : ∃ m, l.length = m + 1 := ⟨l.length - 1, by omega⟩
  rw [hm] at hcap
  rw [hm] at R
  rw [hm]
  have HM := Lib.hid hm
  have em : l.length - 1 = m := by omega
  have hml : m < l.length := by omega
  have h0l : 0 < l.length := by omega
  have q0 : (0 : Int) < (m : Int) + 1 := by omega
  have q1 : 0 < m + 1 := by omega
  have q2 : IntKind.i64.wrap ((m : Int) + 1 - 1) = (m : Int) := by rw [show (m : Int) + 1 - 1 = m by omega]; exact IntWalk.i64_in _ (by omega)
  have q2' : IntKind.i64.wrap (m : Int) = (m : Int) := IntWalk.i64_in _ (by omega)
  have q3 : (0 : Int) ≤ (m : Int) := by omega
  have q4 : (m : Int) < (m : Int) + 1 := by omega
  have q5 : m < m + 1 := by omega
  have hm12 : m ≤ 11 := by have := isCurve_len HC.out; omega
  go_upto_region 8 with fail
  generalize (wv3.alloc (.cells #[.int .i64 n, .int .i64 d] 32)) = W3 at S R r ⊢
  go_wp2_with fail
  go_loopg [9] l.length (fun rr z wr => ∃ j : Nat, z = .int .i64 j ∧ j + rr = l.length ∧ Below W3.heap.size W3 wr)
  case atStart => exact ⟨0, rfl, by omega, Below.refl _ _⟩
  case round =>
    obtain ⟨j, rfl, hk, hb⟩ := hrel
    have K := Lib.hid hk
    have hjl : j ≤ l.length := by omega
    clear hk
    have Q := St.start hb
    replace R := Lib.hid (R.out.grow hb)
    replace S := S.next hb
    clear hb
    clear r
    have r := S.holds
    simp only [Holds, and_true] at r
    try simp only [World.size_alloc] at r
    by_cases hlt : j < l.length
    · have a6 : (0 : Int) ≤ (j : Int) := by omega
      have a7 : (j : Int) < (m : Int) + 1 := by omega
      obtain ⟨c1, c2⟩ := R.out.cells j hlt
      have dj := isCurve_dp HC.out j hlt
      have OJ := Lib.hid (knot_on HC.out j hlt); have AJ := Lib.hid (knot_at HC.out j hlt)
      go_wp2_with fail
      refine (got_whole (at_yes (x := l[j].1) R.out OJ.out) AJ.out dj.2.2.1 dj.2.2.2).mono ?_
      rintro e wv4 ⟨rfl, b4⟩
      replace R := Lib.hid ((R.out.grow b4).alloc l[j].2 1 32)
      replace S := (S.next b4).alloc l[j].2 1
      replace Q := (Q.next b4).alloc l[j].2 1
      clear b4
      clear r
      have r := S.holds
      simp only [Holds, and_true] at r
      try simp only [World.size_alloc] at r
      clear c1 c2
      obtain ⟨c1, c2⟩ := R.out.cells j hlt
      clear c1
      have Yc0 := r.1.1
      have Yc1 := r.1.2.1
      go_upto_region 12 with fail
      generalize (wv4.alloc (.cells #[.int .i64 l[j].2, .int .i64 1] 32)) = W4 at S Q R Yc0 Yc1 c2 r ⊢
      have mkS : ∀ w' : World, Below W4.heap.size W4 w' → (Below W4.heap.size W4 w' ∧ w'.cell? ⟨wv4.heap.size, 0, none⟩ = some (.int .i64 l[j].2) ∧ w'.cell? ⟨wv4.heap.size, 1, none⟩ = some (.int .i64 1) ∧ w'.cell? ⟨g, o + j * 2 + 1, none⟩ = some (.int .i64 l[j].2)) := fun w' b => ⟨b, (b.cell (cell_below Yc0)).trans Yc0, (b.cell (cell_below Yc1)).trans Yc1, (b.cell (cell_below c2)).trans c2⟩
      have held : ∀ W w' : World, Below W.heap.size W w' → (Below W4.heap.size W4 W ∧ W.cell? ⟨wv4.heap.size, 0, none⟩ = some (.int .i64 l[j].2) ∧ W.cell? ⟨wv4.heap.size, 1, none⟩ = some (.int .i64 1) ∧ W.cell? ⟨g, o + j * 2 + 1, none⟩ = some (.int .i64 l[j].2)) → (Below W4.heap.size W4 w' ∧ w'.cell? ⟨wv4.heap.size, 0, none⟩ = some (.int .i64 l[j].2) ∧ w'.cell? ⟨wv4.heap.size, 1, none⟩ = some (.int .i64 1) ∧ w'.cell? ⟨g, o + j * 2 + 1, none⟩ = some (.int .i64 l[j].2)) := fun W w' b h => mkS w' (h.1.trans (b.mono h.1.size))
      have keep0 := mkS _ (Below.refl W4.heap.size W4).drew
      have atR := fun (W : World) (h : (Below W4.heap.size W4 W ∧ W.cell? ⟨wv4.heap.size, 0, none⟩ = some (.int .i64 l[j].2) ∧ W.cell? ⟨wv4.heap.size, 1, none⟩ = some (.int .i64 1) ∧ W.cell? ⟨g, o + j * 2 + 1, none⟩ = some (.int .i64 l[j].2))) => R.out.grow h.1
      have tok0 : True := trivial
      go_region_held3 (fun w' => (Below W4.heap.size W4 w' ∧ w'.cell? ⟨wv4.heap.size, 0, none⟩ = some (.int .i64 l[j].2) ∧ w'.cell? ⟨wv4.heap.size, 1, none⟩ = some (.int .i64 1) ∧ w'.cell? ⟨g, o + j * 2 + 1, none⟩ = some (.int .i64 l[j].2))) (first | exact keep0 | exact hs0) (first | (have _t := tok0; clear tok0 _t; go_at_call 18; refine (frac_any _ _).mono ?_; rintro e wv5 ⟨rfl, b0⟩; have hs0 := held _ _ b0 (by assumption)))
      have B9 := hs0.1
      replace R := Lib.hid (R.out.grow B9)
      replace S := S.next B9
      replace Q := Q.next B9
      clear mkS held keep0 B9 atR hs0 b0
      clear r
      have r := S.holds
      simp only [Holds, and_true] at r
      try simp only [World.size_alloc] at r
      go_wp2_with fail
      go_roundg (gk - 1)
      case measure => have := K.out; omega
      case rel => exact ⟨j + 1, by go_num, by have := K.out; omega, Q.below⟩
    · have hj : ¬ (j : Int) < (m : Int) + 1 := by omega
      clear Q
      have d0 := isCurve_dp HC.out 0 h0l; have dm := isCurve_dp HC.out m hml
      have F0 := dp_fv d0.2.2.1 d0.2.2.2; have FM := dp_fv dm.2.2.1 dm.2.2.2
      have bt := at_between HO.out h0l
      simp only [em] at bt
      have L0 := Lib.hid (decide_eq_false (show ¬ fq n d < fq l[0].2 1 by rw [HQ.out, fq_whole]; have := bt.1; grind))
      have L1 := Lib.hid (decide_eq_false (show ¬ fq l[m].2 1 < fq n d by rw [HQ.out, fq_whole]; have := bt.2; grind))
      obtain ⟨f0, f1⟩ := R.out.cells 0 h0l
      simp only [Nat.zero_mul, Nat.add_zero] at f0 f1
      obtain ⟨t0, t1⟩ := R.out.cells m hml
      clear f0 t0 bt
      have Oc0 := r.2.1
      have Oc1 := r.2.2.1
      go_upto_region 14 with fail
      generalize wr = W3 at S R Oc0 Oc1 f1 t1 r ⊢
      have mkS : ∀ w' : World, Below W3.heap.size W3 w' → (Below W3.heap.size W3 w' ∧ w'.cell? ⟨wv2.heap.size, 0, none⟩ = some (.int .i64 n) ∧ w'.cell? ⟨wv2.heap.size, 1, none⟩ = some (.int .i64 d) ∧ w'.cell? ⟨g, o + 1, none⟩ = some (.int .i64 l[0].2) ∧ w'.cell? ⟨g, o + m * 2 + 1, none⟩ = some (.int .i64 l[m].2)) := fun w' b => ⟨b, (b.cell (cell_below Oc0)).trans Oc0, (b.cell (cell_below Oc1)).trans Oc1, (b.cell (cell_below f1)).trans f1, (b.cell (cell_below t1)).trans t1⟩
      have held : ∀ W w' : World, Below W.heap.size W w' → (Below W3.heap.size W3 W ∧ W.cell? ⟨wv2.heap.size, 0, none⟩ = some (.int .i64 n) ∧ W.cell? ⟨wv2.heap.size, 1, none⟩ = some (.int .i64 d) ∧ W.cell? ⟨g, o + 1, none⟩ = some (.int .i64 l[0].2) ∧ W.cell? ⟨g, o + m * 2 + 1, none⟩ = some (.int .i64 l[m].2)) → (Below W3.heap.size W3 w' ∧ w'.cell? ⟨wv2.heap.size, 0, none⟩ = some (.int .i64 n) ∧ w'.cell? ⟨wv2.heap.size, 1, none⟩ = some (.int .i64 d) ∧ w'.cell? ⟨g, o + 1, none⟩ = some (.int .i64 l[0].2) ∧ w'.cell? ⟨g, o + m * 2 + 1, none⟩ = some (.int .i64 l[m].2)) := fun W w' b h => mkS w' (h.1.trans (b.mono h.1.size))
      have keep0 := mkS _ (Below.refl W3.heap.size W3).drew
      have atR := fun (W : World) (h : (Below W3.heap.size W3 W ∧ W.cell? ⟨wv2.heap.size, 0, none⟩ = some (.int .i64 n) ∧ W.cell? ⟨wv2.heap.size, 1, none⟩ = some (.int .i64 d) ∧ W.cell? ⟨g, o + 1, none⟩ = some (.int .i64 l[0].2) ∧ W.cell? ⟨g, o + m * 2 + 1, none⟩ = some (.int .i64 l[m].2))) => R.out.grow h.1
      have tok0 : True := trivial
      have tok1 : True := trivial
      have tok2 : True := trivial
      have tok3 : True := trivial
      go_region_held3 (fun w' => (Below W3.heap.size W3 w' ∧ w'.cell? ⟨wv2.heap.size, 0, none⟩ = some (.int .i64 n) ∧ w'.cell? ⟨wv2.heap.size, 1, none⟩ = some (.int .i64 d) ∧ w'.cell? ⟨g, o + 1, none⟩ = some (.int .i64 l[0].2) ∧ w'.cell? ⟨g, o + m * 2 + 1, none⟩ = some (.int .i64 l[m].2))) (first | exact keep0 | exact hs0 | exact hs1 | exact hs2 | exact hs3) (first | (have _t := tok0; clear tok0 _t; go_at_call 18; refine (frac_any _ _).mono ?_; rintro e x0 ⟨rfl, b0⟩; have hs0 := held _ _ b0 (by assumption)) | (have _t := tok1; clear tok1 _t; go_at_call 19; refine (less_is' HF.out F0 L0.out _).mono ?_; rintro e x1 ⟨rfl, b1⟩; have hs1 := held _ _ b1 (by assumption)) | (have _t := tok2; clear tok2 _t; go_at_call 18; refine (frac_any _ _).mono ?_; rintro e x2 ⟨rfl, b2⟩; have hs2 := held _ _ b2 (by assumption)) | (have _t := tok3; clear tok3 _t; go_at_call 19; refine (less_is' FM HF.out L1.out _).mono ?_; rintro e wv4 ⟨rfl, b3⟩; have hs3 := held _ _ b3 (by assumption)))
      have B9 := hs3.1
      replace R := Lib.hid (R.out.grow B9)
      replace S := S.next B9
      clear mkS held keep0 B9 atR hs0 b0 hs1 b1 hs2 b2 hs3 b3
      clear r
      have r := S.holds
      simp only [Holds, and_true] at r
      try simp only [World.size_alloc] at r
      go_wp2_with fail
      go_ret
      exact ⟨by first | rfl | (simp; done) | (simp; omega), S.below⟩

set_option maxRecDepth 100000 in
theorem lifted (os : Os) (started : os.Started) (H : Type) (enc : TypeId × Value → H) :
    ReturnsInHanded {} Try.checked os 4 .any (Rows.fnAtKnotsSpec.pre6 enc Try.prog Try.f4 Rows.fnAtKnotsRow.domain false) (Rows.fnAtKnotsSpec.post enc Try.prog Try.f4 false true false false) := by
  refine returnsInHanded_of_change (C := Try.checked) own started (by kernel_rfl) Try.func4
    (ChangeSpec.witness6 (enc := enc) (C := Try.checked) false ⟨#[], #[.slice none 0 0], []⟩ 8 (by kernel_rfl) (by kernel_rfl) (by kernel_rfl) (by kernel_rfl)) ?_
  intro W base args ds gs before hval0 hW hcnd _
  have hval : ∀ (j : Nat) t v, Try.f4.params[j]? = some t → args[j]? = some v → Value.okWide Try.prog W .any base t v := hval0
  have hW' := hW
  obtain ⟨p, q, hA0, hV, rfl, hfz, hnd⟩ := hW
  have hA : DataW.TrodAll enc Try.prog W 0 (fun _ => true) true Try.f4.params.toList args.toList ds p := hA0
  rw [Try.params4] at hA hval
  obtain ⟨v0, vs0, d0, ds0, p0, q0, hargs, rfl, rfl, h0, r0⟩ := trodAll_cons hA
  obtain ⟨rfl, rfl, rfl⟩ := trodAll_nil r0
  obtain rfl : args = #[v0] := by cases args; simp_all
  obtain ⟨rfl, rfl⟩ := trodVars_none hV
  obtain ⟨a0, len0, cap0, rfl⟩ := okWide_slice Try.underlying22 (hval 0 22 v0 rfl rfl)
  have k0 := h0
  have lt0 : ∀ x ∈ p0, x.block < W.heap.size := by obtain ⟨m, hm⟩ := k0; exact DataW.trod_lt m _ _ _ hm
  obtain ⟨z0, w0⟩ : ∃ zs, IsRow .u8 W a0 len0 cap0 zs := by
    obtain ⟨fuel, hf⟩ := h0
    rcases open_ints Try.underlying22 Try.underlying5 (by kernel_rfl) hf with ⟨hcs, _⟩ | ⟨x, l, c, zs, hcs, _, hl, hm, hz, _, hcell, hwz⟩
    · simp [Value.cells] at hcs
      obtain ⟨rfl, rfl, rfl⟩ := hcs
      exact ⟨[], .inl ⟨rfl, rfl, rfl, rfl⟩⟩
    · simp [Value.cells] at hcs
      obtain ⟨rfl, rfl, rfl⟩ := hcs
      exact ⟨zs, .inr ⟨_, rfl, hl, hm, by simpa using hz, hcell, hwz⟩⟩
  clear hA0 hval0
  refine (walk a0 len0 cap0 z0 W w0).mono fun e W' ⟨he, bel⟩ => ?_
  subst he
  exact ⟨_, rfl, _, _, _, [], _, [], hW', trodAll_mk1 (shut_bool Try.underlying4 _), (trodAll_cons_mk (Below.trod laidOut (by kernel_rfl) (of_decide_eq_true (by kernel_rfl)) k0 bel lt0) trodAll_mk0), rfl, bel.frame _, fun h => by cases h⟩

theorem over : Rows.fnAtKnotsRow.holds Try.pinned (OpenSpec.ofChange Rows.fnAtKnotsSpec) :=
  OpenClaim.holds_of_wide 4 Try.f4 rfl rfl rfl rfl rfl rfl rfl ⟨rfl, rfl, rfl, rfl, rfl⟩ rfl rfl rfl rfl rfl (by kernel_rfl) Try.func4 (by kernel_rfl)
    (of_decide_eq_true (by kernel_rfl)) (by unfold Func.isWrapper; first | (rw [if_pos (by decide +kernel)]; kernel_rfl) | (rw [if_neg (by decide +kernel)]; exact ⟨rfl, rfl⟩))
    (fun os started H enc _ => lifted os started H enc)

/-- ████ THE STATEMENT ████ -/
theorem proved : Rows.FnAtKnotsSaid := over
#print axioms proved
end Go.Proofs.Ythpfehjjaamkkaa.fnAtKnots
