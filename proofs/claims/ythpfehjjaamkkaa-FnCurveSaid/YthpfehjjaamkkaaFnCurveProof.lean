/- For every input, the law FnCurve of the given statements returns true over the program at this commit, and its arguments read afterwards as before: no condition. -/
import Derived.Test.YthpfehjjaamkkaaRows
import Derived.Test.YthpfehjjaamkkaaLawK
import Derived.WalkKit
import Derived.ProofKit
import Derived.OpenShut
import Derived.ShutString
import Derived.ChangeOld
import Derived.Below
namespace Go.Proofs.Ythpfehjjaamkkaa.fnCurve
open Go.ChangeShapes Go.WideShapes Go.ChangeAt Go.RowKit
open Go.ChangeMaps (open_string shut_string)
set_option linter.unusedVariables false

theorem own : ownKnob Try.prog.godebug = none := by kernel_rfl
theorem laidOut : laidOutB Try.prog = true := by kernel_rfl

/-- WHAT THE WALK IS TOLD OF A SLICE OF INTEGERS THAT CAME IN: it is nil; or it leads to a row of 'cap' cells, the numbers 'zs' (the first 'len' are its elements, the rest its spare room), each fitting its kind. -/
def IsRow (k : IntKind) (w : World) (a : Option Addr) (len cap : Nat) (zs : List Int) : Prop :=
  (a = none ∧ len = 0 ∧ cap = 0 ∧ zs = []) ∨
  ∃ x, a = some x ∧ len ≤ cap ∧ cap ≤ maxLen ∧ zs.length = cap ∧ (∀ i, i < zs.length → w.cell? (x.add i) = some (.int k (zs.getD i 0))) ∧ ∀ n ∈ zs, (Lit.int k n).wf = true

set_option maxRecDepth 100000 in
set_option maxHeartbeats 3200000 in
theorem walk (a0 : Option Addr) (len0 cap0 : Nat) (z0 : List Int) (a1 : Option Addr) (len1 cap1 : Nat) (z1 : List Int) (w : World) (w0 : IsRow .u8 w a0 len0 cap0 z0) (w1 : IsRow .u8 w a1 len1 cap1 z1) :
    Calls Try.prog 3 #[.slice a0 len0 cap0, .slice a1 len1 cap1] w fun e w' => e = .returned (.bool true) ∧ Below w.heap.size w w' := by
  have hB := bytes_of w0
  have hB1 := bytes_len (bytes_of w1)
  unfold maxLen at hB1
  by_cases hl : 1048576 < len0
  · have hdec : decide (1048576 < len0) = true := by simpa using hl
    go_enter Try.func3, Try.ntmps3
    go_wp2_with fail
    go_ret
    exact ⟨rfl, Below.refl _ _⟩
  have hdec : decide (1048576 < len0) = false := by simpa using hl
  by_cases hl1 : 1048576 < len1
  · go_enter Try.func3, Try.ntmps3
    go_wp2_with fail
    go_ret
    exact ⟨rfl, Below.refl _ _⟩
  have hm : len0 ≤ 1048576 := by omega
  have hm1 : len1 ≤ 1048576 := by omega
  clear hB1
  go_enter Try.func3, Try.ntmps3
  go_wp2_with fail
  refine (DrawCurveValid_any hB).mono ?_
  rintro e wv1 ⟨v, l, rfl, hr, hbd, hl, b1⟩
  clear w0 w1 hB
  have S := St.start b1
  clear b1
  have R := Lib.hid hr
  clear hr
  have BD := Lib.hid hbd
  clear hbd
  cases hc : isCurve l
  · have HC := Lib.hid hc
    clear hc
    go_wp2_with fail
    refine (val_is (implCurveValid_any R.out) (congrArg Value.bool HC.out)).mono ?_
    rintro e wv2 ⟨rfl, b2⟩
    replace R := Lib.hid ((R.out.grow b2))
    replace S := (S.next b2)
    clear b2
    go_wp2_with fail
    refine (val_is (specCurveValid_any R.out) (congrArg Value.bool HC.out)).mono ?_
    rintro e wv3 ⟨rfl, b3⟩
    replace R := Lib.hid ((R.out.grow b3))
    replace S := (S.next b3)
    clear b3
    go_wp2_with fail
    go_ret
    exact ⟨rfl, S.below⟩
  have HC := Lib.hid hc
  clear hc
  obtain ⟨g, o, cp, rfl, hcap, hcapm⟩ := R.out.known hl
  unfold maxLen at hcapm
  obtain ⟨m, hm⟩ : ∃ m, l.length = m + 1 := ⟨l.length - 1, by omega⟩
  rw [hm] at hcap
  rw [hm] at R
  rw [hm]
  have HM := Lib.hid hm
  have em : l.length - 1 = m := by omega
  have hml : m < l.length := by omega
  have h0l : 0 < l.length := by omega
  have q0 : (0 : Int) < (m : Int) + 1 := by omega
  have q1 : 0 < m + 1 := by omega
  have q2 : IntKind.i64.wrap ((m : Int) + 1 - 1) = (m : Int) := by rw [show (m : Int) + 1 - 1 = m by omega]; exact IntWalk.i64_in _ (by omega)
  have q2' : IntKind.i64.wrap (m : Int) = (m : Int) := IntWalk.i64_in _ (by omega)
  have q3 : (0 : Int) ≤ (m : Int) := by omega
  have q4 : (m : Int) < (m : Int) + 1 := by omega
  have q5 : m < m + 1 := by omega
  have hm2 : 1 ≤ m := by have := isCurve_len HC.out; omega
  have hm12 : m ≤ 11 := by have := isCurve_len HC.out; omega
  obtain ⟨y, hy⟩ : ∃ y : Int, (len1 : Int).tmod (m : Int) = y := ⟨_, rfl⟩
  have hy0 : 0 ≤ y := by rw [← hy]; exact Int.tmod_nonneg _ (by omega)
  have hy1 : y < (m : Int) := by rw [← hy]; exact Int.tmod_lt_of_pos _ (by omega)
  have hye : (len1 : Int) % (m : Int) = y := by rw [← hy, Int.tmod_eq_emod_of_nonneg (by omega)]
  obtain ⟨yn, rfl⟩ := Int.eq_ofNat_of_zero_le hy0
  have z3 : IntKind.i64.wrap (yn : Int) = (yn : Int) := IntWalk.i64_in _ (by omega)
  have z4 : IntKind.i64.wrap (2 + (yn : Int)) = 2 + (yn : Int) := IntWalk.i64_in _ (by omega)
  have z5 : ¬ ((m : Int) = 0) := by omega
  go_wp2_with fail
  refine (val_is (implCurveValid_any R.out) (congrArg Value.bool HC.out)).mono ?_
  rintro e wv2 ⟨rfl, b2⟩
  replace R := Lib.hid ((R.out.grow b2))
  replace S := (S.next b2)
  clear b2
  go_wp2_with fail
  refine (val_is (specCurveValid_any R.out) (congrArg Value.bool HC.out)).mono ?_
  rintro e wv3 ⟨rfl, b3⟩
  replace R := Lib.hid ((R.out.grow b3))
  replace S := (S.next b3)
  clear b3
  have O0 := Lib.hid (own_new 27 (w := wv3) (B := wv3.heap.size) (Nat.le_refl _))
  go_upto_region 9 with fail
  go_wp2_with fail
  go_loopg [9, 10] (m + 1) (fun rr vb z wr => z = .int .i64 ((rr : Int) - 1) ∧ rr ≤ m + 1 ∧ Own 27 wr wv3.heap.size vb (l.drop rr).reverse ∧ Below wv3.heap.size wv3 wr)
  case atStart => exact ⟨by first | rfl | (congr 1; omega), Nat.le_refl _, by rw [List.drop_of_length_le (by omega)]; exact O0.out, by go_grown⟩
  case round =>
    obtain ⟨rfl, hk, ho, hb⟩ := hrel
    have OB := Lib.hid ho; have BB := Lib.hid hb
    clear ho hb
    by_cases h0 : gk = 0
    rotate_left
    · obtain ⟨j, rfl⟩ : ∃ j, gk = j + 1 := ⟨gk - 1, by omega⟩
      have hj : j < l.length := by omega
      obtain ⟨c1, c2⟩ := (R.out.grow BB.out).cells j hj
      have a0 : ((j + 1 : Nat) : Int) - 1 = (j : Int) := by omega
      simp only [a0]
      have a1 : (0 : Int) ≤ (j : Int) := by omega
      have a2 : (j : Int) < (m : Int) + 1 := by omega
      have a3 : IntKind.i64.wrap ((j : Int) - 1) = (j : Int) - 1 := IntWalk.i64_in _ (by omega)
      obtain ⟨n1, n2⟩ := new_two wr (.int .i64 l[j].1) (.int .i64 l[j].2) 27
      have N1 := Lib.hid n1; have N2 := Lib.hid n2
      have BW := Lib.hid ((Below.refl wr.heap.size wr).alloc (Nat.le_refl _) (.cells #[.int .i64 l[j].1, .int .i64 l[j].2] 27))
      have hsz := BB.out.size
      clear n1 n2
      go_wp2_with (at_builtin; refine append_pair knotT rfl _ _ rfl (B := wv3.heap.size) _ _ rfl (OB.out.grow BW.out) ⟨wr.heap.size, 0, none⟩ l[j] rfl N1.out N2.out (by simp; omega) (by simp; omega) ?_; intro v8 w8 hown8 hg8)
      have O8 := Lib.hid hown8
      have B8 := Lib.hid (BB.out.trans ((BW.out.mono hsz).trans ((OB.out.grow BW.out).below hg8 (by simp; omega))))
      clear hown8 hg8
      go_wp2_with fail
      go_roundg j
      case measure => omega
      case rel => exact ⟨rfl, by omega, by have := O8.out; rwa [rev_step hj] at this, B8.out⟩
    · subst h0
      simp only [List.drop_zero] at OB
      have RV := Lib.hid OB.out.row
      replace R := Lib.hid (R.out.grow BB.out)
      replace S := S.next BB.out
      clear OB BB
      have T1 := Lib.hid (R.out.take (2 + yn) (by omega)); have T2 := Lib.hid (R.out.take 1 (by omega))
      have i1 : (0 : Int) ≤ 2 + (yn : Int) := by omega
      have i2 : 2 + (yn : Int) ≤ (cp : Int) := by omega
      have i3 : (2 + (yn : Int)).toNat = 2 + yn := by omega
      have i4 : (1 : Int) ≤ (cp : Int) := by omega
      have C1 := Lib.hid (isCurve_take HC.out (k := 2 + yn) (by omega) (by omega)); have C2 := Lib.hid (isCurve_rev HC.out); have C3 := Lib.hid (isCurve_dup h0l); have C4 : Hid (isCurve (l.take 1) = false) := Lib.hid (isCurve_size (.inl (by rw [List.length_take]; omega)))
      go_wp2_with fail
      refine (val_is (implCurveValid_any T1.out) (congrArg Value.bool C1.out)).mono ?_
      rintro e wv4 ⟨rfl, b4⟩
      replace R := Lib.hid ((R.out.grow b4))
      replace RV := Lib.hid ((RV.out.grow b4))
      replace T1 := Lib.hid ((T1.out.grow b4))
      replace T2 := Lib.hid ((T2.out.grow b4))
      replace S := (S.next b4)
      clear b4
      go_wp2_with fail
      refine (val_is (implCurveValid_any RV.out) (congrArg Value.bool C2.out)).mono ?_
      rintro e wv5 ⟨rfl, b5⟩
      replace R := Lib.hid ((R.out.grow b5))
      replace RV := Lib.hid ((RV.out.grow b5))
      replace T1 := Lib.hid ((T1.out.grow b5))
      replace T2 := Lib.hid ((T2.out.grow b5))
      replace S := (S.next b5)
      clear b5
      obtain ⟨f0, f1⟩ := R.out.cells 0 h0l
      simp only [Nat.zero_mul, Nat.add_zero] at f0 f1
      have ON := Lib.hid (own_one 27 (w := wv5) (B := wv5.heap.size) (Nat.le_refl _) l[0])
      have BN := Lib.hid ((Below.refl wv5.heap.size wv5).alloc (Nat.le_refl _) (.cells #[.int .i64 l[0].1, .int .i64 l[0].2] 27))
      have RN := Lib.hid (R.out.grow BN.out)
      go_wp2_with (at_builtin; refine append_list_g knotT (by first | rfl | kernel_rfl) _ _ rfl (B := wv5.heap.size) _ _ rfl ON.out ⟨g, o, none⟩ (m + 1) cp l rfl (by omega) (news_of RN.out) (by simp; omega) (by simp) ?_; intro v9 w9 hown9 hg9)
      have R9 := Lib.hid hown9.row
      have B9 := BN.out.trans ((ON.out.below hg9 (by simp)).mono (Nat.le_refl _))
      replace R := Lib.hid (R.out.grow B9)
      replace RV := Lib.hid (RV.out.grow B9)
      replace T1 := Lib.hid (T1.out.grow B9)
      replace T2 := Lib.hid (T2.out.grow B9)
      replace S := S.next B9
      clear B9 hown9 hg9 f0 f1 ON BN RN
      go_wp2_with fail
      refine (val_is (implCurveValid_any R9.out) (congrArg Value.bool C3.out)).mono ?_
      rintro e wv7 ⟨rfl, b7⟩
      replace R := Lib.hid ((R.out.grow b7))
      replace RV := Lib.hid ((RV.out.grow b7))
      replace T1 := Lib.hid ((T1.out.grow b7))
      replace T2 := Lib.hid ((T2.out.grow b7))
      replace R9 := Lib.hid ((R9.out.grow b7))
      replace S := (S.next b7)
      clear b7
      go_wp2_with fail
      refine (val_is (implCurveValid_any T2.out) (congrArg Value.bool C4.out)).mono ?_
      rintro e wv8 ⟨rfl, b8⟩
      replace R := Lib.hid ((R.out.grow b8))
      replace RV := Lib.hid ((RV.out.grow b8))
      replace T1 := Lib.hid ((T1.out.grow b8))
      replace T2 := Lib.hid ((T2.out.grow b8))
      replace R9 := Lib.hid ((R9.out.grow b8))
      replace S := (S.next b8)
      clear b8
      go_wp2_with fail
      go_ret
      exact ⟨by first | rfl | (simp; done) | (simp; omega), S.below⟩

set_option maxRecDepth 100000 in
theorem lifted (os : Os) (started : os.Started) (H : Type) (enc : TypeId × Value → H) :
    ReturnsInHanded {} Try.checked os 3 .any (Rows.fnCurveSpec.pre6 enc Try.prog Try.f3 Rows.fnCurveRow.domain false) (Rows.fnCurveSpec.post enc Try.prog Try.f3 false true false false) := by
  refine returnsInHanded_of_change (C := Try.checked) own started (by kernel_rfl) Try.func3
    (ChangeSpec.witness6 (enc := enc) (C := Try.checked) false ⟨#[], #[.slice none 0 0, .slice none 0 0], []⟩ 8 (by kernel_rfl) (by kernel_rfl) (by kernel_rfl) (by kernel_rfl)) ?_
  intro W base args ds gs before hval0 hW hcnd _
  have hval : ∀ (j : Nat) t v, Try.f3.params[j]? = some t → args[j]? = some v → Value.okWide Try.prog W .any base t v := hval0
  have hW' := hW
  obtain ⟨p, q, hA0, hV, rfl, hfz, hnd⟩ := hW
  have hA : DataW.TrodAll enc Try.prog W 0 (fun _ => true) true Try.f3.params.toList args.toList ds p := hA0
  rw [Try.params3] at hA hval
  obtain ⟨v0, vs0, d0, ds0, p0, q0, hargs, rfl, rfl, h0, r0⟩ := trodAll_cons hA
  obtain ⟨v1, vs1, d1, ds1, p1, q1, rfl, rfl, rfl, h1, r1⟩ := trodAll_cons r0
  obtain ⟨rfl, rfl, rfl⟩ := trodAll_nil r1
  obtain rfl : args = #[v0, v1] := by cases args; simp_all
  obtain ⟨rfl, rfl⟩ := trodVars_none hV
  obtain ⟨a0, len0, cap0, rfl⟩ := okWide_slice Try.underlying22 (hval 0 22 v0 rfl rfl)
  have k0 := h0
  have lt0 : ∀ x ∈ p0, x.block < W.heap.size := by obtain ⟨m, hm⟩ := k0; exact DataW.trod_lt m _ _ _ hm
  obtain ⟨z0, w0⟩ : ∃ zs, IsRow .u8 W a0 len0 cap0 zs := by
    obtain ⟨fuel, hf⟩ := h0
    rcases open_ints Try.underlying22 Try.underlying5 (by kernel_rfl) hf with ⟨hcs, _⟩ | ⟨x, l, c, zs, hcs, _, hl, hm, hz, _, hcell, hwz⟩
    · simp [Value.cells] at hcs
      obtain ⟨rfl, rfl, rfl⟩ := hcs
      exact ⟨[], .inl ⟨rfl, rfl, rfl, rfl⟩⟩
    · simp [Value.cells] at hcs
      obtain ⟨rfl, rfl, rfl⟩ := hcs
      exact ⟨zs, .inr ⟨_, rfl, hl, hm, by simpa using hz, hcell, hwz⟩⟩
  obtain ⟨a1, len1, cap1, rfl⟩ := okWide_slice Try.underlying22 (hval 1 22 v1 rfl rfl)
  have k1 := h1
  have lt1 : ∀ x ∈ p1, x.block < W.heap.size := by obtain ⟨m, hm⟩ := k1; exact DataW.trod_lt m _ _ _ hm
  obtain ⟨z1, w1⟩ : ∃ zs, IsRow .u8 W a1 len1 cap1 zs := by
    obtain ⟨fuel, hf⟩ := h1
    rcases open_ints Try.underlying22 Try.underlying5 (by kernel_rfl) hf with ⟨hcs, _⟩ | ⟨x, l, c, zs, hcs, _, hl, hm, hz, _, hcell, hwz⟩
    · simp [Value.cells] at hcs
      obtain ⟨rfl, rfl, rfl⟩ := hcs
      exact ⟨[], .inl ⟨rfl, rfl, rfl, rfl⟩⟩
    · simp [Value.cells] at hcs
      obtain ⟨rfl, rfl, rfl⟩ := hcs
      exact ⟨zs, .inr ⟨_, rfl, hl, hm, by simpa using hz, hcell, hwz⟩⟩
  clear hA0 hval0
  refine (walk a0 len0 cap0 z0 a1 len1 cap1 z1 W w0 w1).mono fun e W' ⟨he, bel⟩ => ?_
  subst he
  exact ⟨_, rfl, _, _, _, [], _, [], hW', trodAll_mk1 (shut_bool Try.underlying4 _), (trodAll_cons_mk (Below.trod laidOut (by kernel_rfl) (of_decide_eq_true (by kernel_rfl)) k0 bel lt0) (trodAll_cons_mk (Below.trod laidOut (by kernel_rfl) (of_decide_eq_true (by kernel_rfl)) k1 bel lt1) trodAll_mk0)), rfl, bel.frame _, fun h => by cases h⟩

theorem over : Rows.fnCurveRow.holds Try.pinned (OpenSpec.ofChange Rows.fnCurveSpec) :=
  OpenClaim.holds_of_wide 3 Try.f3 rfl rfl rfl rfl rfl rfl rfl ⟨rfl, rfl, rfl, rfl, rfl⟩ rfl rfl rfl rfl rfl (by kernel_rfl) Try.func3 (by kernel_rfl)
    (of_decide_eq_true (by kernel_rfl)) (by unfold Func.isWrapper; first | (rw [if_pos (by decide +kernel)]; kernel_rfl) | (rw [if_neg (by decide +kernel)]; exact ⟨rfl, rfl⟩))
    (fun os started H enc _ => lifted os started H enc)

/-- ████ THE STATEMENT ████ -/
theorem proved : Rows.FnCurveSaid := over
#print axioms proved
end Go.Proofs.Ythpfehjjaamkkaa.fnCurve
