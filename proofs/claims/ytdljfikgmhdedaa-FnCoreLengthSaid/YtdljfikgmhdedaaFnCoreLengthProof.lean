/- For every input, the law FnCoreLength of the given statements returns true over the program at this commit, and its arguments read afterwards as before: no condition. -/
import Derived.Test.YtdljfikgmhdedaaRows
import Derived.Test.YtdljfikgmhdedaaLive
import Derived.Test.YtdljfikgmhdedaaSub
import Derived.WalkKit
import Derived.ProofKit
import Derived.OpenShut
import Derived.ShutString
import Derived.ChangeOld
import Derived.Below
namespace Go.Proofs.Ytdljfikgmhdedaa.fnCoreLength
open Go.ChangeShapes Go.WideShapes Go.ChangeAt Go.RowKit
open Go.ChangeMaps (open_string shut_string)
set_option linter.unusedVariables false

theorem own : ownKnob Try.prog.godebug = none := by kernel_rfl
theorem laidOut : laidOutB Try.prog = true := by kernel_rfl

/-- WHAT THE WALK IS TOLD OF A SLICE OF INTEGERS THAT CAME IN: it is nil; or it leads to a row of 'cap' cells, the numbers 'zs' (the first 'len' are its elements, the rest its spare room), each fitting its kind. -/
def IsRow (k : IntKind) (w : World) (a : Option Addr) (len cap : Nat) (zs : List Int) : Prop :=
  (a = none ∧ len = 0 ∧ cap = 0 ∧ zs = []) ∨
  ∃ x, a = some x ∧ len ≤ cap ∧ cap ≤ maxLen ∧ zs.length = cap ∧ (∀ i, i < zs.length → w.cell? (x.add i) = some (.int k (zs.getD i 0))) ∧ ∀ n ∈ zs, (Lit.int k n).wf = true

structure HeldR (w w' : World) (v1 v2 v3 : Value) (l1 l2 l3 : List Pc) : Prop where
  a : Row w' v1 l1
  b : Row w' v2 l2
  c : Row w' v3 l3
  d : Below w.heap.size w w'
theorem len_whole {l : List Pc} (h : V 0 l) (h0 : 0 < l.length) : len l + len (gaps l) = (l[l.length - 1]'(by omega)).2 - l[0].1 := by
  cases l with
  | nil => simp at h0
  | cons p r =>
    have := lastB_get (e := 0) (l := p :: r) h0
    rw [gaps_len h, ← this]
    rfl
theorem HeldR.next {w w' w'' : World} {v1 v2 v3 : Value} {l1 l2 l3 : List Pc} (h : HeldR w w' v1 v2 v3 l1 l2 l3) (k : Below w'.heap.size w' w'') : HeldR w w'' v1 v2 v3 l1 l2 l3 :=
  ⟨h.a.grow k, h.b.grow k, h.c.grow k, h.d.trans (k.mono h.d.size)⟩
theorem HeldR.drew {w w' : World} {v1 v2 v3 : Value} {l1 l2 l3 : List Pc} (h : HeldR w w' v1 v2 v3 l1 l2 l3) : HeldR w w'.drew v1 v2 v3 l1 l2 l3 :=
  h.next (Below.refl _ _).drew
set_option maxRecDepth 100000 in
set_option maxHeartbeats 3200000 in
theorem walk (a0 : Option Addr) (len0 cap0 : Nat) (z0 : List Int) (a1 : Option Addr) (len1 cap1 : Nat) (z1 : List Int) (w : World) (w0 : IsRow .u8 w a0 len0 cap0 z0) (w1 : IsRow .u8 w a1 len1 cap1 z1) :
    Calls Try.prog 4 #[.slice a0 len0 cap0, .slice a1 len1 cap1] w fun e w' => e = .returned (.bool true) ∧ Below w.heap.size w w' := by
  have hB := bytes_of w0
  have hB1 := bytes_len (bytes_of w1)
  unfold maxLen at hB1
  by_cases hl : 1048576 < len0
  · have hdec : decide (1048576 < len0) = true := by simpa using hl
    go_enter Try.func4, Try.ntmps4
    go_wp2_with fail
    go_ret
    exact ⟨rfl, Below.refl _ _⟩
  have hdec : decide (1048576 < len0) = false := by simpa using hl
  by_cases hl1 : 1048576 < len1
  · go_enter Try.func4, Try.ntmps4
    go_wp2_with fail
    go_ret
    exact ⟨rfl, Below.refl _ _⟩
  have hm : len0 ≤ 1048576 := by omega
  have hm1 : len1 ≤ 1048576 := by omega
  clear hB1
  go_enter Try.func4, Try.ntmps4
  go_wp2_with fail
  refine (DrawCoreLength_any hB).mono ?_
  rintro e u1 ⟨v, l, rfl, ho, hbd, b1⟩
  clear w0 w1 hB
  have OWN := Lib.hid ho
  have R := Lib.hid ho.row
  have BD := Lib.hid hbd
  have B := Lib.hid b1
  clear ho hbd b1
  have hl30 : l.length ≤ 30 := BD.out.1
  have hub := B.out.size
  obtain ⟨x, hx⟩ : ∃ x, lenOf l = x := ⟨_, rfl⟩
  have HX := Lib.hid hx
  clear hx
  by_cases h0 : x < 0
  · skip
    go_wp2_with fail
    refine (val_is (implCoreLength_any R.out) (show _ = Value.int .i64 x by rw [HX.out])).mono ?_
    rintro e u2 ⟨rfl, b2⟩
    replace R := Lib.hid (R.out.grow b2)
    replace B := Lib.hid (B.out.trans (b2.mono B.out.size))
    clear b2
    go_wp2_with fail
    refine (val_is (specCoreLength_any R.out) (show _ = Value.int .i64 x by rw [HX.out])).mono ?_
    rintro e u3 ⟨rfl, b3⟩
    replace R := Lib.hid (R.out.grow b3)
    replace B := Lib.hid (B.out.trans (b3.mono B.out.size))
    clear b3
    go_wp2_with fail
    go_ret
    exact ⟨by simp, B.out⟩
  have CC := lenOf_core (l := l) (by rw [HX.out]; omega)
  have CL := Lib.hid CC.1
  have LX : Hid (len l = x) := Lib.hid (by rw [← CC.2, HX.out])
  clear CC
  by_cases hl0 : 0 < l.length
  rotate_left
  · have hle : l = [] := List.eq_nil_of_length_eq_zero (by omega)
    subst hle
    obtain rfl : x = 0 := by rw [← LX.out]; rfl
    have hmod : (len1 : Int) % 1 = 0 := by omega
    clear h0 hl0
    rcases OWN.out.none_or with rfl | ⟨g, c, rfl, hc2⟩
    · skip
      go_wp2_with fail
      refine (val_is (implCoreLength_any R.out) (show _ = Value.int .i64 0 by rw [HX.out])).mono ?_
      rintro e u4 ⟨rfl, b4⟩
      replace R := Lib.hid (R.out.grow b4)
      replace B := Lib.hid (B.out.trans (b4.mono B.out.size))
      clear b4
      go_wp2_with fail
      refine (val_is (specCoreLength_any R.out) (show _ = Value.int .i64 0 by rw [HX.out])).mono ?_
      rintro e u5 ⟨rfl, b5⟩
      replace R := Lib.hid (R.out.grow b5)
      replace B := Lib.hid (B.out.trans (b5.mono B.out.size))
      clear b5
      go_wp2_with fail
      go_region_held3 (fun w' => Below w.heap.size w w') (first | exact B.out | exact B.out.drew | exact Below.trans (by assumption) (b6.mono (Below.size (by assumption)))) (first | (go_at_call 16; refine (val_is (implCoreLength_any (row_empty none (c := 0) (Nat.zero_le _))) (show _ = Value.int .i64 0 from by rw [lenOf_is rfl]; rfl)).mono ?_; rintro e u6 ⟨rfl, b6⟩) | fail)
      go_wp2_with fail
      go_ret
      exact ⟨by first | rfl | simp, by assumption⟩
    · skip
      unfold maxLen at hc2
      go_wp2_with fail
      refine (val_is (implCoreLength_any R.out) (show _ = Value.int .i64 0 by rw [HX.out])).mono ?_
      rintro e u7 ⟨rfl, b7⟩
      replace R := Lib.hid (R.out.grow b7)
      replace B := Lib.hid (B.out.trans (b7.mono B.out.size))
      clear b7
      go_wp2_with fail
      refine (val_is (specCoreLength_any R.out) (show _ = Value.int .i64 0 by rw [HX.out])).mono ?_
      rintro e u8 ⟨rfl, b8⟩
      replace R := Lib.hid (R.out.grow b8)
      replace B := Lib.hid (B.out.trans (b8.mono B.out.size))
      clear b8
      go_wp2_with fail
      go_region_held3 (fun w' => Below w.heap.size w w') (first | exact B.out | exact B.out.drew | exact Below.trans (by assumption) (b9.mono (Below.size (by assumption)))) (first | (go_at_call 16; refine (val_is (implCoreLength_any (row_empty (some ⟨g, 0, none⟩) (c := c) (by unfold maxLen; omega))) (show _ = Value.int .i64 0 from by rw [lenOf_is rfl]; rfl)).mono ?_; rintro e u9 ⟨rfl, b9⟩) | fail)
      go_wp2_with fail
      go_ret
      exact ⟨by first | rfl | simp, by assumption⟩
  obtain ⟨g, o, c, rfl, hc1, hc2⟩ := R.out.known hl0
  unfold maxLen at hc2
  obtain ⟨q, hq⟩ : ∃ q : Nat, q = len1 % (l.length + 1) := ⟨_, rfl⟩
  have hql : q ≤ l.length := by have := Nat.mod_lt len1 (show 0 < l.length + 1 by omega); omega
  have hmod : (len1 : Int) % ((l.length : Int) + 1) = (q : Int) := by rw [hq]; simp
  clear hq
  go_wp2_with fail
  refine (val_is (implCoreLength_any R.out) (show _ = Value.int .i64 x by rw [HX.out])).mono ?_
  rintro e u10 ⟨rfl, b10⟩
  replace R := Lib.hid (R.out.grow b10)
  replace B := Lib.hid (B.out.trans (b10.mono B.out.size))
  clear b10
  go_wp2_with fail
  refine (val_is (specCoreLength_any R.out) (show _ = Value.int .i64 x by rw [HX.out])).mono ?_
  rintro e u11 ⟨rfl, b11⟩
  replace R := Lib.hid (R.out.grow b11)
  replace B := Lib.hid (B.out.trans (b11.mono B.out.size))
  clear b11
  have RT := Lib.hid (R.out.take q hql)
  obtain ⟨y, hy⟩ : ∃ y, len (l.take q) = y := ⟨_, rfl⟩
  obtain ⟨z, hz⟩ : ∃ z, len (l.drop q) = z := ⟨_, rfl⟩
  have YZ : y + z = x := by rw [← hy, ← hz, len_take_drop, LX.out]
  have HY : Hid (lenOf (l.take q) = y) := Lib.hid (by rw [lenOf_is (isCore_take CL.out q), hy])
  have HZ : Hid (lenOf (l.drop q) = z) := Lib.hid (by rw [lenOf_is (isCore_drop CL.out q), hz])
  clear hy hz
  have hv := (isCore_iff.1 CL.out).2
  obtain ⟨f1, f2, f3⟩ := hv.get 0 hl0
  obtain ⟨e1, e2, e3⟩ := hv.get (l.length - 1) (by omega)
  obtain ⟨gz, hgz⟩ : ∃ gz, len (gaps l) = gz := ⟨_, rfl⟩
  have GZ : Hid (lenOf (gaps l) = gz) := Lib.hid (by rw [lenOf_is (gaps_core CL.out), hgz])
  have hsum : x + gz = l[l.length - 1].2 - l[0].1 := by rw [← LX.out, ← hgz]; exact len_whole hv hl0
  have hge : (l.length : Int) ≤ x := by rw [← LX.out]; exact len_ge hv
  have hgz0 : 0 ≤ gz := by rw [← hgz]; have := len_ge (gaps_V hv); omega
  have hx3 : x ≤ 30000 := by omega
  have hwx : IntKind.i64.wrap x = x := IntWalk.i64_in _ (by omega)
  have hwg : IntKind.i64.wrap (x + gz) = x + gz := IntWalk.i64_in _ (by omega)
  have hws : IntKind.i64.wrap (l[l.length - 1].2 - l[0].1) = l[l.length - 1].2 - l[0].1 := IntWalk.i64_in _ (by omega)
  have hz0 : ((l.length : Int) == 0) = false := by rw [beq_eq_false_iff_ne]; omega
  have HS := Lib.hid hsum
  clear hv hgz hsum
  by_cases hqc : q = c
  · obtain rfl : q = l.length := by omega
    subst hqc
    have RD : Hid (Row u11 (.slice (some ⟨g, o, none⟩) 0 0) (l.drop l.length)) := Lib.hid (by rw [List.drop_length]; exact row_empty _ (Nat.zero_le _))
    have K0 : HeldR w u11 (.slice (some ⟨g, o, none⟩) l.length l.length) (.slice (some ⟨g, o, none⟩) 0 0) (.slice (some ⟨g, o, none⟩) l.length l.length) (l.take l.length) (l.drop l.length) l := ⟨RT.out, RD.out, R.out, B.out⟩
    have K1 := K0.drew
    clear RT RD R B
    go_wp2_with fail
    go_region_held3 (fun w' => HeldR w w' (.slice (some ⟨g, o, none⟩) l.length l.length) (.slice (some ⟨g, o, none⟩) 0 0) (.slice (some ⟨g, o, none⟩) l.length l.length) (l.take l.length) (l.drop l.length) l) (first | exact K0 | exact K1 | exact HeldR.next (by assumption) b12 | exact HeldR.next (by assumption) b13) (first | (go_at_call 16; refine (val_is (implCoreLength_any (HeldR.a (w := w) (v2 := (.slice (some ⟨g, o, none⟩) 0 0)) (v3 := (.slice (some ⟨g, o, none⟩) l.length l.length)) (l1 := l.take l.length) (l2 := l.drop l.length) (l3 := l) (by assumption))) (show _ = Value.int .i64 y by rw [HY.out])).mono ?_; rintro e u12 ⟨rfl, b12⟩) | (go_at_call 16; refine (val_is (implCoreLength_any (HeldR.b (w := w) (v1 := (.slice (some ⟨g, o, none⟩) l.length l.length)) (v3 := (.slice (some ⟨g, o, none⟩) l.length l.length)) (l1 := l.take l.length) (l2 := l.drop l.length) (l3 := l) (by assumption))) (show _ = Value.int .i64 z by rw [HZ.out])).mono ?_; rintro e u13 ⟨rfl, b13⟩))
    have HF : HeldR w u13 (.slice (some ⟨g, o, none⟩) l.length l.length) (.slice (some ⟨g, o, none⟩) 0 0) (.slice (some ⟨g, o, none⟩) l.length l.length) (l.take l.length) (l.drop l.length) l := by assumption
    have R := Lib.hid HF.c
    have B := Lib.hid HF.d
    clear HF K0 K1 b12 b13
    go_wp2_with fail
    refine (lst_is (implCoreGaps_any R.out) (gapsOf_is CL.out)).mono ?_
    rintro e u14 ⟨v14, rfl, r14, b14⟩
    replace R := Lib.hid (R.out.grow b14)
    replace B := Lib.hid (B.out.trans (b14.mono B.out.size))
    have R1 := Lib.hid r14
    clear r14
    clear b14
    go_wp2_with fail
    refine (val_is (implCoreLength_any R1.out) (show _ = Value.int .i64 gz by rw [GZ.out])).mono ?_
    rintro e u15 ⟨rfl, b15⟩
    replace R := Lib.hid (R.out.grow b15)
    replace R1 := Lib.hid (R1.out.grow b15)
    replace B := Lib.hid (B.out.trans (b15.mono B.out.size))
    clear b15
    obtain ⟨d1, d2⟩ := R.out.cells 0 hl0
    simp only [Nat.zero_mul, Nat.add_zero] at d1 d2
    obtain ⟨d3, d4⟩ := R.out.cells (l.length - 1) (by omega)
    go_wp2_with fail
    go_quiet (fail)
    go_wp2_with fail
    go_ret
    exact ⟨by simp [HS.out], below_drewN B.out _⟩
  have hqc1 : q ≤ c := by omega
  have RD : Hid (Row u11 (.slice (some ⟨g, o + q * 2, none⟩) (l.length - q) (c - q)) (l.drop q)) := Lib.hid (R.out.drop q hql)
  have K0 : HeldR w u11 (.slice (some ⟨g, o, none⟩) q c) (.slice (some ⟨g, o + q * 2, none⟩) (l.length - q) (c - q)) (.slice (some ⟨g, o, none⟩) l.length c) (l.take q) (l.drop q) l := ⟨RT.out, RD.out, R.out, B.out⟩
  have K1 := K0.drew
  clear RT RD R B
  go_wp2_with fail
  go_region_held3 (fun w' => HeldR w w' (.slice (some ⟨g, o, none⟩) q c) (.slice (some ⟨g, o + q * 2, none⟩) (l.length - q) (c - q)) (.slice (some ⟨g, o, none⟩) l.length c) (l.take q) (l.drop q) l) (first | exact K0 | exact K1 | exact HeldR.next (by assumption) b12 | exact HeldR.next (by assumption) b13) (first | (go_at_call 16; refine (val_is (implCoreLength_any (HeldR.a (w := w) (v2 := (.slice (some ⟨g, o + q * 2, none⟩) (l.length - q) (c - q))) (v3 := (.slice (some ⟨g, o, none⟩) l.length c)) (l1 := l.take q) (l2 := l.drop q) (l3 := l) (by assumption))) (show _ = Value.int .i64 y by rw [HY.out])).mono ?_; rintro e u12 ⟨rfl, b12⟩) | (go_at_call 16; refine (val_is (implCoreLength_any (HeldR.b (w := w) (v1 := (.slice (some ⟨g, o, none⟩) q c)) (v3 := (.slice (some ⟨g, o, none⟩) l.length c)) (l1 := l.take q) (l2 := l.drop q) (l3 := l) (by assumption))) (show _ = Value.int .i64 z by rw [HZ.out])).mono ?_; rintro e u13 ⟨rfl, b13⟩))
  have HF : HeldR w u13 (.slice (some ⟨g, o, none⟩) q c) (.slice (some ⟨g, o + q * 2, none⟩) (l.length - q) (c - q)) (.slice (some ⟨g, o, none⟩) l.length c) (l.take q) (l.drop q) l := by assumption
  have R := Lib.hid HF.c
  have B := Lib.hid HF.d
  clear HF K0 K1 b12 b13
  go_wp2_with fail
  refine (lst_is (implCoreGaps_any R.out) (gapsOf_is CL.out)).mono ?_
  rintro e u14 ⟨v14, rfl, r14, b14⟩
  replace R := Lib.hid (R.out.grow b14)
  replace B := Lib.hid (B.out.trans (b14.mono B.out.size))
  have R1 := Lib.hid r14
  clear r14
  clear b14
  go_wp2_with fail
  refine (val_is (implCoreLength_any R1.out) (show _ = Value.int .i64 gz by rw [GZ.out])).mono ?_
  rintro e u15 ⟨rfl, b15⟩
  replace R := Lib.hid (R.out.grow b15)
  replace R1 := Lib.hid (R1.out.grow b15)
  replace B := Lib.hid (B.out.trans (b15.mono B.out.size))
  clear b15
  obtain ⟨d1, d2⟩ := R.out.cells 0 hl0
  simp only [Nat.zero_mul, Nat.add_zero] at d1 d2
  obtain ⟨d3, d4⟩ := R.out.cells (l.length - 1) (by omega)
  go_wp2_with fail
  go_quiet (fail)
  go_wp2_with fail
  go_ret
  exact ⟨by simp [HS.out], below_drewN B.out _⟩

set_option maxRecDepth 100000 in
theorem lifted (os : Os) (started : os.Started) (H : Type) (enc : TypeId × Value → H) :
    ReturnsInHanded {} Try.checked os 4 .any (Rows.fnCoreLengthSpec.pre6 enc Try.prog Try.f4 Rows.fnCoreLengthRow.domain false) (Rows.fnCoreLengthSpec.post enc Try.prog Try.f4 false true false false) := by
  refine returnsInHanded_of_change (C := Try.checked) own started (by kernel_rfl) Try.func4
    (ChangeSpec.witness6 (enc := enc) (C := Try.checked) false ⟨#[], #[.slice none 0 0, .slice none 0 0], []⟩ 8 (by kernel_rfl) (by kernel_rfl) (by kernel_rfl) (by kernel_rfl)) ?_
  intro W base args ds gs before hval0 hW hcnd _
  have hval : ∀ (j : Nat) t v, Try.f4.params[j]? = some t → args[j]? = some v → Value.okWide Try.prog W .any base t v := hval0
  have hW' := hW
  obtain ⟨p, q, hA0, hV, rfl, hfz, hnd⟩ := hW
  have hA : DataW.TrodAll enc Try.prog W 0 (fun _ => true) true Try.f4.params.toList args.toList ds p := hA0
  rw [Try.params4] at hA hval
  obtain ⟨v0, vs0, d0, ds0, p0, q0, hargs, rfl, rfl, h0, r0⟩ := trodAll_cons hA
  obtain ⟨v1, vs1, d1, ds1, p1, q1, rfl, rfl, rfl, h1, r1⟩ := trodAll_cons r0
  obtain ⟨rfl, rfl, rfl⟩ := trodAll_nil r1
  obtain rfl : args = #[v0, v1] := by cases args; simp_all
  obtain ⟨rfl, rfl⟩ := trodVars_none hV
  obtain ⟨a0, len0, cap0, rfl⟩ := okWide_slice Try.underlying22 (hval 0 22 v0 rfl rfl)
  have k0 := h0
  have lt0 : ∀ x ∈ p0, x.block < W.heap.size := by obtain ⟨m, hm⟩ := k0; exact DataW.trod_lt m _ _ _ hm
  obtain ⟨z0, w0⟩ : ∃ zs, IsRow .u8 W a0 len0 cap0 zs := by
    obtain ⟨fuel, hf⟩ := h0
    rcases open_ints Try.underlying22 Try.underlying5 (by kernel_rfl) hf with ⟨hcs, _⟩ | ⟨x, l, c, zs, hcs, _, hl, hm, hz, _, hcell, hwz⟩
    · simp [Value.cells] at hcs
      obtain ⟨rfl, rfl, rfl⟩ := hcs
      exact ⟨[], .inl ⟨rfl, rfl, rfl, rfl⟩⟩
    · simp [Value.cells] at hcs
      obtain ⟨rfl, rfl, rfl⟩ := hcs
      exact ⟨zs, .inr ⟨_, rfl, hl, hm, by simpa using hz, hcell, hwz⟩⟩
  obtain ⟨a1, len1, cap1, rfl⟩ := okWide_slice Try.underlying22 (hval 1 22 v1 rfl rfl)
  have k1 := h1
  have lt1 : ∀ x ∈ p1, x.block < W.heap.size := by obtain ⟨m, hm⟩ := k1; exact DataW.trod_lt m _ _ _ hm
  obtain ⟨z1, w1⟩ : ∃ zs, IsRow .u8 W a1 len1 cap1 zs := by
    obtain ⟨fuel, hf⟩ := h1
    rcases open_ints Try.underlying22 Try.underlying5 (by kernel_rfl) hf with ⟨hcs, _⟩ | ⟨x, l, c, zs, hcs, _, hl, hm, hz, _, hcell, hwz⟩
    · simp [Value.cells] at hcs
      obtain ⟨rfl, rfl, rfl⟩ := hcs
      exact ⟨[], .inl ⟨rfl, rfl, rfl, rfl⟩⟩
    · simp [Value.cells] at hcs
      obtain ⟨rfl, rfl, rfl⟩ := hcs
      exact ⟨zs, .inr ⟨_, rfl, hl, hm, by simpa using hz, hcell, hwz⟩⟩
  clear hA0 hval0
  refine (walk a0 len0 cap0 z0 a1 len1 cap1 z1 W w0 w1).mono fun e W' ⟨he, bel⟩ => ?_
  subst he
  exact ⟨_, rfl, _, _, _, [], _, [], hW', trodAll_mk1 (shut_bool Try.underlying4 _), (trodAll_cons_mk (Below.trod laidOut (by kernel_rfl) (of_decide_eq_true (by kernel_rfl)) k0 bel lt0) (trodAll_cons_mk (Below.trod laidOut (by kernel_rfl) (of_decide_eq_true (by kernel_rfl)) k1 bel lt1) trodAll_mk0)), rfl, bel.frame _, fun h => by cases h⟩

theorem over : Rows.fnCoreLengthRow.holds Try.pinned (OpenSpec.ofChange Rows.fnCoreLengthSpec) :=
  OpenClaim.holds_of_wide 4 Try.f4 rfl rfl rfl rfl rfl rfl rfl ⟨rfl, rfl, rfl, rfl, rfl⟩ rfl rfl rfl rfl rfl (by kernel_rfl) Try.func4 (by kernel_rfl)
    (of_decide_eq_true (by kernel_rfl)) (by unfold Func.isWrapper; first | (rw [if_pos (by decide +kernel)]; kernel_rfl) | (rw [if_neg (by decide +kernel)]; exact ⟨rfl, rfl⟩))
    (fun os started H enc _ => lifted os started H enc)

/-- ████ THE STATEMENT ████ -/
theorem proved : Rows.FnCoreLengthSaid := over
#print axioms proved
end Go.Proofs.Ytdljfikgmhdedaa.fnCoreLength
