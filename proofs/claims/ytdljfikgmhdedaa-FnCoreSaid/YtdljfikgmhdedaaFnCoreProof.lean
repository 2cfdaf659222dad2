/- For every input, the law FnCore of the given statements returns true over the program at this commit, and its arguments read afterwards as before: no condition. -/
import Derived.Test.YtdljfikgmhdedaaRows
import Derived.Test.YtdljfikgmhdedaaLive
import Derived.Test.YtdljfikgmhdedaaSub
import Derived.WalkKit
import Derived.ProofKit
import Derived.OpenShut
import Derived.ShutString
import Derived.ChangeOld
import Derived.Below
namespace Go.Proofs.Ytdljfikgmhdedaa.fnCore
open Go.ChangeShapes Go.WideShapes Go.ChangeAt Go.RowKit
open Go.ChangeMaps (open_string shut_string)
set_option linter.unusedVariables false

theorem own : ownKnob Try.prog.godebug = none := by kernel_rfl
theorem laidOut : laidOutB Try.prog = true := by kernel_rfl

/-- WHAT THE WALK IS TOLD OF A SLICE OF INTEGERS THAT CAME IN: it is nil; or it leads to a row of 'cap' cells, the numbers 'zs' (the first 'len' are its elements, the rest its spare room), each fitting its kind. -/
def IsRow (k : IntKind) (w : World) (a : Option Addr) (len cap : Nat) (zs : List Int) : Prop :=
  (a = none ∧ len = 0 ∧ cap = 0 ∧ zs = []) ∨
  ∃ x, a = some x ∧ len ≤ cap ∧ cap ≤ maxLen ∧ zs.length = cap ∧ (∀ i, i < zs.length → w.cell? (x.add i) = some (.int k (zs.getD i 0))) ∧ ∀ n ∈ zs, (Lit.int k n).wf = true

set_option maxRecDepth 100000 in
set_option maxHeartbeats 1600000 in
theorem walk (a0 : Option Addr) (len0 cap0 : Nat) (z0 : List Int) (a1 : Option Addr) (len1 cap1 : Nat) (z1 : List Int) (w : World) (w0 : IsRow .u8 w a0 len0 cap0 z0) (w1 : IsRow .u8 w a1 len1 cap1 z1) :
    Calls Try.prog 3 #[.slice a0 len0 cap0, .slice a1 len1 cap1] w fun e w' => e = .returned (.bool true) ∧ Below w.heap.size w w' := by
  have hB := bytes_of w0
  have hB1 := bytes_len (bytes_of w1)
  unfold maxLen at hB1
  by_cases hl : 1048576 < len0
  · have hdec : decide (1048576 < len0) = true := by simpa using hl
    go_enter Try.func3, Try.ntmps3
    go_wp2_with fail
    go_ret
    exact ⟨rfl, Below.refl _ _⟩
  have hdec : decide (1048576 < len0) = false := by simpa using hl
  by_cases hl1 : 1048576 < len1
  · go_enter Try.func3, Try.ntmps3
    go_wp2_with fail
    go_ret
    exact ⟨rfl, Below.refl _ _⟩
  have hm : len0 ≤ 1048576 := by omega
  have hm1 : len1 ≤ 1048576 := by omega
  clear hB1
  go_enter Try.func3, Try.ntmps3
  go_wp2_with fail
  refine (DrawCoreValid_any hB).mono ?_
  rintro e u1 ⟨v, l, rfl, ho, hbd, b1⟩
  clear w0 w1 hB
  have OWN := Lib.hid ho
  have R := Lib.hid ho.row
  have BD := Lib.hid hbd
  have B := Lib.hid b1
  clear ho hbd b1
  have hl30 : l.length ≤ 30 := BD.out.1
  have hub := B.out.size
  cases hv : isCore l
  · have HV := Lib.hid hv
    clear hv
    go_wp2_with fail
    refine (val_is (implCoreValid_any R.out) (show _ = Value.bool false by rw [HV.out])).mono ?_
    rintro e u2 ⟨rfl, b2⟩
    replace R := Lib.hid (R.out.grow b2)
    replace B := Lib.hid (B.out.trans (b2.mono B.out.size))
    clear b2
    go_wp2_with fail
    refine (val_is (specCoreValid_any R.out) (show _ = Value.bool false by rw [HV.out])).mono ?_
    rintro e u3 ⟨rfl, b3⟩
    replace R := Lib.hid (R.out.grow b3)
    replace B := Lib.hid (B.out.trans (b3.mono B.out.size))
    clear b3
    go_wp2_with fail
    go_ret
    exact ⟨by simp, B.out⟩
  have HV := Lib.hid hv
  clear hv
  by_cases h0 : 0 < l.length
  rotate_left
  · have hl0 : l = [] := List.eq_nil_of_length_eq_zero (by omega)
    subst hl0
    have hmod : (len1 : Int) % 1 = 0 := by omega
    clear h0
    rcases OWN.out.none_or with rfl | ⟨g, c, rfl, hc2⟩
    · skip
      go_wp2_with fail
      refine (val_is (implCoreValid_any R.out) (show _ = Value.bool true by rw [HV.out])).mono ?_
      rintro e u4 ⟨rfl, b4⟩
      replace R := Lib.hid (R.out.grow b4)
      replace B := Lib.hid (B.out.trans (b4.mono B.out.size))
      clear b4
      go_wp2_with fail
      refine (val_is (specCoreValid_any R.out) (show _ = Value.bool true by rw [HV.out])).mono ?_
      rintro e u5 ⟨rfl, b5⟩
      replace R := Lib.hid (R.out.grow b5)
      replace B := Lib.hid (B.out.trans (b5.mono B.out.size))
      clear b5
      have OW := Lib.hid (own_new (w := u5) (B := u5.heap.size) (Nat.le_refl _))
      have BA := Lib.hid ((Below.refl u5.heap.size u5).alloc (Nat.le_refl _) (.cells #[] 27))
      go_wp2_with (at_builtin; refine append_none rfl _ _ rfl _ [] rfl OW.out rfl ?_; replace R := Lib.hid (R.out.grow BA.out); replace B := Lib.hid (B.out.trans (BA.out.mono B.out.size)); have RW := Lib.hid OW.out.row)
      go_wp2_with fail
      refine (val_is (implCoreValid_any (row_empty none (c := 0) (Nat.zero_le _))) (show _ = Value.bool true from rfl)).mono ?_
      rintro e u6 ⟨rfl, b6⟩
      replace R := Lib.hid (R.out.grow b6)
      replace RW := Lib.hid (RW.out.grow b6)
      replace B := Lib.hid (B.out.trans (b6.mono B.out.size))
      clear b6
      go_wp2_with fail
      refine (val_is (implCoreValid_any (row_empty none (c := 0) (Nat.zero_le _))) (show _ = Value.bool true from rfl)).mono ?_
      rintro e u7 ⟨rfl, b7⟩
      replace R := Lib.hid (R.out.grow b7)
      replace RW := Lib.hid (RW.out.grow b7)
      replace B := Lib.hid (B.out.trans (b7.mono B.out.size))
      clear b7
      go_wp2_with fail
      refine (val_is (implCoreValid_any RW.out) (show _ = Value.bool true from rfl)).mono ?_
      rintro e u8 ⟨rfl, b8⟩
      replace R := Lib.hid (R.out.grow b8)
      replace RW := Lib.hid (RW.out.grow b8)
      replace B := Lib.hid (B.out.trans (b8.mono B.out.size))
      clear b8
      go_wp2_with fail
      go_ret
      exact ⟨by simp, B.out⟩
    · skip
      unfold maxLen at hc2
      go_wp2_with fail
      refine (val_is (implCoreValid_any R.out) (show _ = Value.bool true by rw [HV.out])).mono ?_
      rintro e u9 ⟨rfl, b9⟩
      replace R := Lib.hid (R.out.grow b9)
      replace B := Lib.hid (B.out.trans (b9.mono B.out.size))
      clear b9
      go_wp2_with fail
      refine (val_is (specCoreValid_any R.out) (show _ = Value.bool true by rw [HV.out])).mono ?_
      rintro e u10 ⟨rfl, b10⟩
      replace R := Lib.hid (R.out.grow b10)
      replace B := Lib.hid (B.out.trans (b10.mono B.out.size))
      clear b10
      have OW := Lib.hid (own_new (w := u10) (B := u10.heap.size) (Nat.le_refl _))
      have BA := Lib.hid ((Below.refl u10.heap.size u10).alloc (Nat.le_refl _) (.cells #[] 27))
      go_wp2_with (at_builtin; refine append_list rfl _ _ rfl (B := u10.heap.size) _ [] rfl OW.out ⟨g, 0, none⟩ 0 _ [] rfl rfl (fun j u hu => by simp [cells2] at hu) (by simp) (by simp) ?_; intro va wa hown2 hg2; have RW := Lib.hid (Own.row (l := []) hown2); have BK := Lib.hid (keep_new hg2); clear hown2 hg2; replace R := Lib.hid (R.out.grow BK.out); replace B := Lib.hid (B.out.trans (BK.out.mono B.out.size)))
      go_wp2_with fail
      refine (val_is (implCoreValid_any (row_empty (some ⟨g, 0, none⟩) (c := c) (by unfold maxLen; omega))) (show _ = Value.bool true from rfl)).mono ?_
      rintro e u11 ⟨rfl, b11⟩
      replace R := Lib.hid (R.out.grow b11)
      replace RW := Lib.hid (RW.out.grow b11)
      replace B := Lib.hid (B.out.trans (b11.mono B.out.size))
      clear b11
      go_wp2_with fail
      refine (val_is (implCoreValid_any (row_empty (some ⟨g, 0, none⟩) (c := c) (by unfold maxLen; omega))) (show _ = Value.bool true from rfl)).mono ?_
      rintro e u12 ⟨rfl, b12⟩
      replace R := Lib.hid (R.out.grow b12)
      replace RW := Lib.hid (RW.out.grow b12)
      replace B := Lib.hid (B.out.trans (b12.mono B.out.size))
      clear b12
      go_wp2_with fail
      refine (val_is (implCoreValid_any RW.out) (show _ = Value.bool true from rfl)).mono ?_
      rintro e u13 ⟨rfl, b13⟩
      replace R := Lib.hid (R.out.grow b13)
      replace RW := Lib.hid (RW.out.grow b13)
      replace B := Lib.hid (B.out.trans (b13.mono B.out.size))
      clear b13
      go_wp2_with fail
      go_ret
      exact ⟨by simp, B.out⟩
  obtain ⟨g, o, c, rfl, hc1, hc2⟩ := R.out.known h0
  unfold maxLen at hc2
  obtain ⟨q, hq⟩ : ∃ q : Nat, q = len1 % (l.length + 1) := ⟨_, rfl⟩
  have hql : q ≤ l.length := by have := Nat.mod_lt len1 (show 0 < l.length + 1 by omega); omega
  have hmod : (len1 : Int) % ((l.length : Int) + 1) = (q : Int) := by rw [hq]; simp
  clear hq
  go_wp2_with fail
  refine (val_is (implCoreValid_any R.out) (show _ = Value.bool true by rw [HV.out])).mono ?_
  rintro e u14 ⟨rfl, b14⟩
  replace R := Lib.hid (R.out.grow b14)
  replace B := Lib.hid (B.out.trans (b14.mono B.out.size))
  clear b14
  go_wp2_with fail
  refine (val_is (specCoreValid_any R.out) (show _ = Value.bool true by rw [HV.out])).mono ?_
  rintro e u15 ⟨rfl, b15⟩
  replace R := Lib.hid (R.out.grow b15)
  replace B := Lib.hid (B.out.trans (b15.mono B.out.size))
  clear b15
  have OW := Lib.hid (own_new (w := u15) (B := u15.heap.size) (Nat.le_refl _))
  have BA := Lib.hid ((Below.refl u15.heap.size u15).alloc (Nat.le_refl _) (.cells #[] 27))
  have N1 := Lib.hid (lies_news (fun i hi => (R.out.grow BA.out).cells i hi))
  by_cases hqc : q = c
  · obtain rfl : q = l.length := by omega
    subst hqc
    go_wp2_with (first | (at_builtin; refine append_list rfl _ _ rfl (B := u15.heap.size) _ [] rfl OW.out ⟨g, o, none⟩ l.length _ l rfl rfl N1.out (by simp; omega) (by simp) ?_; intro va wa hown2 hg2; have O2 : Hid (Own wa u15.heap.size va l) := Lib.hid hown2; have BK := Lib.hid (keep_new hg2); clear hown2 hg2; have hsa := BK.out.size; have RA := Lib.hid (R.out.grow BK.out); obtain ⟨d1, d2⟩ := RA.out.cells (l.length - 1) (by omega); obtain ⟨n1, n2⟩ := new_two wa (.int .i64 l[l.length - 1].1) (.int .i64 l[l.length - 1].2) 27; have N2 := Lib.hid n1; have N3 := Lib.hid n2; clear n1 n2) | (at_builtin; refine append_piece rfl _ _ rfl (B := u15.heap.size) _ l rfl (O2.out.grow ((Below.refl _ _).alloc (Nat.le_refl _) _)) ⟨wa.heap.size, 0, none⟩ l[l.length - 1] rfl N2.out N3.out (by omega) (by simp; omega) ?_; intro vb wb hown3 hg3; have O3 := Lib.hid hown3; have Bb := Lib.hid (BK.out.trans (((Below.refl wa.heap.size wa).alloc (Nat.le_refl _) _ |>.mono hsa).trans ((O2.out.grow ((Below.refl _ _).alloc (Nat.le_refl _) _)).below hg3 (by simp; omega)))); clear hown3 hg3; have R5 := Lib.hid (R.out.grow Bb.out); have RT := Lib.hid (R5.out.take l.length (Nat.le_refl _)); have RD := Lib.hid (row_empty (w := wb) (some ⟨g, o, none⟩) (c := 0) (by unfold maxLen; omega)); have RW := Lib.hid O3.out.row; have B5 := Lib.hid (B.out.trans (Bb.out.mono B.out.size))))
    clear R B
    have B := B5; clear B5
    go_wp2_with fail
    refine (val_is (implCoreValid_any RT.out) (show _ = Value.bool true by rw [isCore_take HV.out])).mono ?_
    rintro e u16 ⟨rfl, b16⟩
    replace RT := Lib.hid (RT.out.grow b16)
    replace RD := Lib.hid (RD.out.grow b16)
    replace RW := Lib.hid (RW.out.grow b16)
    replace B := Lib.hid (B.out.trans (b16.mono B.out.size))
    clear b16
    go_wp2_with fail
    refine (val_is (implCoreValid_any RD.out) (show _ = Value.bool true by rw [show isCore [] = true from rfl])).mono ?_
    rintro e u17 ⟨rfl, b17⟩
    replace RT := Lib.hid (RT.out.grow b17)
    replace RD := Lib.hid (RD.out.grow b17)
    replace RW := Lib.hid (RW.out.grow b17)
    replace B := Lib.hid (B.out.trans (b17.mono B.out.size))
    clear b17
    go_wp2_with fail
    refine (val_is (implCoreValid_any RW.out) (show _ = Value.bool false by rw [isCore_twice h0])).mono ?_
    rintro e u18 ⟨rfl, b18⟩
    replace RT := Lib.hid (RT.out.grow b18)
    replace RD := Lib.hid (RD.out.grow b18)
    replace RW := Lib.hid (RW.out.grow b18)
    replace B := Lib.hid (B.out.trans (b18.mono B.out.size))
    clear b18
    have hz : ((l.length : Int) == 0) = false := by rw [beq_eq_false_iff_ne]; omega
    go_wp2_with fail
    go_ret
    exact ⟨by simp, B.out⟩
  have hqc2 : q < c := by omega
  go_wp2_with (first | (at_builtin; refine append_list rfl _ _ rfl (B := u15.heap.size) _ [] rfl OW.out ⟨g, o, none⟩ l.length _ l rfl rfl N1.out (by simp; omega) (by simp) ?_; intro va wa hown2 hg2; have O2 : Hid (Own wa u15.heap.size va l) := Lib.hid hown2; have BK := Lib.hid (keep_new hg2); clear hown2 hg2; have hsa := BK.out.size; have RA := Lib.hid (R.out.grow BK.out); obtain ⟨d1, d2⟩ := RA.out.cells (l.length - 1) (by omega); obtain ⟨n1, n2⟩ := new_two wa (.int .i64 l[l.length - 1].1) (.int .i64 l[l.length - 1].2) 27; have N2 := Lib.hid n1; have N3 := Lib.hid n2; clear n1 n2) | (at_builtin; refine append_piece rfl _ _ rfl (B := u15.heap.size) _ l rfl (O2.out.grow ((Below.refl _ _).alloc (Nat.le_refl _) _)) ⟨wa.heap.size, 0, none⟩ l[l.length - 1] rfl N2.out N3.out (by omega) (by simp; omega) ?_; intro vb wb hown3 hg3; have O3 := Lib.hid hown3; have Bb := Lib.hid (BK.out.trans (((Below.refl wa.heap.size wa).alloc (Nat.le_refl _) _ |>.mono hsa).trans ((O2.out.grow ((Below.refl _ _).alloc (Nat.le_refl _) _)).below hg3 (by simp; omega)))); clear hown3 hg3; have R5 := Lib.hid (R.out.grow Bb.out); have RT := Lib.hid (R5.out.take q hql); have RD := Lib.hid (R5.out.drop q hql); have RW := Lib.hid O3.out.row; have B5 := Lib.hid (B.out.trans (Bb.out.mono B.out.size))))
  clear R B
  have B := B5; clear B5
  go_wp2_with fail
  refine (val_is (implCoreValid_any RT.out) (show _ = Value.bool true by rw [isCore_take HV.out])).mono ?_
  rintro e u19 ⟨rfl, b19⟩
  replace RT := Lib.hid (RT.out.grow b19)
  replace RD := Lib.hid (RD.out.grow b19)
  replace RW := Lib.hid (RW.out.grow b19)
  replace B := Lib.hid (B.out.trans (b19.mono B.out.size))
  clear b19
  go_wp2_with fail
  refine (val_is (implCoreValid_any RD.out) (show _ = Value.bool true by rw [isCore_drop HV.out])).mono ?_
  rintro e u20 ⟨rfl, b20⟩
  replace RT := Lib.hid (RT.out.grow b20)
  replace RD := Lib.hid (RD.out.grow b20)
  replace RW := Lib.hid (RW.out.grow b20)
  replace B := Lib.hid (B.out.trans (b20.mono B.out.size))
  clear b20
  go_wp2_with fail
  refine (val_is (implCoreValid_any RW.out) (show _ = Value.bool false by rw [isCore_twice h0])).mono ?_
  rintro e u21 ⟨rfl, b21⟩
  replace RT := Lib.hid (RT.out.grow b21)
  replace RD := Lib.hid (RD.out.grow b21)
  replace RW := Lib.hid (RW.out.grow b21)
  replace B := Lib.hid (B.out.trans (b21.mono B.out.size))
  clear b21
  have hz : ((l.length : Int) == 0) = false := by rw [beq_eq_false_iff_ne]; omega
  go_wp2_with fail
  go_ret
  exact ⟨by simp, B.out⟩

set_option maxRecDepth 100000 in
theorem lifted (os : Os) (started : os.Started) (H : Type) (enc : TypeId × Value → H) :
    ReturnsInHanded {} Try.checked os 3 .any (Rows.fnCoreSpec.pre6 enc Try.prog Try.f3 Rows.fnCoreRow.domain false) (Rows.fnCoreSpec.post enc Try.prog Try.f3 false true false false) := by
  refine returnsInHanded_of_change (C := Try.checked) own started (by kernel_rfl) Try.func3
    (ChangeSpec.witness6 (enc := enc) (C := Try.checked) false ⟨#[], #[.slice none 0 0, .slice none 0 0], []⟩ 8 (by kernel_rfl) (by kernel_rfl) (by kernel_rfl) (by kernel_rfl)) ?_
  intro W base args ds gs before hval0 hW hcnd _
  have hval : ∀ (j : Nat) t v, Try.f3.params[j]? = some t → args[j]? = some v → Value.okWide Try.prog W .any base t v := hval0
  have hW' := hW
  obtain ⟨p, q, hA0, hV, rfl, hfz, hnd⟩ := hW
  have hA : DataW.TrodAll enc Try.prog W 0 (fun _ => true) true Try.f3.params.toList args.toList ds p := hA0
  rw [Try.params3] at hA hval
  obtain ⟨v0, vs0, d0, ds0, p0, q0, hargs, rfl, rfl, h0, r0⟩ := trodAll_cons hA
  obtain ⟨v1, vs1, d1, ds1, p1, q1, rfl, rfl, rfl, h1, r1⟩ := trodAll_cons r0
  obtain ⟨rfl, rfl, rfl⟩ := trodAll_nil r1
  obtain rfl : args = #[v0, v1] := by cases args; simp_all
  obtain ⟨rfl, rfl⟩ := trodVars_none hV
  obtain ⟨a0, len0, cap0, rfl⟩ := okWide_slice Try.underlying22 (hval 0 22 v0 rfl rfl)
  have k0 := h0
  have lt0 : ∀ x ∈ p0, x.block < W.heap.size := by obtain ⟨m, hm⟩ := k0; exact DataW.trod_lt m _ _ _ hm
  obtain ⟨z0, w0⟩ : ∃ zs, IsRow .u8 W a0 len0 cap0 zs := by
    obtain ⟨fuel, hf⟩ := h0
    rcases open_ints Try.underlying22 Try.underlying5 (by kernel_rfl) hf with ⟨hcs, _⟩ | ⟨x, l, c, zs, hcs, _, hl, hm, hz, _, hcell, hwz⟩
    · simp [Value.cells] at hcs
      obtain ⟨rfl, rfl, rfl⟩ := hcs
      exact ⟨[], .inl ⟨rfl, rfl, rfl, rfl⟩⟩
    · simp [Value.cells] at hcs
      obtain ⟨rfl, rfl, rfl⟩ := hcs
      exact ⟨zs, .inr ⟨_, rfl, hl, hm, by simpa using hz, hcell, hwz⟩⟩
  obtain ⟨a1, len1, cap1, rfl⟩ := okWide_slice Try.underlying22 (hval 1 22 v1 rfl rfl)
  have k1 := h1
  have lt1 : ∀ x ∈ p1, x.block < W.heap.size := by obtain ⟨m, hm⟩ := k1; exact DataW.trod_lt m _ _ _ hm
  obtain ⟨z1, w1⟩ : ∃ zs, IsRow .u8 W a1 len1 cap1 zs := by
    obtain ⟨fuel, hf⟩ := h1
    rcases open_ints Try.underlying22 Try.underlying5 (by kernel_rfl) hf with ⟨hcs, _⟩ | ⟨x, l, c, zs, hcs, _, hl, hm, hz, _, hcell, hwz⟩
    · simp [Value.cells] at hcs
      obtain ⟨rfl, rfl, rfl⟩ := hcs
      exact ⟨[], .inl ⟨rfl, rfl, rfl, rfl⟩⟩
    · simp [Value.cells] at hcs
      obtain ⟨rfl, rfl, rfl⟩ := hcs
      exact ⟨zs, .inr ⟨_, rfl, hl, hm, by simpa using hz, hcell, hwz⟩⟩
  clear hA0 hval0
  refine (walk a0 len0 cap0 z0 a1 len1 cap1 z1 W w0 w1).mono fun e W' ⟨he, bel⟩ => ?_
  subst he
  exact ⟨_, rfl, _, _, _, [], _, [], hW', trodAll_mk1 (shut_bool Try.underlying4 _), (trodAll_cons_mk (Below.trod laidOut (by kernel_rfl) (of_decide_eq_true (by kernel_rfl)) k0 bel lt0) (trodAll_cons_mk (Below.trod laidOut (by kernel_rfl) (of_decide_eq_true (by kernel_rfl)) k1 bel lt1) trodAll_mk0)), rfl, bel.frame _, fun h => by cases h⟩

theorem over : Rows.fnCoreRow.holds Try.pinned (OpenSpec.ofChange Rows.fnCoreSpec) :=
  OpenClaim.holds_of_wide 3 Try.f3 rfl rfl rfl rfl rfl rfl rfl ⟨rfl, rfl, rfl, rfl, rfl⟩ rfl rfl rfl rfl rfl (by kernel_rfl) Try.func3 (by kernel_rfl)
    (of_decide_eq_true (by kernel_rfl)) (by unfold Func.isWrapper; first | (rw [if_pos (by decide +kernel)]; kernel_rfl) | (rw [if_neg (by decide +kernel)]; exact ⟨rfl, rfl⟩))
    (fun os started H enc _ => lifted os started H enc)

/-- ████ THE STATEMENT ████ -/
theorem proved : Rows.FnCoreSaid := over
#print axioms proved
end Go.Proofs.Ytdljfikgmhdedaa.fnCore
