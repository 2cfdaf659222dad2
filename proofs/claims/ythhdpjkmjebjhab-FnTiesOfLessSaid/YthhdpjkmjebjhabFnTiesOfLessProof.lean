/- For every input, the law FnTiesOfLess of the given statements returns true over the program at this commit, and its arguments read afterwards as before: no condition. -/
import Derived.Test.YthhdpjkmjebjhabRows
import Derived.Test.YthhdpjkmjebjhabLawT
import Derived.Test.YthhdpjkmjebjhabTieO
import Derived.Test.YthhdpjkmjebjhabTieDrawO
import Derived.Test.YthhdpjkmjebjhabLawO
import Derived.WalkKit
import Derived.ProofKit
import Derived.OpenShut
import Derived.ShutString
import Derived.ChangeOld
import Derived.Below
namespace Go.Proofs.Ythhdpjkmjebjhab.fnTiesOfLess
open Go.ChangeShapes Go.WideShapes Go.ChangeAt Go.RowKit
open Go.ChangeMaps (open_string shut_string)
set_option linter.unusedVariables false

theorem own : ownKnob Try.prog.godebug = none := by kernel_rfl
theorem laidOut : laidOutB Try.prog = true := by kernel_rfl

/-- WHAT THE WALK IS TOLD OF A SLICE OF INTEGERS THAT CAME IN: it is nil; or it leads to a row of 'cap' cells, the numbers 'zs' (the first 'len' are its elements, the rest its spare room), each fitting its kind. -/
def IsRow (k : IntKind) (w : World) (a : Option Addr) (len cap : Nat) (zs : List Int) : Prop :=
  (a = none ∧ len = 0 ∧ cap = 0 ∧ zs = []) ∨
  ∃ x, a = some x ∧ len ≤ cap ∧ cap ≤ maxLen ∧ zs.length = cap ∧ (∀ i, i < zs.length → w.cell? (x.add i) = some (.int k (zs.getD i 0))) ∧ ∀ n ∈ zs, (Lit.int k n).wf = true

set_option maxRecDepth 100000 in
set_option maxHeartbeats 3200000 in
theorem walk (a0 : Option Addr) (len0 cap0 : Nat) (z0 : List Int) (a1 : Option Addr) (len1 cap1 : Nat) (z1 : List Int) (w : World) (w0 : IsRow .u8 w a0 len0 cap0 z0) (w1 : IsRow .u8 w a1 len1 cap1 z1) :
    Calls Try.prog 6 #[.slice a0 len0 cap0, .slice a1 len1 cap1] w fun e w' => e = .returned (.bool true) ∧ Below w.heap.size w w' := by
  have hB := bytes_of w0
  have hB1 := bytes_len (bytes_of w1)
  unfold maxLen at hB1
  by_cases hl : 1048576 < len0
  · have hdec : decide (1048576 < len0) = true := by simpa using hl
    go_enter Try.func6, Try.ntmps6
    go_wp2_with fail
    go_ret
    exact ⟨rfl, Below.refl _ _⟩
  have hdec : decide (1048576 < len0) = false := by simpa using hl
  by_cases hl1 : 1048576 < len1
  · go_enter Try.func6, Try.ntmps6
    go_wp2_with fail
    go_ret
    exact ⟨rfl, Below.refl _ _⟩
  have hm : len0 ≤ 1048576 := by omega
  have hm1 : len1 ≤ 1048576 := by omega
  clear hB1
  go_enter Try.func6, Try.ntmps6
  go_wp2_with fail
  refine (DrawTiesOf_any hB).mono ?_
  rintro e wv1 ⟨v, u, x, a, b, t, m, rfl, r0, r1, r2, da, db, ht, dm, b1⟩
  clear w0 w1 hB
  have BB := Lib.hid b1
  clear b1
  have R := Lib.hid r0
  clear r0
  have U := Lib.hid r1
  clear r1
  have X := Lib.hid r2
  clear r2
  have ha8 := da.1
  have hb8 := db.1
  obtain ⟨aR, cR, rfl, kR, mR⟩ := tlen_n R.out.row
  obtain ⟨aU, cU, rfl, kU, mU⟩ := tlen_n U.out.row
  obtain ⟨aX, cX, rfl, kX, mX⟩ := len_n X.out.row
  clear da db
  cases hb : okB a b t m
  · have HB := Lib.hid (ofT_no hb)
    clear hb
    go_wp2_with fail
    refine (lst_no (implOf_any t R.out.row U.out.row X.out.row) HB.out).mono ?_
    rintro e wv2 ⟨vV, rfl, o9, b9⟩
    replace R := Lib.hid (R.out.grow b9)
    replace U := Lib.hid (U.out.grow b9)
    replace X := Lib.hid (X.out.grow b9)
    replace BB := Lib.hid (BB.out.trans (b9.mono BB.out.size))
    clear b9
    have V := Lib.hid o9
    clear o9
    go_wp2_with fail
    refine (lst_no (specOf_any t R.out.row U.out.row X.out.row) HB.out).mono ?_
    rintro e wv3 ⟨vY, rfl, o9, b9⟩
    replace R := Lib.hid (R.out.grow b9)
    replace U := Lib.hid (U.out.grow b9)
    replace X := Lib.hid (X.out.grow b9)
    replace V := Lib.hid (V.out.grow b9)
    replace BB := Lib.hid (BB.out.trans (b9.mono BB.out.size))
    clear b9
    have Y := Lib.hid o9
    clear o9
    go_wp2_with fail
    refine (sameTies_yes V.out.row Y.out.row rfl).mono ?_
    rintro e wv4 ⟨rfl, b9⟩
    replace R := Lib.hid (R.out.grow b9)
    replace U := Lib.hid (U.out.grow b9)
    replace X := Lib.hid (X.out.grow b9)
    replace V := Lib.hid (V.out.grow b9)
    replace Y := Lib.hid (Y.out.grow b9)
    replace BB := Lib.hid (BB.out.trans (b9.mono BB.out.size))
    clear b9
    go_wp2_with fail
    refine (sameTies_yes V.out.row Y.out.row rfl).mono ?_
    rintro e wv5 ⟨rfl, b9⟩
    replace R := Lib.hid (R.out.grow b9)
    replace U := Lib.hid (U.out.grow b9)
    replace X := Lib.hid (X.out.grow b9)
    replace V := Lib.hid (V.out.grow b9)
    replace Y := Lib.hid (Y.out.grow b9)
    replace BB := Lib.hid (BB.out.trans (b9.mono BB.out.size))
    clear b9
    go_wp2_with fail
    go_ret
    exact ⟨by first | rfl | (simp; done) | (simp; omega), BB.out⟩
  · have HB := Lib.hid hb
    obtain ⟨o, ho⟩ : ∃ o, tof a b m = o := ⟨_, rfl⟩
    have HO := Lib.hid ho
    have OY := Lib.hid (ofT_yes hb)
    rw [ho] at OY
    have VO := Lib.hid (isTies_tof hb)
    rw [ho] at VO
    have hml := okB_len hb
    have a9 := isEv_len (argsOk_iff.1 (okB_iff.1 hb).1).1
    have b9 := isEv_len (argsOk_iff.1 (okB_iff.1 hb).1).2.1
    have m9 : m.length ≤ 8 := by omega
    clear hb ho hml
    go_wp2_with fail
    refine (lst_yes (implOf_any t R.out.row U.out.row X.out.row) OY.out).mono ?_
    rintro e wv2 ⟨vP, rfl, o9, b9⟩
    replace R := Lib.hid (R.out.grow b9)
    replace U := Lib.hid (U.out.grow b9)
    replace X := Lib.hid (X.out.grow b9)
    replace BB := Lib.hid (BB.out.trans (b9.mono BB.out.size))
    clear b9
    have P := Lib.hid o9
    clear o9
    go_wp2_with fail
    refine (lst_yes (specOf_any t R.out.row U.out.row X.out.row) OY.out).mono ?_
    rintro e wv3 ⟨vY, rfl, o9, b9⟩
    replace R := Lib.hid (R.out.grow b9)
    replace U := Lib.hid (U.out.grow b9)
    replace X := Lib.hid (X.out.grow b9)
    replace P := Lib.hid (P.out.grow b9)
    replace BB := Lib.hid (BB.out.trans (b9.mono BB.out.size))
    clear b9
    have Y := Lib.hid o9
    clear o9
    go_wp2_with fail
    refine (sameTies_yes P.out.row Y.out.row rfl).mono ?_
    rintro e wv4 ⟨rfl, b9⟩
    replace R := Lib.hid (R.out.grow b9)
    replace U := Lib.hid (U.out.grow b9)
    replace X := Lib.hid (X.out.grow b9)
    replace P := Lib.hid (P.out.grow b9)
    replace Y := Lib.hid (Y.out.grow b9)
    replace BB := Lib.hid (BB.out.trans (b9.mono BB.out.size))
    clear b9
    clear Y
    obtain ⟨aP, cP, rfl, kP, mP⟩ := tlen_n P.out.row
    have EA := Lib.hid (iown_new (Nat.le_refl wv4.heap.size))
    have BA := Lib.hid ((Below.refl wv4.heap.size wv4).alloc (Nat.le_refl _) (.cells #[] 3))
    have XA := Lib.hid (X.out.grow BA.out)
    by_cases h0 : m.length = 0
    · obtain rfl : m = [] := List.eq_nil_of_length_eq_zero h0
      clear h0
      go_wp2_with (at_builtin; refine iappend_copy intT' rfl _ _ rfl (B := wv4.heap.size) _ rfl EA.out _ _ rfl XA.out (by first | omega | simp) (by simp) ?_; intro v5 wv5 hown5 b5; have O5 := Lib.hid hown5; have B5 := Lib.hid (BA.out.trans b5); clear hown5 b5; obtain ⟨aZ, cZ, rfl, kZ, mZ⟩ := len_n O5.out.row)
      replace R := Lib.hid (R.out.grow B5.out)
      replace U := Lib.hid (U.out.grow B5.out)
      replace X := Lib.hid (X.out.grow B5.out)
      replace P := Lib.hid (P.out.grow B5.out)
      replace BB := Lib.hid (BB.out.trans (B5.out.mono BB.out.size))
      obtain ⟨n, hn⟩ : ∃ n, tof a b ([]) = n := ⟨_, rfl⟩
      have NY := Lib.hid (ofT_yes HB.out)
      rw [hn] at NY
      have ls := join_less VO.out (k := n) (by rw [← hn]; exact isTies_tof HB.out) (by rw [← hn, ← HO.out]; exact fun x h => h)
      have F1 := Lib.hid ls.1; have J1 := Lib.hid ls.2
      clear hn ls
      go_wp2_with fail
      refine (lst_yes (implOf_any t R.out.row U.out.row O5.out.row) NY.out).mono ?_
      rintro e wv6 ⟨vY, rfl, o9, b9⟩
      replace R := Lib.hid (R.out.grow b9)
      replace U := Lib.hid (U.out.grow b9)
      replace X := Lib.hid (X.out.grow b9)
      replace P := Lib.hid (P.out.grow b9)
      replace O5 := Lib.hid (O5.out.grow b9)
      replace BB := Lib.hid (BB.out.trans (b9.mono BB.out.size))
      clear b9
      have Y := Lib.hid o9
      clear o9
      go_wp2_with fail
      refine (lst_yes (implJoin_any P.out.row Y.out.row) J1.out).mono ?_
      rintro e wv7 ⟨vZ, rfl, o9, b9⟩
      replace R := Lib.hid (R.out.grow b9)
      replace U := Lib.hid (U.out.grow b9)
      replace X := Lib.hid (X.out.grow b9)
      replace P := Lib.hid (P.out.grow b9)
      replace O5 := Lib.hid (O5.out.grow b9)
      replace Y := Lib.hid (Y.out.grow b9)
      replace BB := Lib.hid (BB.out.trans (b9.mono BB.out.size))
      clear b9
      have Z := Lib.hid o9
      clear o9
      go_wp2_with fail
      refine (fitI_is P.out.row Y.out.row F1.out).mono ?_
      rintro e wv8 ⟨rfl, b9⟩
      replace R := Lib.hid (R.out.grow b9)
      replace U := Lib.hid (U.out.grow b9)
      replace X := Lib.hid (X.out.grow b9)
      replace P := Lib.hid (P.out.grow b9)
      replace O5 := Lib.hid (O5.out.grow b9)
      replace Y := Lib.hid (Y.out.grow b9)
      replace Z := Lib.hid (Z.out.grow b9)
      replace BB := Lib.hid (BB.out.trans (b9.mono BB.out.size))
      clear b9
      go_wp2_with fail
      refine (sameTies_yes Z.out.row P.out.row rfl).mono ?_
      rintro e wv9 ⟨rfl, b9⟩
      replace R := Lib.hid (R.out.grow b9)
      replace U := Lib.hid (U.out.grow b9)
      replace X := Lib.hid (X.out.grow b9)
      replace P := Lib.hid (P.out.grow b9)
      replace O5 := Lib.hid (O5.out.grow b9)
      replace Y := Lib.hid (Y.out.grow b9)
      replace Z := Lib.hid (Z.out.grow b9)
      replace BB := Lib.hid (BB.out.trans (b9.mono BB.out.size))
      clear b9
      go_wp2_with fail
      go_ret
      exact ⟨by first | rfl | (simp; done) | (simp; omega), BB.out⟩
    · have i0 : (0 : Int) < (m.length : Int) := by omega
      obtain ⟨q, hq⟩ : ∃ q : Nat, len1 % m.length = q := ⟨_, rfl⟩
      have hqm : q < m.length := by rw [← hq]; exact Nat.mod_lt _ (by omega)
      have hq1 : (len1 : Int) % (m.length : Int) = (q : Int) := by rw [← hq, Int.natCast_emod]
      have hq2 : IntKind.i64.wrap ((len1 : Int).tmod (m.length : Int)) = (q : Int) := by rw [Int.tmod_eq_emod_of_nonneg (by omega), hq1]; exact IntWalk.i64_in _ (by omega)
      have hq3 : IntKind.i64.wrap (q : Int) = (q : Int) := IntWalk.i64_in _ (by omega)
      have hq4 : (q : Int) < (m.length : Int) := by omega
      have hq5 : (0 : Int) ≤ (q : Int) := by omega
      have hz : ((m.length : Int) == 0) = false := beq_eq_false_iff_ne.2 (by omega)
      go_wp2_with (at_builtin; refine iappend_copy intT' rfl _ _ rfl (B := wv4.heap.size) _ rfl EA.out _ _ rfl XA.out (by first | omega | simp) (by simp) ?_; intro v5 wv5 hown5 b5; have O5 := Lib.hid hown5; have B5 := Lib.hid (BA.out.trans b5); clear hown5 b5; obtain ⟨aZ, cZ, rfl, kZ, mZ⟩ := len_n O5.out.row; obtain ⟨gZ, pZ, eZ, k5, k6, k7, k8, hp⟩ := O5.out.at (by omega); simp only [Value.slice.injEq] at eZ; obtain ⟨rfl, hcl, rfl⟩ := eZ; have d0 := (hp q hqm).cell; have f0 := (hp q hqm).froz; have st := (hp q hqm).set (-1); have ST := Lib.hid st; have BS := Lib.hid (B5.out.setCell (p := ⟨gZ, q, none⟩) k7 (.int .i64 (-1))); clear hp st hcl k5 k6 k7 k8 hq)
      have DR := Lib.hid (okB_drop HB.out q)
      replace R := Lib.hid (R.out.grow BS.out)
      replace U := Lib.hid (U.out.grow BS.out)
      replace X := Lib.hid (X.out.grow BS.out)
      replace P := Lib.hid (P.out.grow BS.out)
      replace BB := Lib.hid (BB.out.trans (BS.out.mono BB.out.size))
      obtain ⟨n, hn⟩ : ∃ n, tof a b (m.set q (-1)) = n := ⟨_, rfl⟩
      have NY := Lib.hid (ofT_yes DR.out)
      rw [hn] at NY
      have ls := join_less VO.out (k := n) (by rw [← hn]; exact isTies_tof DR.out) (by rw [← hn, ← HO.out]; exact tof_less HB.out q)
      have F1 := Lib.hid ls.1; have J1 := Lib.hid ls.2
      clear hn ls
      go_wp2_with fail
      refine (lst_yes (implOf_any t R.out.row U.out.row ST.out.row) NY.out).mono ?_
      rintro e wv6 ⟨vY, rfl, o9, b9⟩
      replace R := Lib.hid (R.out.grow b9)
      replace U := Lib.hid (U.out.grow b9)
      replace X := Lib.hid (X.out.grow b9)
      replace P := Lib.hid (P.out.grow b9)
      replace ST := Lib.hid (ST.out.grow b9)
      replace BB := Lib.hid (BB.out.trans (b9.mono BB.out.size))
      clear b9
      have Y := Lib.hid o9
      clear o9
      go_wp2_with fail
      refine (lst_yes (implJoin_any P.out.row Y.out.row) J1.out).mono ?_
      rintro e wv7 ⟨vZ, rfl, o9, b9⟩
      replace R := Lib.hid (R.out.grow b9)
      replace U := Lib.hid (U.out.grow b9)
      replace X := Lib.hid (X.out.grow b9)
      replace P := Lib.hid (P.out.grow b9)
      replace ST := Lib.hid (ST.out.grow b9)
      replace Y := Lib.hid (Y.out.grow b9)
      replace BB := Lib.hid (BB.out.trans (b9.mono BB.out.size))
      clear b9
      have Z := Lib.hid o9
      clear o9
      go_wp2_with fail
      refine (fitI_is P.out.row Y.out.row F1.out).mono ?_
      rintro e wv8 ⟨rfl, b9⟩
      replace R := Lib.hid (R.out.grow b9)
      replace U := Lib.hid (U.out.grow b9)
      replace X := Lib.hid (X.out.grow b9)
      replace P := Lib.hid (P.out.grow b9)
      replace ST := Lib.hid (ST.out.grow b9)
      replace Y := Lib.hid (Y.out.grow b9)
      replace Z := Lib.hid (Z.out.grow b9)
      replace BB := Lib.hid (BB.out.trans (b9.mono BB.out.size))
      clear b9
      go_wp2_with fail
      refine (sameTies_yes Z.out.row P.out.row rfl).mono ?_
      rintro e wv9 ⟨rfl, b9⟩
      replace R := Lib.hid (R.out.grow b9)
      replace U := Lib.hid (U.out.grow b9)
      replace X := Lib.hid (X.out.grow b9)
      replace P := Lib.hid (P.out.grow b9)
      replace ST := Lib.hid (ST.out.grow b9)
      replace Y := Lib.hid (Y.out.grow b9)
      replace Z := Lib.hid (Z.out.grow b9)
      replace BB := Lib.hid (BB.out.trans (b9.mono BB.out.size))
      clear b9
      go_wp2_with fail
      go_ret
      exact ⟨by first | rfl | (simp; done) | (simp; omega), BB.out⟩

set_option maxRecDepth 100000 in
theorem lifted (os : Os) (started : os.Started) (H : Type) (enc : TypeId × Value → H) :
    ReturnsInHanded {} Try.checked os 6 .any (Rows.fnTiesOfLessSpec.pre6 enc Try.prog Try.f6 Rows.fnTiesOfLessRow.domain false) (Rows.fnTiesOfLessSpec.post enc Try.prog Try.f6 false true false false) := by
  refine returnsInHanded_of_change (C := Try.checked) own started (by kernel_rfl) Try.func6
    (ChangeSpec.witness6 (enc := enc) (C := Try.checked) false ⟨#[], #[.slice none 0 0, .slice none 0 0], []⟩ 8 (by kernel_rfl) (by kernel_rfl) (by kernel_rfl) (by kernel_rfl)) ?_
  intro W base args ds gs before hval0 hW hcnd _
  have hval : ∀ (j : Nat) t v, Try.f6.params[j]? = some t → args[j]? = some v → Value.okWide Try.prog W .any base t v := hval0
  have hW' := hW
  obtain ⟨p, q, hA0, hV, rfl, hfz, hnd⟩ := hW
  have hA : DataW.TrodAll enc Try.prog W 0 (fun _ => true) true Try.f6.params.toList args.toList ds p := hA0
  rw [Try.params6] at hA hval
  obtain ⟨v0, vs0, d0, ds0, p0, q0, hargs, rfl, rfl, h0, r0⟩ := trodAll_cons hA
  obtain ⟨v1, vs1, d1, ds1, p1, q1, rfl, rfl, rfl, h1, r1⟩ := trodAll_cons r0
  obtain ⟨rfl, rfl, rfl⟩ := trodAll_nil r1
  obtain rfl : args = #[v0, v1] := by cases args; simp_all
  obtain ⟨rfl, rfl⟩ := trodVars_none hV
  obtain ⟨a0, len0, cap0, rfl⟩ := okWide_slice Try.underlying22 (hval 0 22 v0 rfl rfl)
  have k0 := h0
  have lt0 : ∀ x ∈ p0, x.block < W.heap.size := by obtain ⟨m, hm⟩ := k0; exact DataW.trod_lt m _ _ _ hm
  obtain ⟨z0, w0⟩ : ∃ zs, IsRow .u8 W a0 len0 cap0 zs := by
    obtain ⟨fuel, hf⟩ := h0
    rcases open_ints Try.underlying22 Try.underlying5 (by kernel_rfl) hf with ⟨hcs, _⟩ | ⟨x, l, c, zs, hcs, _, hl, hm, hz, _, hcell, hwz⟩
    · simp [Value.cells] at hcs
      obtain ⟨rfl, rfl, rfl⟩ := hcs
      exact ⟨[], .inl ⟨rfl, rfl, rfl, rfl⟩⟩
    · simp [Value.cells] at hcs
      obtain ⟨rfl, rfl, rfl⟩ := hcs
      exact ⟨zs, .inr ⟨_, rfl, hl, hm, by simpa using hz, hcell, hwz⟩⟩
  obtain ⟨a1, len1, cap1, rfl⟩ := okWide_slice Try.underlying22 (hval 1 22 v1 rfl rfl)
  have k1 := h1
  have lt1 : ∀ x ∈ p1, x.block < W.heap.size := by obtain ⟨m, hm⟩ := k1; exact DataW.trod_lt m _ _ _ hm
  obtain ⟨z1, w1⟩ : ∃ zs, IsRow .u8 W a1 len1 cap1 zs := by
    obtain ⟨fuel, hf⟩ := h1
    rcases open_ints Try.underlying22 Try.underlying5 (by kernel_rfl) hf with ⟨hcs, _⟩ | ⟨x, l, c, zs, hcs, _, hl, hm, hz, _, hcell, hwz⟩
    · simp [Value.cells] at hcs
      obtain ⟨rfl, rfl, rfl⟩ := hcs
      exact ⟨[], .inl ⟨rfl, rfl, rfl, rfl⟩⟩
    · simp [Value.cells] at hcs
      obtain ⟨rfl, rfl, rfl⟩ := hcs
      exact ⟨zs, .inr ⟨_, rfl, hl, hm, by simpa using hz, hcell, hwz⟩⟩
  clear hA0 hval0
  refine (walk a0 len0 cap0 z0 a1 len1 cap1 z1 W w0 w1).mono fun e W' ⟨he, bel⟩ => ?_
  subst he
  exact ⟨_, rfl, _, _, _, [], _, [], hW', trodAll_mk1 (shut_bool Try.underlying4 _), (trodAll_cons_mk (Below.trod laidOut (by kernel_rfl) (of_decide_eq_true (by kernel_rfl)) k0 bel lt0) (trodAll_cons_mk (Below.trod laidOut (by kernel_rfl) (of_decide_eq_true (by kernel_rfl)) k1 bel lt1) trodAll_mk0)), rfl, bel.frame _, fun h => by cases h⟩

theorem over : Rows.fnTiesOfLessRow.holds Try.pinned (OpenSpec.ofChange Rows.fnTiesOfLessSpec) :=
  OpenClaim.holds_of_wide 6 Try.f6 rfl rfl rfl rfl rfl rfl rfl ⟨rfl, rfl, rfl, rfl, rfl⟩ rfl rfl rfl rfl rfl (by kernel_rfl) Try.func6 (by kernel_rfl)
    (of_decide_eq_true (by kernel_rfl)) (by unfold Func.isWrapper; first | (rw [if_pos (by decide +kernel)]; kernel_rfl) | (rw [if_neg (by decide +kernel)]; exact ⟨rfl, rfl⟩))
    (fun os started H enc _ => lifted os started H enc)

/-- ████ THE STATEMENT ████ -/
theorem proved : Rows.FnTiesOfLessSaid := over
#print axioms proved
end Go.Proofs.Ythhdpjkmjebjhab.fnTiesOfLess
