/- For every input, the law FnMatchMostAdd of the given statements returns true over the program at this commit, and its arguments read afterwards as before: no condition. -/
import Derived.Test.YtmibipnkjpkngabRows
import Derived.Test.YtmibipnkjpkngabLawE3
import Derived.WalkKit
import Derived.ProofKit
import Derived.OpenShut
import Derived.ShutString
import Derived.ChangeOld
import Derived.Below
namespace Go.Proofs.Ytmibipnkjpkngab.fnMatchMostAdd
open Go.ChangeShapes Go.WideShapes Go.ChangeAt Go.RowKit
open Go.ChangeMaps (open_string shut_string)
set_option linter.unusedVariables false

theorem own : ownKnob Try.prog.godebug = none := by kernel_rfl
theorem laidOut : laidOutB Try.prog = true := by kernel_rfl

/-- WHAT THE WALK IS TOLD OF A SLICE OF INTEGERS THAT CAME IN: it is nil; or it leads to a row of 'cap' cells, the numbers 'zs' (the first 'len' are its elements, the rest its spare room), each fitting its kind. -/
def IsRow (k : IntKind) (w : World) (a : Option Addr) (len cap : Nat) (zs : List Int) : Prop :=
  (a = none ∧ len = 0 ∧ cap = 0 ∧ zs = []) ∨
  ∃ x, a = some x ∧ len ≤ cap ∧ cap ≤ maxLen ∧ zs.length = cap ∧ (∀ i, i < zs.length → w.cell? (x.add i) = some (.int k (zs.getD i 0))) ∧ ∀ n ∈ zs, (Lit.int k n).wf = true

set_option maxRecDepth 100000 in
set_option maxHeartbeats 3200000 in
theorem walk (a0 : Option Addr) (len0 cap0 : Nat) (z0 : List Int) (a1 : Option Addr) (len1 cap1 : Nat) (z1 : List Int) (w : World) (w0 : IsRow .u8 w a0 len0 cap0 z0) (w1 : IsRow .u8 w a1 len1 cap1 z1) :
    Calls Try.prog 7 #[.slice a0 len0 cap0, .slice a1 len1 cap1] w fun e w' => e = .returned (.bool true) ∧ Below w.heap.size w w' := by
  have hB := bytes_of w0
  have hB1 := bytes_len (bytes_of w1)
  unfold maxLen at hB1
  by_cases hl : 1048576 < len0
  · have hdec : decide (1048576 < len0) = true := by simpa using hl
    go_enter Try.func7, Try.ntmps7
    go_wp2_with fail
    go_ret
    exact ⟨rfl, Below.refl _ _⟩
  have hdec : decide (1048576 < len0) = false := by simpa using hl
  by_cases hl1 : 1048576 < len1
  · go_enter Try.func7, Try.ntmps7
    go_wp2_with fail
    go_ret
    exact ⟨rfl, Below.refl _ _⟩
  have hm : len0 ≤ 1048576 := by omega
  have hm1 : len1 ≤ 1048576 := by omega
  clear hB1
  go_enter Try.func7, Try.ntmps7
  go_wp2_with fail
  refine (DrawMatchMostO_any hB).mono ?_
  rintro e wv1 ⟨v, u, a, b, t, rfl, r0, r1, da, db, ht, b1⟩
  clear w0 w1 hB
  have BB := Lib.hid b1
  clear b1
  have R := Lib.hid r0
  clear r0
  have ha6 := da.1
  have hb6 := db.1
  obtain ⟨aR, cR, rfl, kR, mR⟩ := elen_n R.out
  have U := Lib.hid r1
  clear r1
  obtain ⟨aU, cU, rfl, kU, mU⟩ := elen_n U.out.row
  obtain ⟨z, hz⟩ : ∃ x : Int, mostB a b t = x := ⟨_, rfl⟩
  have HZ := Lib.hid hz
  by_cases hneg : z < 0
  · clear hz
    go_wp2_with fail
    refine (mostI_is R.out U.out.row HZ.out).mono ?_
    rintro e wv2 ⟨rfl, b9⟩
    replace R := Lib.hid (R.out.grow b9)
    replace U := Lib.hid (U.out.grow b9)
    replace BB := Lib.hid (BB.out.trans (b9.mono BB.out.size))
    clear b9
    go_wp2_with fail
    refine (mostSB R.out U.out.row HZ.out).mono ?_
    rintro e wv3 ⟨rfl, b9⟩
    replace R := Lib.hid (R.out.grow b9)
    replace U := Lib.hid (U.out.grow b9)
    replace BB := Lib.hid (BB.out.trans (b9.mono BB.out.size))
    clear b9
    go_wp2_with fail
    go_ret
    exact ⟨by first | rfl | (simp; done) | (simp; omega), BB.out⟩
  · have hb := mostB_iff.1 (show 0 ≤ mostB a b t by omega)
    have HB := Lib.hid hb
    have g0 : decide (z < 0) = false := by simpa using hneg
    obtain ⟨va, vb, vt⟩ := argsOk_iff.1 hb
    have a8 := isEv_len va
    have b8 := isEv_len vb
    obtain ⟨t0, t1⟩ := tolOk_iff.1 vt
    have VA := Lib.hid va; have VB := Lib.hid vb
    have zb := mostB_bound a b t
    rw [hz] at zb
    have z0 : 0 ≤ z := by omega
    clear va vb vt hb hz hneg
    go_wp2_with fail
    refine (mostI_is R.out U.out.row HZ.out).mono ?_
    rintro e wv2 ⟨rfl, b9⟩
    replace R := Lib.hid (R.out.grow b9)
    replace U := Lib.hid (U.out.grow b9)
    replace BB := Lib.hid (BB.out.trans (b9.mono BB.out.size))
    clear b9
    go_wp2_with fail
    refine (mostSB R.out U.out.row HZ.out).mono ?_
    rintro e wv3 ⟨rfl, b9⟩
    replace R := Lib.hid (R.out.grow b9)
    replace U := Lib.hid (U.out.grow b9)
    replace BB := Lib.hid (BB.out.trans (b9.mono BB.out.size))
    clear b9
    obtain ⟨r, hr⟩ : ∃ r : Nat, len1 % 9 = r := ⟨_, rfl⟩
    have hr9 : r < 9 := by rw [← hr]; exact Nat.mod_lt _ (by omega)
    have em : (len1 : Int) % 9 = (r : Int) := by rw [← hr]; rfl
    have et : IntKind.i64.wrap ((len1 : Int).tmod 9) = (r : Int) := by rw [Int.tmod_eq_emod_of_nonneg (by omega), em]; exact IntWalk.i64_in _ (by omega)
    have e1r : IntKind.i64.wrap (1 + (r : Int)) = 1 + (r : Int) := IntWalk.i64_in _ (by omega)
    obtain ⟨s, hs⟩ : ∃ s : Int, 1 + (r : Int) = s := ⟨_, rfl⟩
    rw [hs] at e1r
    have e2r : IntKind.i64.wrap (1 + (r : Int)) = s := by rw [hs]; exact e1r
    have s1 : 1 ≤ s ∧ s ≤ 1000 := by omega
    have wz : IntKind.i64.wrap (z + 1) = z + 1 := IntWalk.i64_in _ (by omega)
    clear hr hs e1r
    by_cases h0 : b.length = 0
    · obtain rfl : b = [] := List.eq_nil_of_length_eq_zero h0
      clear h0
      have EB : Hid (isEv ([] ++ [((0 : Int), s)]) = true) := Lib.hid (isEv_add VB.out (by simp) (by omega) (fun h => by simp at h) (by omega) s1.1 s1.2)
      have ms := mostB_add HB.out EB.out
      obtain ⟨y, hy⟩ : ∃ x : Int, mostB a ([] ++ [((0 : Int), s)]) t = x := ⟨_, rfl⟩
      rw [hy, HZ.out] at ms
      have HY := Lib.hid hy
      clear hy
      have EA := Lib.hid (own_new 34 (Nat.le_refl wv3.heap.size))
      have BA := Lib.hid ((Below.refl wv3.heap.size wv3).alloc (Nat.le_refl _) (.cells #[] 34))
      have XA := Lib.hid (U.out.grow BA.out)
      go_wp2_with (at_builtin; first | (refine append_copy evT rfl _ _ rfl (B := wv3.heap.size) _ rfl EA.out _ _ rfl XA.out (by first | omega | simp) (by simp) ?_; intro v5 w5 hown5 b5; have O5 := Lib.hid hown5; have B5 := Lib.hid (BA.out.trans b5); have hz5 := B5.out.size; have A5 := Lib.hid ((Below.refl w5.heap.size w5).alloc (Nat.le_refl _) (.cells #[.int .i64 0, .int .i64 s] 34)); obtain ⟨n1, n2⟩ := new_two w5 (.int .i64 0) (.int .i64 s) 34; have N1 := Lib.hid n1; have N2 := Lib.hid n2; clear hown5 b5 n1 n2) | (refine append_pair evT rfl _ _ rfl (B := wv3.heap.size) _ _ rfl (O5.out.grow A5.out) ⟨w5.heap.size, 0, none⟩ (0, s) rfl N1.out N2.out (by first | omega | simp) (by simp; omega) ?_; intro v8 wv4 hown8 hg8; have O8 := Lib.hid hown8; have B8 := Lib.hid (B5.out.trans ((A5.out.mono hz5).trans ((O5.out.grow A5.out).below hg8 (by simp; omega)))); clear hown8 hg8))
      replace R := Lib.hid (R.out.grow B8.out)
      replace U := Lib.hid (U.out.grow B8.out)
      replace BB := Lib.hid (BB.out.trans (B8.out.mono BB.out.size))
      go_wp2_with fail
      refine (mostI_is R.out O8.out.row HY.out).mono ?_
      rintro e wv5 ⟨rfl, b9⟩
      replace R := Lib.hid (R.out.grow b9)
      replace U := Lib.hid (U.out.grow b9)
      replace O8 := Lib.hid (O8.out.grow b9)
      replace BB := Lib.hid (BB.out.trans (b9.mono BB.out.size))
      clear b9
      have yc : y = z ∨ y = z + 1 := by omega
      rcases yc with rfl | rfl
      · skip
        go_wp2_with fail
        go_ret
        exact ⟨by first | rfl | (simp; done) | (simp; omega), BB.out⟩
      · have e8 : (z + 1 == z) = false := by simp; omega
        go_wp2_with fail
        go_ret
        exact ⟨by first | rfl | (simp; done) | (simp; omega), BB.out⟩
    · have p0 : 0 < b.length := by omega
      obtain ⟨q, hq⟩ : ∃ q, b.length - 1 = q := ⟨_, rfl⟩
      have hqb : q < b.length := by omega
      have w2 : IntKind.i64.wrap ((b.length : Int) - 1) = (q : Int) := by rw [show (b.length : Int) - 1 = (q : Int) by omega]; exact IntWalk.i64_in _ (by omega)
      have i1 : (0 : Int) ≤ (q : Int) := by omega
      have i3 : (q : Int) < (b.length : Int) := by omega
      have i4 : (0 : Int) < (b.length : Int) := by omega
      obtain ⟨gU, oU, pU, eU, k1U, k2U⟩ := eknown_n U.out.row p0
      simp only [Value.slice.injEq, true_and] at eU
      obtain ⟨rfl, rfl⟩ := eU
      have d1 := (U.out.row.cells q hqb).1
      have xb := isEv_get VB.out hqb
      obtain ⟨x1, hx1⟩ : ∃ x, b[q].1 = x := ⟨_, rfl⟩
      rw [hx1] at d1 xb
      have HX1 := Lib.hid hx1
      obtain ⟨d, hd⟩ : ∃ d, x1 + 1 = d := ⟨_, rfl⟩
      have w3 : IntKind.i64.wrap (x1 + 1) = d := by rw [← hd]; exact IntWalk.i64_in _ (by omega)
      have HD := Lib.hid hd; have HQ := Lib.hid hq
      clear hx1 hd hq
      go_upto_region 11 with fail
      by_cases h8 : b.length = 8
      · have i5 : (b.length : Int) = 8 := by omega
        have i6 : z ≥ 0 := z0
        go_wp2_with fail
        go_ret
        exact ⟨by first | rfl | (simp; done) | (simp; omega), BB.out⟩
      · have i5 : ¬ (b.length : Int) = 8 := by omega
        by_cases hd30 : 30000 < d
        · have i6 : z ≥ 0 := z0
          go_wp2_with fail
          go_ret
          exact ⟨by first | rfl | (simp; done) | (simp; omega), BB.out⟩
        · have EB : Hid (isEv (b ++ [(d, s)]) = true) := Lib.hid (isEv_add VB.out h8 (by have := HD.out; omega) (fun h => by simp only [HQ.out]; rw [HX1.out, ← HD.out]; omega) (by omega) s1.1 s1.2)
          clear h8 h0
          have ms := mostB_add HB.out EB.out
          obtain ⟨y, hy⟩ : ∃ x : Int, mostB a (b ++ [(d, s)]) t = x := ⟨_, rfl⟩
          rw [hy, HZ.out] at ms
          have HY := Lib.hid hy
          clear hy
          have EA := Lib.hid (own_new 34 (Nat.le_refl wv3.heap.size))
          have BA := Lib.hid ((Below.refl wv3.heap.size wv3).alloc (Nat.le_refl _) (.cells #[] 34))
          have XA := Lib.hid (U.out.grow BA.out)
          go_wp2_with (at_builtin; first | (refine append_copy evT rfl _ _ rfl (B := wv3.heap.size) _ rfl EA.out _ _ rfl XA.out (by first | omega | simp) (by simp) ?_; intro v5 w5 hown5 b5; have O5 := Lib.hid hown5; have B5 := Lib.hid (BA.out.trans b5); have hz5 := B5.out.size; have A5 := Lib.hid ((Below.refl w5.heap.size w5).alloc (Nat.le_refl _) (.cells #[.int .i64 d, .int .i64 s] 34)); obtain ⟨n1, n2⟩ := new_two w5 (.int .i64 d) (.int .i64 s) 34; have N1 := Lib.hid n1; have N2 := Lib.hid n2; clear hown5 b5 n1 n2) | (refine append_pair evT rfl _ _ rfl (B := wv3.heap.size) _ _ rfl (O5.out.grow A5.out) ⟨w5.heap.size, 0, none⟩ (d, s) rfl N1.out N2.out (by first | omega | simp) (by simp; omega) ?_; intro v8 wv4 hown8 hg8; have O8 := Lib.hid hown8; have B8 := Lib.hid (B5.out.trans ((A5.out.mono hz5).trans ((O5.out.grow A5.out).below hg8 (by simp; omega)))); clear hown8 hg8))
          replace R := Lib.hid (R.out.grow B8.out)
          replace U := Lib.hid (U.out.grow B8.out)
          replace BB := Lib.hid (BB.out.trans (B8.out.mono BB.out.size))
          go_wp2_with fail
          refine (mostI_is R.out O8.out.row HY.out).mono ?_
          rintro e wv5 ⟨rfl, b9⟩
          replace R := Lib.hid (R.out.grow b9)
          replace U := Lib.hid (U.out.grow b9)
          replace O8 := Lib.hid (O8.out.grow b9)
          replace BB := Lib.hid (BB.out.trans (b9.mono BB.out.size))
          clear b9
          have yc : y = z ∨ y = z + 1 := by omega
          rcases yc with rfl | rfl
          · skip
            go_wp2_with fail
            go_ret
            exact ⟨by first | rfl | (simp; done) | (simp; omega), BB.out⟩
          · have e8 : (z + 1 == z) = false := by simp; omega
            go_wp2_with fail
            go_ret
            exact ⟨by first | rfl | (simp; done) | (simp; omega), BB.out⟩

set_option maxRecDepth 100000 in
theorem lifted (os : Os) (started : os.Started) (H : Type) (enc : TypeId × Value → H) :
    ReturnsInHanded {} Try.checked os 7 .any (Rows.fnMatchMostAddSpec.pre6 enc Try.prog Try.f7 Rows.fnMatchMostAddRow.domain false) (Rows.fnMatchMostAddSpec.post enc Try.prog Try.f7 false true false false) := by
  refine returnsInHanded_of_change (C := Try.checked) own started (by kernel_rfl) Try.func7
    (ChangeSpec.witness6 (enc := enc) (C := Try.checked) false ⟨#[], #[.slice none 0 0, .slice none 0 0], []⟩ 8 (by kernel_rfl) (by kernel_rfl) (by kernel_rfl) (by kernel_rfl)) ?_
  intro W base args ds gs before hval0 hW hcnd _
  have hval : ∀ (j : Nat) t v, Try.f7.params[j]? = some t → args[j]? = some v → Value.okWide Try.prog W .any base t v := hval0
  have hW' := hW
  obtain ⟨p, q, hA0, hV, rfl, hfz, hnd⟩ := hW
  have hA : DataW.TrodAll enc Try.prog W 0 (fun _ => true) true Try.f7.params.toList args.toList ds p := hA0
  rw [Try.params7] at hA hval
  obtain ⟨v0, vs0, d0, ds0, p0, q0, hargs, rfl, rfl, h0, r0⟩ := trodAll_cons hA
  obtain ⟨v1, vs1, d1, ds1, p1, q1, rfl, rfl, rfl, h1, r1⟩ := trodAll_cons r0
  obtain ⟨rfl, rfl, rfl⟩ := trodAll_nil r1
  obtain rfl : args = #[v0, v1] := by cases args; simp_all
  obtain ⟨rfl, rfl⟩ := trodVars_none hV
  obtain ⟨a0, len0, cap0, rfl⟩ := okWide_slice Try.underlying22 (hval 0 22 v0 rfl rfl)
  have k0 := h0
  have lt0 : ∀ x ∈ p0, x.block < W.heap.size := by obtain ⟨m, hm⟩ := k0; exact DataW.trod_lt m _ _ _ hm
  obtain ⟨z0, w0⟩ : ∃ zs, IsRow .u8 W a0 len0 cap0 zs := by
    obtain ⟨fuel, hf⟩ := h0
    rcases open_ints Try.underlying22 Try.underlying5 (by kernel_rfl) hf with ⟨hcs, _⟩ | ⟨x, l, c, zs, hcs, _, hl, hm, hz, _, hcell, hwz⟩
    · simp [Value.cells] at hcs
      obtain ⟨rfl, rfl, rfl⟩ := hcs
      exact ⟨[], .inl ⟨rfl, rfl, rfl, rfl⟩⟩
    · simp [Value.cells] at hcs
      obtain ⟨rfl, rfl, rfl⟩ := hcs
      exact ⟨zs, .inr ⟨_, rfl, hl, hm, by simpa using hz, hcell, hwz⟩⟩
  obtain ⟨a1, len1, cap1, rfl⟩ := okWide_slice Try.underlying22 (hval 1 22 v1 rfl rfl)
  have k1 := h1
  have lt1 : ∀ x ∈ p1, x.block < W.heap.size := by obtain ⟨m, hm⟩ := k1; exact DataW.trod_lt m _ _ _ hm
  obtain ⟨z1, w1⟩ : ∃ zs, IsRow .u8 W a1 len1 cap1 zs := by
    obtain ⟨fuel, hf⟩ := h1
    rcases open_ints Try.underlying22 Try.underlying5 (by kernel_rfl) hf with ⟨hcs, _⟩ | ⟨x, l, c, zs, hcs, _, hl, hm, hz, _, hcell, hwz⟩
    · simp [Value.cells] at hcs
      obtain ⟨rfl, rfl, rfl⟩ := hcs
      exact ⟨[], .inl ⟨rfl, rfl, rfl, rfl⟩⟩
    · simp [Value.cells] at hcs
      obtain ⟨rfl, rfl, rfl⟩ := hcs
      exact ⟨zs, .inr ⟨_, rfl, hl, hm, by simpa using hz, hcell, hwz⟩⟩
  clear hA0 hval0
  refine (walk a0 len0 cap0 z0 a1 len1 cap1 z1 W w0 w1).mono fun e W' ⟨he, bel⟩ => ?_
  subst he
  exact ⟨_, rfl, _, _, _, [], _, [], hW', trodAll_mk1 (shut_bool Try.underlying4 _), (trodAll_cons_mk (Below.trod laidOut (by kernel_rfl) (of_decide_eq_true (by kernel_rfl)) k0 bel lt0) (trodAll_cons_mk (Below.trod laidOut (by kernel_rfl) (of_decide_eq_true (by kernel_rfl)) k1 bel lt1) trodAll_mk0)), rfl, bel.frame _, fun h => by cases h⟩

theorem over : Rows.fnMatchMostAddRow.holds Try.pinned (OpenSpec.ofChange Rows.fnMatchMostAddSpec) :=
  OpenClaim.holds_of_wide 7 Try.f7 rfl rfl rfl rfl rfl rfl rfl ⟨rfl, rfl, rfl, rfl, rfl⟩ rfl rfl rfl rfl rfl (by kernel_rfl) Try.func7 (by kernel_rfl)
    (of_decide_eq_true (by kernel_rfl)) (by unfold Func.isWrapper; first | (rw [if_pos (by decide +kernel)]; kernel_rfl) | (rw [if_neg (by decide +kernel)]; exact ⟨rfl, rfl⟩))
    (fun os started H enc _ => lifted os started H enc)

/-- ████ THE STATEMENT ████ -/
theorem proved : Rows.FnMatchMostAddSaid := over
#print axioms proved
end Go.Proofs.Ytmibipnkjpkngab.fnMatchMostAdd
