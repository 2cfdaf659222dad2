/- For every input, the law FnMatchCountLast of the given statements returns true over the program at this commit, and its arguments read afterwards as before: no condition. -/
import Derived.Test.YtmibipnkjpkngabRows
import Derived.Test.YtmibipnkjpkngabLawE
import Derived.WalkKit
import Derived.ProofKit
import Derived.OpenShut
import Derived.ShutString
import Derived.ChangeOld
import Derived.Below
namespace Go.Proofs.Ytmibipnkjpkngab.fnMatchCountLast
open Go.ChangeShapes Go.WideShapes Go.ChangeAt Go.RowKit
open Go.ChangeMaps (open_string shut_string)
set_option linter.unusedVariables false

theorem own : ownKnob Try.prog.godebug = none := by kernel_rfl
theorem laidOut : laidOutB Try.prog = true := by kernel_rfl

/-- WHAT THE WALK IS TOLD OF A SLICE OF INTEGERS THAT CAME IN: it is nil; or it leads to a row of 'cap' cells, the numbers 'zs' (the first 'len' are its elements, the rest its spare room), each fitting its kind. -/
def IsRow (k : IntKind) (w : World) (a : Option Addr) (len cap : Nat) (zs : List Int) : Prop :=
  (a = none ∧ len = 0 ∧ cap = 0 ∧ zs = []) ∨
  ∃ x, a = some x ∧ len ≤ cap ∧ cap ≤ maxLen ∧ zs.length = cap ∧ (∀ i, i < zs.length → w.cell? (x.add i) = some (.int k (zs.getD i 0))) ∧ ∀ n ∈ zs, (Lit.int k n).wf = true

set_option maxRecDepth 100000 in
set_option maxHeartbeats 3200000 in
theorem walk (a0 : Option Addr) (len0 cap0 : Nat) (z0 : List Int) (w : World) (w0 : IsRow .u8 w a0 len0 cap0 z0) :
    Calls Try.prog 5 #[.slice a0 len0 cap0] w fun e w' => e = .returned (.bool true) ∧ Below w.heap.size w w' := by
  have hB := bytes_of w0
  by_cases hl : 1048576 < len0
  · have hdec : decide (1048576 < len0) = true := by simpa using hl
    go_enter Try.func5, Try.ntmps5
    go_wp2_with fail
    go_ret
    exact ⟨rfl, Below.refl _ _⟩
  have hdec : decide (1048576 < len0) = false := by simpa using hl
  have hm : len0 ≤ 1048576 := by omega
  go_enter Try.func5, Try.ntmps5
  go_wp2_with fail
  refine (DrawMatchCount_any hB).mono ?_
  rintro e wv1 ⟨v, u, a, b, t, rfl, r0, r1, da, db, ht, b1⟩
  clear w0 hB
  have BB := Lib.hid b1
  clear b1
  have R := Lib.hid r0
  clear r0
  have U := Lib.hid r1
  clear r1
  have ha6 := da.1
  have hb6 := db.1
  obtain ⟨aR, cR, rfl, kR, mR⟩ := elen_n R.out
  obtain ⟨aU, cU, rfl, kU, mU⟩ := elen_n U.out
  obtain ⟨z, hz⟩ : ∃ x : Int, countB a b t = x := ⟨_, rfl⟩
  have HZ := Lib.hid hz
  by_cases hneg : z < 0
  · clear hz
    go_wp2_with fail
    refine (countI_is R.out U.out HZ.out).mono ?_
    rintro e wv2 ⟨rfl, b9⟩
    replace R := Lib.hid (R.out.grow b9)
    replace U := Lib.hid (U.out.grow b9)
    replace BB := Lib.hid (BB.out.trans (b9.mono BB.out.size))
    clear b9
    go_wp2_with fail
    refine (countSB R.out U.out HZ.out).mono ?_
    rintro e wv3 ⟨rfl, b9⟩
    replace R := Lib.hid (R.out.grow b9)
    replace U := Lib.hid (U.out.grow b9)
    replace BB := Lib.hid (BB.out.trans (b9.mono BB.out.size))
    clear b9
    go_wp2_with fail
    go_ret
    exact ⟨by first | rfl | (simp; done) | (simp; omega), BB.out⟩
  · have hb := countB_iff.1 (show 0 ≤ countB a b t by omega)
    have HB := Lib.hid hb
    have g0 : decide (z < 0) = false := by simpa using hneg
    obtain ⟨va, vb, vt⟩ := argsOk_iff.1 hb
    have a8 := isEv_len va
    have b8 := isEv_len vb
    obtain ⟨t0, t1⟩ := tolOk_iff.1 vt
    have VA := Lib.hid va; have VB := Lib.hid vb
    have zb := countB_bound a b t
    rw [hz] at zb
    have z0 : 0 ≤ z := by omega
    clear va vb vt hb hz hneg
    go_wp2_with fail
    refine (countI_is R.out U.out HZ.out).mono ?_
    rintro e wv2 ⟨rfl, b9⟩
    replace R := Lib.hid (R.out.grow b9)
    replace U := Lib.hid (U.out.grow b9)
    replace BB := Lib.hid (BB.out.trans (b9.mono BB.out.size))
    clear b9
    go_wp2_with fail
    refine (countSB R.out U.out HZ.out).mono ?_
    rintro e wv3 ⟨rfl, b9⟩
    replace R := Lib.hid (R.out.grow b9)
    replace U := Lib.hid (U.out.grow b9)
    replace BB := Lib.hid (BB.out.trans (b9.mono BB.out.size))
    clear b9
    by_cases h0 : a.length = 0
    · have hz1 : z = 1 := by
        have := HZ.out
        rw [List.eq_nil_of_length_eq_zero h0, countB_yes (by have := HB.out; rwa [List.eq_nil_of_length_eq_zero h0] at this)] at this
        rw [← this, show sizes [] = [] from rfl, cnt_nil]; rfl
      subst hz1
      have i0 : (a.length : Int) = 0 := by omega
      clear h0
      go_wp2_with fail
      go_ret
      exact ⟨by first | rfl | (simp; done) | (simp; omega), BB.out⟩
    · have p0 : 0 < a.length := by omega
      have hl := countB_last HB.out p0
      rw [HZ.out] at hl
      obtain ⟨q, hq⟩ : ∃ q, a.length - 1 = q := ⟨_, rfl⟩
      have hqa : q < a.length := by omega
      have w2 : IntKind.i64.wrap ((a.length : Int) - 1) = (q : Int) := by rw [show (a.length : Int) - 1 = (q : Int) by omega]; exact IntWalk.i64_in _ (by omega)
      have i0 : ¬ (a.length : Int) = 0 := by omega
      have i1 : (0 : Int) ≤ (q : Int) := by omega
      have i3 : (q : Int) < (a.length : Int) := by omega
      have i2 : (q : Int) ≤ (cR : Int) := by omega
      have QL : Hid (q ≤ a.length) := Lib.hid (by omega)
      simp only [hq] at hl
      obtain ⟨gR, oR, pR, eR, k1R, k2R⟩ := eknown_n R.out p0
      simp only [Value.slice.injEq, true_and] at eR
      obtain ⟨rfl, rfl⟩ := eR
      obtain ⟨d1, d2⟩ := R.out.cells q hqa
      have xb := isEv_get VA.out hqa
      obtain ⟨x1, hx1⟩ : ∃ x, a[q].1 = x := ⟨_, rfl⟩
      obtain ⟨x, hx⟩ : ∃ x, a[q].2 = x := ⟨_, rfl⟩
      rw [hx1] at d1
      rw [hx] at d2 xb hl
      clear hx1 hx p0 hq
      have ra : argsOk (a.take q) b t = true := by
        obtain ⟨h1, h2, h3⟩ := argsOk_iff.1 HB.out
        exact argsOk_iff.2 ⟨isEv_take h1 _, h2, h3⟩
      have RA := Lib.hid ra
      obtain ⟨n0, hn0⟩ : ∃ x : Int, countB (a.take q) b t = x := ⟨_, rfl⟩
      have nb := countB_bound (a.take q) b t
      have n1 := countB_iff.2 ra
      rw [hn0] at nb n1 hl
      have HN := Lib.hid hn0; have HL := Lib.hid hl
      have LB := Lib.hid (fun j hj => lastP_bound (x := x) (s := sizes (a.take q)) ra (by rw [sizes_length, List.length_take]; omega) j hj)
      clear ra hn0 hl
      have b9 := (Below.refl wv3.heap.size wv3).alloc (Nat.le_refl _) (.cells #[.int .i64 x1, .int .i64 x] 34)
      have C9 : Hid ((wv3.alloc (.cells #[.int .i64 x1, .int .i64 x] 34)).cell? ⟨wv3.heap.size, 1, none⟩ = some (.int .i64 x)) := Lib.hid (by simp)
      replace R := Lib.hid (R.out.grow b9)
      replace U := Lib.hid (U.out.grow b9)
      replace BB := Lib.hid (BB.out.trans (b9.mono BB.out.size))
      clear b9
      have TK := Lib.hid (R.out.take q QL.out)
      go_wp2_with fail
      refine (countI_is TK.out U.out HN.out).mono ?_
      rintro e wv4 ⟨rfl, b9⟩
      have e9 : wv4.cell? ⟨wv3.heap.size, 1, none⟩ = some (.int .i64 x) := (b9.cell (cell_below C9.out)).trans C9.out
      have E9 := Lib.hid e9
      clear e9 d1 d2 C9
      replace R := Lib.hid (R.out.grow b9)
      replace U := Lib.hid (U.out.grow b9)
      replace TK := Lib.hid (TK.out.grow b9)
      replace BB := Lib.hid (BB.out.trans (b9.mono BB.out.size))
      clear b9
      go_wp2_with fail
      go_loopg [9, 10] b.length (fun k p r wr => ∃ j : Nat, p = .int .i64 (n0 + ((lastP t x (sizes (a.take q)) (sizes b) j : Nat) : Int)) ∧ r = .int .i64 j ∧ j + k = b.length ∧ Below wv4.heap.size wv4 wr)
      case atStart => exact ⟨0, by simp [lastP], rfl, by omega, Below.refl _ _⟩
      case round =>
        obtain ⟨wv5, rfl⟩ : ∃ x, x = wr := ⟨wr, rfl⟩
        obtain ⟨j, rfl, rfl, hk, hb⟩ := hrel
        have K := Lib.hid hk; have B := Lib.hid hb
        have hjn : j ≤ b.length := by omega
        have lb := LB.out j hjn
        obtain ⟨L, hL⟩ : ∃ L, lastP t x (sizes (a.take q)) (sizes b) j = L := ⟨_, rfl⟩
        rw [hL] at lb ⊢
        have LL := Lib.hid hL
        clear hk hb hL
        replace R := Lib.hid (R.out.grow B.out)
        replace U := Lib.hid (U.out.grow B.out)
        replace TK := Lib.hid (TK.out.grow B.out)
        replace BB := Lib.hid (BB.out.trans (B.out.mono BB.out.size))
        by_cases hlt : j < b.length
        · have i4 : (j : Int) < (b.length : Int) := by omega
          have i5 : (0 : Int) ≤ (j : Int) := by omega
          have i6 : (j : Int) ≤ (cU : Int) := by omega
          have e9 := (B.out.cell (cell_below E9.out)).trans E9.out
          obtain ⟨gU, oU, pU, eU, k5, k6⟩ := eknown_n U.out (by omega)
          simp only [Value.slice.injEq, true_and] at eU
          obtain ⟨rfl, rfl⟩ := eU
          clear k5 k6
          have d4 := (U.out.cells j hlt).2
          have yb := isEv_get VB.out hlt
          have lst := lastP_step t x (sizes (a.take q)) b hlt
          rw [LL.out] at lst
          obtain ⟨y, hy⟩ : ∃ y, b[j].2 = y := ⟨_, rfl⟩
          rw [hy] at d4 yb lst
          clear hy
          obtain ⟨d5, hd5⟩ : ∃ d, x - y = d := ⟨_, rfl⟩
          obtain ⟨d6, hd6⟩ : ∃ d, y - x = d := ⟨_, rfl⟩
          have w3 : IntKind.i64.wrap (x - y) = d5 := by rw [← hd5]; exact IntWalk.i64_in _ (by omega)
          have w4 : IntKind.i64.wrap (y - x) = d6 := by rw [← hd6]; exact IntWalk.i64_in _ (by omega)
          obtain ⟨g, hg1, hg2, hg3⟩ : ∃ g : Int, (if d6 < d5 then d5 else d6) = g ∧ (if d5 < d6 then d6 else d5) = g ∧ (like t x y = decide (g ≤ t)) := by
            have lk : like t x y = (decide (d5 ≤ t) && decide (d6 ≤ t)) := by unfold like; rw [hd5, hd6]
            by_cases c : d6 < d5
            · exact ⟨d5, by rw [if_pos c], by rw [if_neg (by omega)], by rw [lk, Bool.eq_iff_iff]; simp; omega⟩
            · by_cases d : d5 < d6
              · exact ⟨d6, by rw [if_neg c], by rw [if_pos d], by rw [lk, Bool.eq_iff_iff]; simp; omega⟩
              · exact ⟨d6, by rw [if_neg c], by rw [if_neg d]; omega, by rw [lk, Bool.eq_iff_iff]; simp; omega⟩
          rw [hg3] at lst
          clear hd5 hd6 hg3
          by_cases hlike : g ≤ t
          · rw [decide_eq_true hlike, if_pos rfl] at lst
            have ra2 : argsOk (a.take q) (b.take j) t = true := by
              obtain ⟨h1, h2, h3⟩ := argsOk_iff.1 RA.out
              exact argsOk_iff.2 ⟨h1, isEv_take h2 _, h3⟩
            obtain ⟨c, hc⟩ : ∃ c, cnt t (sizes (a.take q)) (sizes (b.take j)) = c := ⟨_, rfl⟩
            have HC : Hid (countB (a.take q) (b.take j) t = (c : Int)) := Lib.hid (by rw [countB_yes ra2, hc])
            rw [hc] at lst
            have lb2 := LB.out (j + 1) (by omega)
            rw [lst] at lb2
            have LS := Lib.hid lst
            have w5 : IntKind.i64.wrap (n0 + (L : Int) + (c : Int)) = n0 + (L : Int) + (c : Int) := IntWalk.i64_in _ (by omega)
            have TB := Lib.hid (U.out.take j hjn)
            clear ra2 hc lst lb2
            have keep0 := (Below.refl wv5.heap.size wv5).drew.drew
            go_wp2_with fail
            go_region
            go_wp2_with fail
            go_region_held3 (fun w' => Below wv5.heap.size wv5 w')
              (first | (with_reducible exact keep0) | (with_reducible exact hs1) | assumption)
              ((refine (countI_is (TK.out.grow (by assumption)) (TB.out.grow (by assumption)) HC.out).mono ?_; rintro e w1 ⟨rfl, b1⟩; have hs1 := Below.trans (by assumption) (Below.mono b1 (Below.size (by assumption)))))
            all_goals
              have B5 := Lib.hid (B.out.trans (hs1.mono B.out.size))
              go_wp2_with fail
              go_roundg (gk - 1)
              case measure => have := K.out; omega
              case rel => exact ⟨j + 1, by rw [LS.out]; congr 1; omega, by go_num, by have := K.out; omega, B5.out⟩
          · rw [decide_eq_false hlike] at lst
            simp only [Bool.false_eq_true, if_false, Nat.add_zero] at lst
            have LS := Lib.hid lst
            clear lst
            go_wp2_with fail
            go_region
            go_wp2_with fail
            go_roundg (gk - 1)
            case measure => have := K.out; omega
            case rel => exact ⟨j + 1, by rw [LS.out], by go_num, by have := K.out; omega, below_drews B.out _⟩
        · have hj : j = b.length := by omega
          have hz2 : n0 + (L : Int) = z := by have := HL.out; rw [← hj, LL.out] at this; omega
          clear hj
          go_wp2_with fail
          go_ret
          exact ⟨by first | rfl | (simp; done) | (simp; omega), BB.out⟩

set_option maxRecDepth 100000 in
theorem lifted (os : Os) (started : os.Started) (H : Type) (enc : TypeId × Value → H) :
    ReturnsInHanded {} Try.checked os 5 .any (Rows.fnMatchCountLastSpec.pre6 enc Try.prog Try.f5 Rows.fnMatchCountLastRow.domain false) (Rows.fnMatchCountLastSpec.post enc Try.prog Try.f5 false true false false) := by
  refine returnsInHanded_of_change (C := Try.checked) own started (by kernel_rfl) Try.func5
    (ChangeSpec.witness6 (enc := enc) (C := Try.checked) false ⟨#[], #[.slice none 0 0], []⟩ 8 (by kernel_rfl) (by kernel_rfl) (by kernel_rfl) (by kernel_rfl)) ?_
  intro W base args ds gs before hval0 hW hcnd _
  have hval : ∀ (j : Nat) t v, Try.f5.params[j]? = some t → args[j]? = some v → Value.okWide Try.prog W .any base t v := hval0
  have hW' := hW
  obtain ⟨p, q, hA0, hV, rfl, hfz, hnd⟩ := hW
  have hA : DataW.TrodAll enc Try.prog W 0 (fun _ => true) true Try.f5.params.toList args.toList ds p := hA0
  rw [Try.params5] at hA hval
  obtain ⟨v0, vs0, d0, ds0, p0, q0, hargs, rfl, rfl, h0, r0⟩ := trodAll_cons hA
  obtain ⟨rfl, rfl, rfl⟩ := trodAll_nil r0
  obtain rfl : args = #[v0] := by cases args; simp_all
  obtain ⟨rfl, rfl⟩ := trodVars_none hV
  obtain ⟨a0, len0, cap0, rfl⟩ := okWide_slice Try.underlying22 (hval 0 22 v0 rfl rfl)
  have k0 := h0
  have lt0 : ∀ x ∈ p0, x.block < W.heap.size := by obtain ⟨m, hm⟩ := k0; exact DataW.trod_lt m _ _ _ hm
  obtain ⟨z0, w0⟩ : ∃ zs, IsRow .u8 W a0 len0 cap0 zs := by
    obtain ⟨fuel, hf⟩ := h0
    rcases open_ints Try.underlying22 Try.underlying5 (by kernel_rfl) hf with ⟨hcs, _⟩ | ⟨x, l, c, zs, hcs, _, hl, hm, hz, _, hcell, hwz⟩
    · simp [Value.cells] at hcs
      obtain ⟨rfl, rfl, rfl⟩ := hcs
      exact ⟨[], .inl ⟨rfl, rfl, rfl, rfl⟩⟩
    · simp [Value.cells] at hcs
      obtain ⟨rfl, rfl, rfl⟩ := hcs
      exact ⟨zs, .inr ⟨_, rfl, hl, hm, by simpa using hz, hcell, hwz⟩⟩
  clear hA0 hval0
  refine (walk a0 len0 cap0 z0 W w0).mono fun e W' ⟨he, bel⟩ => ?_
  subst he
  exact ⟨_, rfl, _, _, _, [], _, [], hW', trodAll_mk1 (shut_bool Try.underlying4 _), (trodAll_cons_mk (Below.trod laidOut (by kernel_rfl) (of_decide_eq_true (by kernel_rfl)) k0 bel lt0) trodAll_mk0), rfl, bel.frame _, fun h => by cases h⟩

theorem over : Rows.fnMatchCountLastRow.holds Try.pinned (OpenSpec.ofChange Rows.fnMatchCountLastSpec) :=
  OpenClaim.holds_of_wide 5 Try.f5 rfl rfl rfl rfl rfl rfl rfl ⟨rfl, rfl, rfl, rfl, rfl⟩ rfl rfl rfl rfl rfl (by kernel_rfl) Try.func5 (by kernel_rfl)
    (of_decide_eq_true (by kernel_rfl)) (by unfold Func.isWrapper; first | (rw [if_pos (by decide +kernel)]; kernel_rfl) | (rw [if_neg (by decide +kernel)]; exact ⟨rfl, rfl⟩))
    (fun os started H enc _ => lifted os started H enc)

/-- ████ THE STATEMENT ████ -/
theorem proved : Rows.FnMatchCountLastSaid := over
#print axioms proved
end Go.Proofs.Ytmibipnkjpkngab.fnMatchCountLast
