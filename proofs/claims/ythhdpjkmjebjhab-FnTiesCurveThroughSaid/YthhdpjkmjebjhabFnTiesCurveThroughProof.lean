/- For every input, the law FnTiesCurveThrough of the given statements returns true over the program at this commit, and its arguments read afterwards as before: no condition. -/
import Derived.Test.YthhdpjkmjebjhabRows
import Derived.Test.YthhdpjkmjebjhabLawTC
import Derived.WalkKit
import Derived.ProofKit
import Derived.OpenShut
import Derived.ShutString
import Derived.ChangeOld
import Derived.Below
namespace Go.Proofs.Ythhdpjkmjebjhab.fnTiesCurveThrough
open Go.ChangeShapes Go.WideShapes Go.ChangeAt Go.RowKit
open Go.ChangeMaps (open_string shut_string)
set_option linter.unusedVariables false

theorem own : ownKnob Try.prog.godebug = none := by kernel_rfl
theorem laidOut : laidOutB Try.prog = true := by kernel_rfl

/-- WHAT THE WALK IS TOLD OF A SLICE OF INTEGERS THAT CAME IN: it is nil; or it leads to a row of 'cap' cells, the numbers 'zs' (the first 'len' are its elements, the rest its spare room), each fitting its kind. -/
def IsRow (k : IntKind) (w : World) (a : Option Addr) (len cap : Nat) (zs : List Int) : Prop :=
  (a = none ∧ len = 0 ∧ cap = 0 ∧ zs = []) ∨
  ∃ x, a = some x ∧ len ≤ cap ∧ cap ≤ maxLen ∧ zs.length = cap ∧ (∀ i, i < zs.length → w.cell? (x.add i) = some (.int k (zs.getD i 0))) ∧ ∀ n ∈ zs, (Lit.int k n).wf = true

set_option maxRecDepth 100000 in
set_option maxHeartbeats 3200000 in
theorem walk (a0 : Option Addr) (len0 cap0 : Nat) (z0 : List Int) (w : World) (w0 : IsRow .u8 w a0 len0 cap0 z0) :
    Calls Try.prog 9 #[.slice a0 len0 cap0] w fun e w' => e = .returned (.bool true) ∧ Below w.heap.size w w' := by
  have hB := bytes_of w0
  by_cases hl : 1048576 < len0
  · have hdec : decide (1048576 < len0) = true := by simpa using hl
    go_enter Try.func9, Try.ntmps9
    go_wp2_with fail
    go_ret
    exact ⟨rfl, Below.refl _ _⟩
  have hdec : decide (1048576 < len0) = false := by simpa using hl
  have hm : len0 ≤ 1048576 := by omega
  go_enter Try.func9, Try.ntmps9
  go_wp2_with fail
  refine (DrawTiesThrough_any hB).mono ?_
  rintro e wv1 ⟨v, u, a, b, rfl, r0, r1, da, db, b1⟩
  clear w0 hB
  have BB := Lib.hid b1
  clear b1
  have R := Lib.hid r0
  clear r0
  have U := Lib.hid r1
  clear r1
  have ha8 := da.1
  have hb8 := db.1
  obtain ⟨aR, cR, rfl, kR, mR⟩ := tlen_n R.out.row
  obtain ⟨aU, cU, rfl, kU, mU⟩ := tlen_n U.out.row
  clear da db
  cases hb : thrT a b with
  | none =>
    have HB := Lib.hid hb
    clear hb
    go_wp2_with fail
    refine (lst_no (implThr_any R.out.row U.out.row) HB.out).mono ?_
    rintro e wv2 ⟨vX, rfl, o9, b9⟩
    replace R := Lib.hid (R.out.grow b9)
    replace U := Lib.hid (U.out.grow b9)
    replace BB := Lib.hid (BB.out.trans (b9.mono BB.out.size))
    clear b9
    have X := Lib.hid o9
    clear o9
    go_wp2_with fail
    refine (lst_no (specThr_any R.out.row U.out.row) HB.out).mono ?_
    rintro e wv3 ⟨vY, rfl, o9, b9⟩
    replace R := Lib.hid (R.out.grow b9)
    replace U := Lib.hid (U.out.grow b9)
    replace X := Lib.hid (X.out.grow b9)
    replace BB := Lib.hid (BB.out.trans (b9.mono BB.out.size))
    clear b9
    have Y := Lib.hid o9
    clear o9
    go_wp2_with fail
    refine (sameTies_yes X.out.row Y.out.row rfl).mono ?_
    rintro e wv4 ⟨rfl, b9⟩
    replace R := Lib.hid (R.out.grow b9)
    replace U := Lib.hid (U.out.grow b9)
    replace X := Lib.hid (X.out.grow b9)
    replace Y := Lib.hid (Y.out.grow b9)
    replace BB := Lib.hid (BB.out.trans (b9.mono BB.out.size))
    clear b9
    go_wp2_with fail
    refine (sameTies_yes X.out.row Y.out.row rfl).mono ?_
    rintro e wv5 ⟨rfl, b9⟩
    replace R := Lib.hid (R.out.grow b9)
    replace U := Lib.hid (U.out.grow b9)
    replace X := Lib.hid (X.out.grow b9)
    replace Y := Lib.hid (Y.out.grow b9)
    replace BB := Lib.hid (BB.out.trans (b9.mono BB.out.size))
    clear b9
    go_wp2_with fail
    go_ret
    exact ⟨by first | rfl | (simp; done) | (simp; omega), BB.out⟩
  | some m =>
    have HB := Lib.hid hb
    clear hb
    go_wp2_with fail
    refine (lst_yes (implThr_any R.out.row U.out.row) HB.out).mono ?_
    rintro e wv2 ⟨vP, rfl, o9, b9⟩
    replace R := Lib.hid (R.out.grow b9)
    replace U := Lib.hid (U.out.grow b9)
    replace BB := Lib.hid (BB.out.trans (b9.mono BB.out.size))
    clear b9
    have P := Lib.hid o9
    clear o9
    go_wp2_with fail
    refine (lst_yes (specThr_any R.out.row U.out.row) HB.out).mono ?_
    rintro e wv3 ⟨vY, rfl, o9, b9⟩
    replace R := Lib.hid (R.out.grow b9)
    replace U := Lib.hid (U.out.grow b9)
    replace P := Lib.hid (P.out.grow b9)
    replace BB := Lib.hid (BB.out.trans (b9.mono BB.out.size))
    clear b9
    have Y := Lib.hid o9
    clear o9
    go_wp2_with fail
    refine (sameTies_yes P.out.row Y.out.row rfl).mono ?_
    rintro e wv4 ⟨rfl, b9⟩
    replace R := Lib.hid (R.out.grow b9)
    replace U := Lib.hid (U.out.grow b9)
    replace P := Lib.hid (P.out.grow b9)
    replace Y := Lib.hid (Y.out.grow b9)
    replace BB := Lib.hid (BB.out.trans (b9.mono BB.out.size))
    clear b9
    clear Y
    obtain ⟨aP, cP, rfl, kP, mP⟩ := tlen_n P.out.row
    have vab : isTies a = true ∧ isTies b = true := by
      cases c : isTies a
      · have := HB.out; rw [thrT_no (.inl c)] at this; cases this
      · cases d : isTies b
        · have := HB.out; rw [thrT_no (.inr d)] at this; cases this
        · exact ⟨rfl, rfl⟩
    have VA := Lib.hid vab.1; have VB := Lib.hid vab.2
    have hm9 : thr a b = m := by have := HB.out; rw [thrT_yes vab.1 vab.2] at this; exact Option.some.inj this
    have HM := Lib.hid hm9
    have lo : m.length ≤ a.length ∧ m.length ≤ b.length := by rw [← hm9]; exact (isTies_thr vab.1 vab.2).2
    have VO : Hid (isTies m = true) := Lib.hid (by rw [← hm9]; exact (isTies_thr vab.1 vab.2).1)
    have a12 := isTies_len VA.out
    have b12 := isTies_len VB.out
    have UA := Lib.hid (isTies_iff.1 VA.out).1.up; have UB := Lib.hid (isTies_iff.1 VB.out).1.up
    clear vab hm9
    have i8 : (m.length : Int) ≤ (b.length : Int) := by omega
    have XM : Hid (∀ x ∈ m, x ∈ thr a b) := Lib.hid (fun x hx => by rw [HM.out]; exact hx)
    by_cases hX : a.length < 2
    · have EX := Lib.hid (curT_no (l := a) (.inr hX))
      go_wp2_with fail
      refine (lst_no (implCur_any R.out.row) EX.out).mono ?_
      rintro e wv5 ⟨vX, rfl, o9, b9⟩
      replace R := Lib.hid (R.out.grow b9)
      replace U := Lib.hid (U.out.grow b9)
      replace P := Lib.hid (P.out.grow b9)
      replace BB := Lib.hid (BB.out.trans (b9.mono BB.out.size))
      clear b9
      have X := Lib.hid o9
      clear o9
      by_cases hY : b.length < 2
      · have EY := Lib.hid (curT_no (l := b) (.inr hY))
        go_wp2_with fail
        refine (lst_no (implCur_any U.out.row) EY.out).mono ?_
        rintro e wv6 ⟨vY, rfl, o9, b9⟩
        replace R := Lib.hid (R.out.grow b9)
        replace U := Lib.hid (U.out.grow b9)
        replace P := Lib.hid (P.out.grow b9)
        replace X := Lib.hid (X.out.grow b9)
        replace BB := Lib.hid (BB.out.trans (b9.mono BB.out.size))
        clear b9
        have Y := Lib.hid o9
        clear o9
        go_wp2_with fail
        go_loopg [13] 1 (fun k x wr => x = .int .i64 0 ∧ wv6 = wr)
        case atStart => exact ⟨rfl, rfl⟩
        case round =>
          obtain ⟨rfl, rfl⟩ := hrel
          by_cases m0 : (0 : Int) < (m.length : Int)
          · skip
            go_wp2_with fail
            go_ret
            exact ⟨by first | rfl | (simp; done) | (simp; omega), BB.out⟩
          · skip
            go_wp2_with fail
            go_ret
            exact ⟨by first | rfl | (simp; done) | (simp; omega), BB.out⟩
      · have EY := Lib.hid (curT_yes VB.out (show 2 ≤ b.length by omega))
        go_wp2_with fail
        refine (lst_yes (implCur_any U.out.row) EY.out).mono ?_
        rintro e wv6 ⟨vY, rfl, o9, b9⟩
        replace R := Lib.hid (R.out.grow b9)
        replace U := Lib.hid (U.out.grow b9)
        replace P := Lib.hid (P.out.grow b9)
        replace X := Lib.hid (X.out.grow b9)
        replace BB := Lib.hid (BB.out.trans (b9.mono BB.out.size))
        clear b9
        have Y := Lib.hid o9
        clear o9
        go_wp2_with fail
        go_loopg [13] 1 (fun k x wr => x = .int .i64 0 ∧ wv6 = wr)
        case atStart => exact ⟨rfl, rfl⟩
        case round =>
          obtain ⟨rfl, rfl⟩ := hrel
          by_cases m0 : (0 : Int) < (m.length : Int)
          · skip
            go_wp2_with fail
            go_ret
            exact ⟨by first | rfl | (simp; done) | (simp; omega), BB.out⟩
          · skip
            go_wp2_with fail
            go_ret
            exact ⟨by first | rfl | (simp; done) | (simp; omega), BB.out⟩
    · have EX := Lib.hid (curT_yes VA.out (show 2 ≤ a.length by omega))
      go_wp2_with fail
      refine (lst_yes (implCur_any R.out.row) EX.out).mono ?_
      rintro e wv5 ⟨vX, rfl, o9, b9⟩
      replace R := Lib.hid (R.out.grow b9)
      replace U := Lib.hid (U.out.grow b9)
      replace P := Lib.hid (P.out.grow b9)
      replace BB := Lib.hid (BB.out.trans (b9.mono BB.out.size))
      clear b9
      have X := Lib.hid o9
      clear o9
      by_cases hY : b.length < 2
      · have EY := Lib.hid (curT_no (l := b) (.inr hY))
        go_wp2_with fail
        refine (lst_no (implCur_any U.out.row) EY.out).mono ?_
        rintro e wv6 ⟨vY, rfl, o9, b9⟩
        replace R := Lib.hid (R.out.grow b9)
        replace U := Lib.hid (U.out.grow b9)
        replace P := Lib.hid (P.out.grow b9)
        replace X := Lib.hid (X.out.grow b9)
        replace BB := Lib.hid (BB.out.trans (b9.mono BB.out.size))
        clear b9
        have Y := Lib.hid o9
        clear o9
        go_wp2_with fail
        go_loopg [13] 1 (fun k x wr => x = .int .i64 0 ∧ wv6 = wr)
        case atStart => exact ⟨rfl, rfl⟩
        case round =>
          obtain ⟨rfl, rfl⟩ := hrel
          by_cases m0 : (0 : Int) < (m.length : Int)
          · skip
            go_wp2_with fail
            go_ret
            exact ⟨by first | rfl | (simp; done) | (simp; omega), BB.out⟩
          · skip
            go_wp2_with fail
            go_ret
            exact ⟨by first | rfl | (simp; done) | (simp; omega), BB.out⟩
      · have EY := Lib.hid (curT_yes VB.out (show 2 ≤ b.length by omega))
        go_wp2_with fail
        refine (lst_yes (implCur_any U.out.row) EY.out).mono ?_
        rintro e wv6 ⟨vY, rfl, o9, b9⟩
        replace R := Lib.hid (R.out.grow b9)
        replace U := Lib.hid (U.out.grow b9)
        replace P := Lib.hid (P.out.grow b9)
        replace X := Lib.hid (X.out.grow b9)
        replace BB := Lib.hid (BB.out.trans (b9.mono BB.out.size))
        clear b9
        have Y := Lib.hid o9
        clear o9
        go_wp2_with fail
        go_loopg [13] m.length (fun k x wr => ∃ j : Nat, x = .int .i64 j ∧ j + k = m.length ∧ Below wv6.heap.size wv6 wr)
        case atStart => exact ⟨0, rfl, by omega, Below.refl _ _⟩
        case round =>
          obtain ⟨wv7, rfl⟩ : ∃ x, x = wr := ⟨wr, rfl⟩
          obtain ⟨j, rfl, hk, hb⟩ := hrel
          have K := Lib.hid hk; have B := Lib.hid hb
          have hjn : j ≤ m.length := by omega
          clear hk hb
          replace R := Lib.hid (R.out.grow B.out)
          replace U := Lib.hid (U.out.grow B.out)
          replace P := Lib.hid (P.out.grow B.out)
          replace X := Lib.hid (X.out.grow B.out)
          replace Y := Lib.hid (Y.out.grow B.out)
          replace BB := Lib.hid (BB.out.trans (B.out.mono BB.out.size))
          by_cases hlt : j < m.length
          · have i1 : (j : Int) < (m.length : Int) := by omega
            have i2 : (0 : Int) ≤ (j : Int) := by omega
            obtain ⟨gP, pP, eP, k5, k6, k7, k8, hp⟩ := P.out.at (by omega)
            simp only [Value.slice.injEq] at eP
            obtain ⟨rfl, -, rfl⟩ := eP
            have d1 := (hp j hlt).top
            have d2 := (hp j hlt).bot
            have XT := Lib.hid (XM.out _ (List.getElem_mem hlt))
            obtain ⟨x, hx⟩ : ∃ x, m[j] = x := ⟨_, rfl⟩
            rw [hx] at d1 d2 XT
            obtain ⟨x1, x2⟩ := x
            have D2 := Lib.hid d2
            clear hp hx k5 k6 k7 k8 d2
            go_wp2_with fail
            refine (then_tie X.out.row Y.out.row VA.out (by omega) VB.out (by omega) XT.out).mono ?_
            rintro e wv8 ⟨rfl, b9⟩
            have t3 := (b9.cell (cell_below D2.out)).trans D2.out
            have t4 := cell_below t3
            have y0 : (wv8.alloc (.cells #[.int .i64 x2, .int .i64 1] 41)).cell? ⟨wv8.heap.size, 0, none⟩ = some (.int .i64 x2) := by go_cell
            have y1 : (wv8.alloc (.cells #[.int .i64 x2, .int .i64 1] 41)).cell? ⟨wv8.heap.size, 1, none⟩ = some (.int .i64 1) := by go_cell
            have c2 : (wv8.alloc (.cells #[.int .i64 x2, .int .i64 1] 41)).cell? _ = some (.int .i64 x2) := (World.cell?_alloc_lt _ _ _ t4).trans t3
            have b8 := B.out.trans (b9.mono B.out.size)
            have B7 := Lib.hid (b8.alloc b8.size (.cells #[.int .i64 x2, .int .i64 1] 41))
            clear b8 b9 t4 t3 d1
            go_upto_region 14 with fail
            generalize (wv8.alloc (.cells #[.int .i64 x2, .int .i64 1] 41)) = W4 at B7 y0 y1 c2 ⊢
            have mkS : ∀ w' : World, Below W4.heap.size W4 w' → (Below W4.heap.size W4 w' ∧ w'.cell? ⟨wv8.heap.size, 0, none⟩ = some (.int .i64 x2) ∧ w'.cell? ⟨wv8.heap.size, 1, none⟩ = some (.int .i64 1) ∧ w'.cell? ⟨gP, j * 2 + 1, none⟩ = some (.int .i64 x2)) := fun w' b => ⟨b, (b.cell (cell_below y0)).trans y0, (b.cell (cell_below y1)).trans y1, (b.cell (cell_below c2)).trans c2⟩
            have held : ∀ W w' : World, Below W.heap.size W w' → (Below W4.heap.size W4 W ∧ W.cell? ⟨wv8.heap.size, 0, none⟩ = some (.int .i64 x2) ∧ W.cell? ⟨wv8.heap.size, 1, none⟩ = some (.int .i64 1) ∧ W.cell? ⟨gP, j * 2 + 1, none⟩ = some (.int .i64 x2)) → (Below W4.heap.size W4 w' ∧ w'.cell? ⟨wv8.heap.size, 0, none⟩ = some (.int .i64 x2) ∧ w'.cell? ⟨wv8.heap.size, 1, none⟩ = some (.int .i64 1) ∧ w'.cell? ⟨gP, j * 2 + 1, none⟩ = some (.int .i64 x2)) := fun W w' b h => mkS w' (h.1.trans (b.mono h.1.size))
            have keep0 := mkS _ (Below.refl W4.heap.size W4).drew
            go_region_held3 (fun w' => (Below W4.heap.size W4 w' ∧ w'.cell? ⟨wv8.heap.size, 0, none⟩ = some (.int .i64 x2) ∧ w'.cell? ⟨wv8.heap.size, 1, none⟩ = some (.int .i64 1) ∧ w'.cell? ⟨gP, j * 2 + 1, none⟩ = some (.int .i64 x2))) (first | exact keep0 | exact hs0) (first | (go_at_call 24; refine (frac_any _ _).mono ?_; rintro e w7 ⟨rfl, b0⟩; have hs0 := held _ _ b0 (by assumption)))
            have B9 := Lib.hid (B7.out.trans (hs0.1.mono B7.out.size))
            clear hs0 b0 held mkS keep0
            go_wp2_with fail
            go_roundg (gk - 1)
            case measure => have := K.out; omega
            case rel => exact ⟨j + 1, by go_num, by have := K.out; omega, B9.out⟩
          · skip
            go_wp2_with fail
            go_ret
            exact ⟨by first | rfl | (simp; done) | (simp; omega), BB.out⟩

set_option maxRecDepth 100000 in
theorem lifted (os : Os) (started : os.Started) (H : Type) (enc : TypeId × Value → H) :
    ReturnsInHanded {} Try.checked os 9 .any (Rows.fnTiesCurveThroughSpec.pre6 enc Try.prog Try.f9 Rows.fnTiesCurveThroughRow.domain false) (Rows.fnTiesCurveThroughSpec.post enc Try.prog Try.f9 false true false false) := by
  refine returnsInHanded_of_change (C := Try.checked) own started (by kernel_rfl) Try.func9
    (ChangeSpec.witness6 (enc := enc) (C := Try.checked) false ⟨#[], #[.slice none 0 0], []⟩ 8 (by kernel_rfl) (by kernel_rfl) (by kernel_rfl) (by kernel_rfl)) ?_
  intro W base args ds gs before hval0 hW hcnd _
  have hval : ∀ (j : Nat) t v, Try.f9.params[j]? = some t → args[j]? = some v → Value.okWide Try.prog W .any base t v := hval0
  have hW' := hW
  obtain ⟨p, q, hA0, hV, rfl, hfz, hnd⟩ := hW
  have hA : DataW.TrodAll enc Try.prog W 0 (fun _ => true) true Try.f9.params.toList args.toList ds p := hA0
  rw [Try.params9] at hA hval
  obtain ⟨v0, vs0, d0, ds0, p0, q0, hargs, rfl, rfl, h0, r0⟩ := trodAll_cons hA
  obtain ⟨rfl, rfl, rfl⟩ := trodAll_nil r0
  obtain rfl : args = #[v0] := by cases args; simp_all
  obtain ⟨rfl, rfl⟩ := trodVars_none hV
  obtain ⟨a0, len0, cap0, rfl⟩ := okWide_slice Try.underlying22 (hval 0 22 v0 rfl rfl)
  have k0 := h0
  have lt0 : ∀ x ∈ p0, x.block < W.heap.size := by obtain ⟨m, hm⟩ := k0; exact DataW.trod_lt m _ _ _ hm
  obtain ⟨z0, w0⟩ : ∃ zs, IsRow .u8 W a0 len0 cap0 zs := by
    obtain ⟨fuel, hf⟩ := h0
    rcases open_ints Try.underlying22 Try.underlying5 (by kernel_rfl) hf with ⟨hcs, _⟩ | ⟨x, l, c, zs, hcs, _, hl, hm, hz, _, hcell, hwz⟩
    · simp [Value.cells] at hcs
      obtain ⟨rfl, rfl, rfl⟩ := hcs
      exact ⟨[], .inl ⟨rfl, rfl, rfl, rfl⟩⟩
    · simp [Value.cells] at hcs
      obtain ⟨rfl, rfl, rfl⟩ := hcs
      exact ⟨zs, .inr ⟨_, rfl, hl, hm, by simpa using hz, hcell, hwz⟩⟩
  clear hA0 hval0
  refine (walk a0 len0 cap0 z0 W w0).mono fun e W' ⟨he, bel⟩ => ?_
  subst he
  exact ⟨_, rfl, _, _, _, [], _, [], hW', trodAll_mk1 (shut_bool Try.underlying4 _), (trodAll_cons_mk (Below.trod laidOut (by kernel_rfl) (of_decide_eq_true (by kernel_rfl)) k0 bel lt0) trodAll_mk0), rfl, bel.frame _, fun h => by cases h⟩

theorem over : Rows.fnTiesCurveThroughRow.holds Try.pinned (OpenSpec.ofChange Rows.fnTiesCurveThroughSpec) :=
  OpenClaim.holds_of_wide 9 Try.f9 rfl rfl rfl rfl rfl rfl rfl ⟨rfl, rfl, rfl, rfl, rfl⟩ rfl rfl rfl rfl rfl (by kernel_rfl) Try.func9 (by kernel_rfl)
    (of_decide_eq_true (by kernel_rfl)) (by unfold Func.isWrapper; first | (rw [if_pos (by decide +kernel)]; kernel_rfl) | (rw [if_neg (by decide +kernel)]; exact ⟨rfl, rfl⟩))
    (fun os started H enc _ => lifted os started H enc)

/-- ████ THE STATEMENT ████ -/
theorem proved : Rows.FnTiesCurveThroughSaid := over
#print axioms proved
end Go.Proofs.Ythhdpjkmjebjhab.fnTiesCurveThrough
