/- For every input, the law FnTiesCurveAt of the given statements returns true over the program at this commit, and its arguments read afterwards as before: no condition. -/
import Derived.Test.YthhdpjkmjebjhabRows
import Derived.Test.YthhdpjkmjebjhabLawTC
import Derived.WalkKit
import Derived.ProofKit
import Derived.OpenShut
import Derived.ShutString
import Derived.ChangeOld
import Derived.Below
namespace Go.Proofs.Ythhdpjkmjebjhab.fnTiesCurveAt
open Go.ChangeShapes Go.WideShapes Go.ChangeAt Go.RowKit
open Go.ChangeMaps (open_string shut_string)
set_option linter.unusedVariables false

theorem own : ownKnob Try.prog.godebug = none := by kernel_rfl
theorem laidOut : laidOutB Try.prog = true := by kernel_rfl

/-- WHAT THE WALK IS TOLD OF A SLICE OF INTEGERS THAT CAME IN: it is nil; or it leads to a row of 'cap' cells, the numbers 'zs' (the first 'len' are its elements, the rest its spare room), each fitting its kind. -/
def IsRow (k : IntKind) (w : World) (a : Option Addr) (len cap : Nat) (zs : List Int) : Prop :=
  (a = none ∧ len = 0 ∧ cap = 0 ∧ zs = []) ∨
  ∃ x, a = some x ∧ len ≤ cap ∧ cap ≤ maxLen ∧ zs.length = cap ∧ (∀ i, i < zs.length → w.cell? (x.add i) = some (.int k (zs.getD i 0))) ∧ ∀ n ∈ zs, (Lit.int k n).wf = true

set_option maxRecDepth 100000 in
set_option maxHeartbeats 3200000 in
theorem walk (a0 : Option Addr) (len0 cap0 : Nat) (z0 : List Int) (a1 : Option Addr) (len1 cap1 : Nat) (z1 : List Int) (w : World) (w0 : IsRow .u8 w a0 len0 cap0 z0) (w1 : IsRow .u8 w a1 len1 cap1 z1) :
    Calls Try.prog 5 #[.slice a0 len0 cap0, .slice a1 len1 cap1] w fun e w' => e = .returned (.bool true) ∧ Below w.heap.size w w' := by
  have hB := bytes_of w0
  have hB1 := bytes_len (bytes_of w1)
  unfold maxLen at hB1
  by_cases hl : 1048576 < len0
  · have hdec : decide (1048576 < len0) = true := by simpa using hl
    go_enter Try.func5, Try.ntmps5
    go_wp2_with fail
    go_ret
    exact ⟨rfl, Below.refl _ _⟩
  have hdec : decide (1048576 < len0) = false := by simpa using hl
  by_cases hl1 : 1048576 < len1
  · go_enter Try.func5, Try.ntmps5
    go_wp2_with fail
    go_ret
    exact ⟨rfl, Below.refl _ _⟩
  have hm : len0 ≤ 1048576 := by omega
  have hm1 : len1 ≤ 1048576 := by omega
  clear hB1
  go_enter Try.func5, Try.ntmps5
  go_wp2_with fail
  refine (DrawTiesCurve_any hB).mono ?_
  rintro e wv1 ⟨v, a, rfl, r0, da, b1⟩
  clear w0 w1 hB
  have BB := Lib.hid b1
  clear b1
  have R := Lib.hid r0
  clear r0
  have ha8 := da.1
  obtain ⟨aR, cR, rfl, kR, mR⟩ := tlen_n R.out.row
  clear da
  cases hb : curT a with
  | none =>
    have HB := Lib.hid hb
    clear hb
    go_wp2_with fail
    refine (lst_no (implCur_any R.out.row) HB.out).mono ?_
    rintro e wv2 ⟨vX, rfl, o9, b9⟩
    replace R := Lib.hid (R.out.grow b9)
    replace BB := Lib.hid (BB.out.trans (b9.mono BB.out.size))
    clear b9
    have X := Lib.hid o9
    clear o9
    go_wp2_with fail
    refine (lst_no (specCur_any R.out.row) HB.out).mono ?_
    rintro e wv3 ⟨vY, rfl, o9, b9⟩
    replace R := Lib.hid (R.out.grow b9)
    replace X := Lib.hid (X.out.grow b9)
    replace BB := Lib.hid (BB.out.trans (b9.mono BB.out.size))
    clear b9
    have Y := Lib.hid o9
    clear o9
    go_wp2_with fail
    refine (knots_yes X.out.row Y.out.row rfl).mono ?_
    rintro e wv4 ⟨rfl, b9⟩
    replace R := Lib.hid (R.out.grow b9)
    replace X := Lib.hid (X.out.grow b9)
    replace Y := Lib.hid (Y.out.grow b9)
    replace BB := Lib.hid (BB.out.trans (b9.mono BB.out.size))
    clear b9
    go_wp2_with fail
    refine (knots_yes X.out.row Y.out.row rfl).mono ?_
    rintro e wv5 ⟨rfl, b9⟩
    replace R := Lib.hid (R.out.grow b9)
    replace X := Lib.hid (X.out.grow b9)
    replace Y := Lib.hid (Y.out.grow b9)
    replace BB := Lib.hid (BB.out.trans (b9.mono BB.out.size))
    clear b9
    go_wp2_with fail
    go_ret
    exact ⟨by first | rfl | (simp; done) | (simp; omega), BB.out⟩
  | some m =>
    obtain ⟨va, a2, rfl⟩ := cur_len hb rfl
    have HB := Lib.hid hb; have VA := Lib.hid va
    have a12 := isTies_len va
    clear hb va
    go_wp2_with fail
    refine (lst_yes (implCur_any R.out.row) HB.out).mono ?_
    rintro e wv2 ⟨vP, rfl, o9, b9⟩
    replace R := Lib.hid (R.out.grow b9)
    replace BB := Lib.hid (BB.out.trans (b9.mono BB.out.size))
    clear b9
    have P := Lib.hid o9
    clear o9
    go_wp2_with fail
    refine (lst_yes (specCur_any R.out.row) HB.out).mono ?_
    rintro e wv3 ⟨vY, rfl, o9, b9⟩
    replace R := Lib.hid (R.out.grow b9)
    replace P := Lib.hid (P.out.grow b9)
    replace BB := Lib.hid (BB.out.trans (b9.mono BB.out.size))
    clear b9
    have Y := Lib.hid o9
    clear o9
    go_wp2_with fail
    refine (knots_yes P.out.row Y.out.row rfl).mono ?_
    rintro e wv4 ⟨rfl, b9⟩
    replace R := Lib.hid (R.out.grow b9)
    replace P := Lib.hid (P.out.grow b9)
    replace Y := Lib.hid (Y.out.grow b9)
    replace BB := Lib.hid (BB.out.trans (b9.mono BB.out.size))
    clear b9
    clear Y
    obtain ⟨aP, cP, rfl, kP, mP⟩ := tlen_n P.out.row
    obtain ⟨q, hq⟩ : ∃ q : Nat, len1 % m.length = q := ⟨_, rfl⟩
    have hqm : q < m.length := by rw [← hq]; exact Nat.mod_lt _ (by omega)
    have hq1 : (len1 : Int) % (m.length : Int) = (q : Int) := by rw [← hq, Int.natCast_emod]
    have hq2 : IntKind.i64.wrap ((len1 : Int).tmod (m.length : Int)) = (q : Int) := by rw [Int.tmod_eq_emod_of_nonneg (by omega), hq1]; exact IntWalk.i64_in _ (by omega)
    have hq3 : IntKind.i64.wrap (q : Int) = (q : Int) := IntWalk.i64_in _ (by omega)
    have hq4 : (q : Int) < (m.length : Int) := by omega
    have hq5 : (0 : Int) ≤ (q : Int) := by omega
    have hz : ((m.length : Int) == 0) = false := beq_eq_false_iff_ne.2 (by omega)
    obtain ⟨gR, pR, eR, k5, k6, k7, k8, hp⟩ := R.out.at (by omega)
    simp only [Value.slice.injEq] at eR
    obtain ⟨rfl, -, rfl⟩ := eR
    have d1 := (hp q hqm).top
    have d2 := (hp q hqm).bot
    have XM := Lib.hid (List.getElem_mem hqm)
    obtain ⟨x, hx⟩ : ∃ x, m[q] = x := ⟨_, rfl⟩
    rw [hx] at d1 d2 XM
    obtain ⟨x1, x2⟩ := x
    clear hp hx k5 k6 k7 k8 hq
    have A1 := Lib.hid ((Below.refl wv4.heap.size wv4).alloc (Nat.le_refl _) (.cells #[.int .i64 x1, .int .i64 x2] 39))
    have PA := Lib.hid (P.out.grow A1.out)
    have t2 : (wv4.alloc (.cells #[.int .i64 x1, .int .i64 x2] 39)).cell? ⟨wv4.heap.size, 1, none⟩ = some (.int .i64 x2) := by go_cell
    have T2 := Lib.hid t2
    clear t2
    go_wp2_with fail
    refine (at_tie PA.out.row VA.out a2 XM.out).mono ?_
    rintro e wv5 ⟨rfl, b9⟩
    have b8 := A1.out.trans (b9.mono A1.out.size)
    have t3 := (b9.cell (cell_below T2.out)).trans T2.out
    have B8 := Lib.hid (BB.out.trans (b8.mono BB.out.size))
    have t4 := cell_below t3
    have y0 : (wv5.alloc (.cells #[.int .i64 x2, .int .i64 1] 41)).cell? ⟨wv5.heap.size, 0, none⟩ = some (.int .i64 x2) := by go_cell
    have y1 : (wv5.alloc (.cells #[.int .i64 x2, .int .i64 1] 41)).cell? ⟨wv5.heap.size, 1, none⟩ = some (.int .i64 1) := by go_cell
    have c2 : (wv5.alloc (.cells #[.int .i64 x2, .int .i64 1] 41)).cell? ⟨wv4.heap.size, 1, none⟩ = some (.int .i64 x2) := (World.cell?_alloc_lt _ _ _ t4).trans t3
    have B7 := Lib.hid (B8.out.alloc B8.out.size (.cells #[.int .i64 x2, .int .i64 1] 41))
    clear b8 b9 t4 d1 d2
    go_upto_region 10 with fail
    generalize (wv5.alloc (.cells #[.int .i64 x2, .int .i64 1] 41)) = W4 at B7 y0 y1 c2 ⊢
    have mkS : ∀ w' : World, Below W4.heap.size W4 w' → (Below W4.heap.size W4 w' ∧ w'.cell? ⟨wv5.heap.size, 0, none⟩ = some (.int .i64 x2) ∧ w'.cell? ⟨wv5.heap.size, 1, none⟩ = some (.int .i64 1) ∧ w'.cell? ⟨wv4.heap.size, 1, none⟩ = some (.int .i64 x2)) := fun w' b => ⟨b, (b.cell (cell_below y0)).trans y0, (b.cell (cell_below y1)).trans y1, (b.cell (cell_below c2)).trans c2⟩
    have held : ∀ W w' : World, Below W.heap.size W w' → (Below W4.heap.size W4 W ∧ W.cell? ⟨wv5.heap.size, 0, none⟩ = some (.int .i64 x2) ∧ W.cell? ⟨wv5.heap.size, 1, none⟩ = some (.int .i64 1) ∧ W.cell? ⟨wv4.heap.size, 1, none⟩ = some (.int .i64 x2)) → (Below W4.heap.size W4 w' ∧ w'.cell? ⟨wv5.heap.size, 0, none⟩ = some (.int .i64 x2) ∧ w'.cell? ⟨wv5.heap.size, 1, none⟩ = some (.int .i64 1) ∧ w'.cell? ⟨wv4.heap.size, 1, none⟩ = some (.int .i64 x2)) := fun W w' b h => mkS w' (h.1.trans (b.mono h.1.size))
    have keep0 := mkS _ (Below.refl W4.heap.size W4).drew
    go_region_held3 (fun w' => (Below W4.heap.size W4 w' ∧ w'.cell? ⟨wv5.heap.size, 0, none⟩ = some (.int .i64 x2) ∧ w'.cell? ⟨wv5.heap.size, 1, none⟩ = some (.int .i64 1) ∧ w'.cell? ⟨wv4.heap.size, 1, none⟩ = some (.int .i64 x2))) (first | exact keep0 | exact hs0) (first | (go_at_call 24; refine (frac_any _ _).mono ?_; rintro e w7 ⟨rfl, b0⟩; have hs0 := held _ _ b0 (by assumption)))
    have B9 := B7.out.trans (hs0.1.mono B7.out.size)
    go_wp2_with fail
    go_ret
    exact ⟨by first | rfl | (simp; done) | (simp; omega), B9⟩

set_option maxRecDepth 100000 in
theorem lifted (os : Os) (started : os.Started) (H : Type) (enc : TypeId × Value → H) :
    ReturnsInHanded {} Try.checked os 5 .any (Rows.fnTiesCurveAtSpec.pre6 enc Try.prog Try.f5 Rows.fnTiesCurveAtRow.domain false) (Rows.fnTiesCurveAtSpec.post enc Try.prog Try.f5 false true false false) := by
  refine returnsInHanded_of_change (C := Try.checked) own started (by kernel_rfl) Try.func5
    (ChangeSpec.witness6 (enc := enc) (C := Try.checked) false ⟨#[], #[.slice none 0 0, .slice none 0 0], []⟩ 8 (by kernel_rfl) (by kernel_rfl) (by kernel_rfl) (by kernel_rfl)) ?_
  intro W base args ds gs before hval0 hW hcnd _
  have hval : ∀ (j : Nat) t v, Try.f5.params[j]? = some t → args[j]? = some v → Value.okWide Try.prog W .any base t v := hval0
  have hW' := hW
  obtain ⟨p, q, hA0, hV, rfl, hfz, hnd⟩ := hW
  have hA : DataW.TrodAll enc Try.prog W 0 (fun _ => true) true Try.f5.params.toList args.toList ds p := hA0
  rw [Try.params5] at hA hval
  obtain ⟨v0, vs0, d0, ds0, p0, q0, hargs, rfl, rfl, h0, r0⟩ := trodAll_cons hA
  obtain ⟨v1, vs1, d1, ds1, p1, q1, rfl, rfl, rfl, h1, r1⟩ := trodAll_cons r0
  obtain ⟨rfl, rfl, rfl⟩ := trodAll_nil r1
  obtain rfl : args = #[v0, v1] := by cases args; simp_all
  obtain ⟨rfl, rfl⟩ := trodVars_none hV
  obtain ⟨a0, len0, cap0, rfl⟩ := okWide_slice Try.underlying22 (hval 0 22 v0 rfl rfl)
  have k0 := h0
  have lt0 : ∀ x ∈ p0, x.block < W.heap.size := by obtain ⟨m, hm⟩ := k0; exact DataW.trod_lt m _ _ _ hm
  obtain ⟨z0, w0⟩ : ∃ zs, IsRow .u8 W a0 len0 cap0 zs := by
    obtain ⟨fuel, hf⟩ := h0
    rcases open_ints Try.underlying22 Try.underlying5 (by kernel_rfl) hf with ⟨hcs, _⟩ | ⟨x, l, c, zs, hcs, _, hl, hm, hz, _, hcell, hwz⟩
    · simp [Value.cells] at hcs
      obtain ⟨rfl, rfl, rfl⟩ := hcs
      exact ⟨[], .inl ⟨rfl, rfl, rfl, rfl⟩⟩
    · simp [Value.cells] at hcs
      obtain ⟨rfl, rfl, rfl⟩ := hcs
      exact ⟨zs, .inr ⟨_, rfl, hl, hm, by simpa using hz, hcell, hwz⟩⟩
  obtain ⟨a1, len1, cap1, rfl⟩ := okWide_slice Try.underlying22 (hval 1 22 v1 rfl rfl)
  have k1 := h1
  have lt1 : ∀ x ∈ p1, x.block < W.heap.size := by obtain ⟨m, hm⟩ := k1; exact DataW.trod_lt m _ _ _ hm
  obtain ⟨z1, w1⟩ : ∃ zs, IsRow .u8 W a1 len1 cap1 zs := by
    obtain ⟨fuel, hf⟩ := h1
    rcases open_ints Try.underlying22 Try.underlying5 (by kernel_rfl) hf with ⟨hcs, _⟩ | ⟨x, l, c, zs, hcs, _, hl, hm, hz, _, hcell, hwz⟩
    · simp [Value.cells] at hcs
      obtain ⟨rfl, rfl, rfl⟩ := hcs
      exact ⟨[], .inl ⟨rfl, rfl, rfl, rfl⟩⟩
    · simp [Value.cells] at hcs
      obtain ⟨rfl, rfl, rfl⟩ := hcs
      exact ⟨zs, .inr ⟨_, rfl, hl, hm, by simpa using hz, hcell, hwz⟩⟩
  clear hA0 hval0
  refine (walk a0 len0 cap0 z0 a1 len1 cap1 z1 W w0 w1).mono fun e W' ⟨he, bel⟩ => ?_
  subst he
  exact ⟨_, rfl, _, _, _, [], _, [], hW', trodAll_mk1 (shut_bool Try.underlying4 _), (trodAll_cons_mk (Below.trod laidOut (by kernel_rfl) (of_decide_eq_true (by kernel_rfl)) k0 bel lt0) (trodAll_cons_mk (Below.trod laidOut (by kernel_rfl) (of_decide_eq_true (by kernel_rfl)) k1 bel lt1) trodAll_mk0)), rfl, bel.frame _, fun h => by cases h⟩

theorem over : Rows.fnTiesCurveAtRow.holds Try.pinned (OpenSpec.ofChange Rows.fnTiesCurveAtSpec) :=
  OpenClaim.holds_of_wide 5 Try.f5 rfl rfl rfl rfl rfl rfl rfl ⟨rfl, rfl, rfl, rfl, rfl⟩ rfl rfl rfl rfl rfl (by kernel_rfl) Try.func5 (by kernel_rfl)
    (of_decide_eq_true (by kernel_rfl)) (by unfold Func.isWrapper; first | (rw [if_pos (by decide +kernel)]; kernel_rfl) | (rw [if_neg (by decide +kernel)]; exact ⟨rfl, rfl⟩))
    (fun os started H enc _ => lifted os started H enc)

/-- ████ THE STATEMENT ████ -/
theorem proved : Rows.FnTiesCurveAtSaid := over
#print axioms proved
end Go.Proofs.Ythhdpjkmjebjhab.fnTiesCurveAt
