/- For every input, the law FnThickMerge of the given statements returns true over the program at this commit, and its arguments read afterwards as before: no condition. -/
import Derived.Test.YtbjeedeapioljabRows
import Derived.Test.YtbjeedeapioljabLawL2
import Derived.WalkKit
import Derived.ProofKit
import Derived.OpenShut
import Derived.ShutString
import Derived.ChangeOld
import Derived.Below
namespace Go.Proofs.Ytbjeedeapioljab.fnThickMerge
open Go.ChangeShapes Go.WideShapes Go.ChangeAt Go.RowKit
open Go.ChangeMaps (open_string shut_string)
set_option linter.unusedVariables false

theorem own : ownKnob Try.prog.godebug = none := by kernel_rfl
theorem laidOut : laidOutB Try.prog = true := by kernel_rfl

/-- WHAT THE WALK IS TOLD OF A SLICE OF INTEGERS THAT CAME IN: it is nil; or it leads to a row of 'cap' cells, the numbers 'zs' (the first 'len' are its elements, the rest its spare room), each fitting its kind. -/
def IsRow (k : IntKind) (w : World) (a : Option Addr) (len cap : Nat) (zs : List Int) : Prop :=
  (a = none ∧ len = 0 ∧ cap = 0 ∧ zs = []) ∨
  ∃ x, a = some x ∧ len ≤ cap ∧ cap ≤ maxLen ∧ zs.length = cap ∧ (∀ i, i < zs.length → w.cell? (x.add i) = some (.int k (zs.getD i 0))) ∧ ∀ n ∈ zs, (Lit.int k n).wf = true

set_option maxRecDepth 100000 in
set_option maxHeartbeats 3200000 in
theorem walk (a0 : Option Addr) (len0 cap0 : Nat) (z0 : List Int) (w : World) (w0 : IsRow .u8 w a0 len0 cap0 z0) :
    Calls Try.prog 11 #[.slice a0 len0 cap0] w fun e w' => e = .returned (.bool true) ∧ Below w.heap.size w w' := by
  have hB := bytes_of w0
  by_cases hl : 1048576 < len0
  · have hdec : decide (1048576 < len0) = true := by simpa using hl
    go_enter Try.func11, Try.ntmps11
    go_wp2_with fail
    go_ret
    exact ⟨rfl, Below.refl _ _⟩
  have hdec : decide (1048576 < len0) = false := by simpa using hl
  have hm : len0 ≤ 1048576 := by omega
  go_enter Try.func11, Try.ntmps11
  go_wp2_with fail
  refine (DrawLayersThick_any hB).mono ?_
  rintro e wv1 ⟨v, l, rfl, r0, b1⟩
  clear w0 hB
  have BB := Lib.hid b1
  clear b1
  have R := Lib.hid r0
  clear r0
  go_wp2_with fail
  refine (implThick_any R.out).mono ?_
  rintro e wv2 ⟨vP, rfl, o9, b9⟩
  replace R := Lib.hid (R.out.grow b9)
  replace BB := Lib.hid (BB.out.trans (b9.mono BB.out.size))
  clear b9
  have P := Lib.hid o9
  clear o9
  go_wp2_with fail
  refine (specThick_any R.out).mono ?_
  rintro e wv3 ⟨vY, rfl, o9, b9⟩
  replace R := Lib.hid (R.out.grow b9)
  replace P := Lib.hid (P.out.grow b9)
  replace BB := Lib.hid (BB.out.trans (b9.mono BB.out.size))
  clear b9
  have Y := Lib.hid o9
  clear o9
  go_wp2_with fail
  refine (isame_yes P.out.row Y.out.row rfl).mono ?_
  rintro e wv4 ⟨rfl, b9⟩
  replace R := Lib.hid (R.out.grow b9)
  replace P := Lib.hid (P.out.grow b9)
  replace Y := Lib.hid (Y.out.grow b9)
  replace BB := Lib.hid (BB.out.trans (b9.mono BB.out.size))
  clear b9
  by_cases em : thk l = []
  · have E0 : Hid ((thk l).length = 0) := Lib.hid (by rw [em]; rfl)
    obtain ⟨aP, cP, rfl, kP, mP⟩ := islice P.out.row E0.out
    go_wp2_with fail
    refine (isame_yes P.out.row Y.out.row rfl).mono ?_
    rintro e wv5 ⟨rfl, b9⟩
    replace R := Lib.hid (R.out.grow b9)
    replace P := Lib.hid (P.out.grow b9)
    replace Y := Lib.hid (Y.out.grow b9)
    replace BB := Lib.hid (BB.out.trans (b9.mono BB.out.size))
    clear b9
    go_wp2_with fail
    go_ret
    exact ⟨by first | rfl | (simp; done) | (simp; omega), BB.out⟩
  · obtain ⟨fa, fb, hfa, hfb, hsum, hpos, hr, hsl⟩ := thk_sum em
    obtain ⟨m, hm⟩ : ∃ m, (thk l).length = m + 1 := ⟨(thk l).length - 1, by have := List.length_pos_iff.2 em; omega⟩
    have t40 := thk_len hr
    have TS := Lib.hid (thk_small hr)
    rw [hm] at hfb hsl t40
    have EM := Lib.hid em; have HR := Lib.hid hr; have HP := Lib.hid hm; have FA := Lib.hid hfa; have FB := Lib.hid hfb; have SU := Lib.hid hsum; have PO := Lib.hid hpos; have SL := Lib.hid hsl
    have l40 := lay_len hr
    clear em hfa hfb hsum hpos hr hm hsl
    clear Y
    obtain ⟨gP, pP, cP, rfl, kP, mP⟩ := iknown P.out.row HP.out (by omega)
    have i7 : (((m : Int) + 1) == 0) = false := by simp; omega
    obtain ⟨fb2, hfb2⟩ : ∃ b, dthOk l 2 = some b := ⟨_, dth_get HR.out 1 (by have := SL.out; omega)⟩
    obtain ⟨_, _, _, fa0, fa3, _, _⟩ := dth_cnt FA.out
    obtain ⟨_, _, _, fb0, fb3, _, _⟩ := dth_cnt hfb2
    have lt := dth_rises FA.out (show dthOk l (1 + 1) = some fb2 from hfb2)
    have FB2 := Lib.hid hfb2
    clear hfb2
    obtain ⟨q, hq⟩ : ∃ q : Int, (fa + fb2) / 2 = q := ⟨_, rfl⟩
    have hqe : (fa + fb2).tdiv 2 = q := by rw [Int.tdiv_eq_ediv_of_nonneg (by omega)]; exact hq
    have z1 : IntKind.i64.wrap (fa + fb2) = fa + fb2 := IntWalk.i64_in _ (by omega)
    have z2 : IntKind.i64.wrap q = q := IntWalk.i64_in _ (by omega)
    have z3 : IntKind.i64.wrap (fb2 - fa) = fb2 - fa := IntWalk.i64_in _ (by omega)
    have z4 : IntKind.i64.wrap ((m : Int) + 1 + 1) = (m : Int) + 1 + 1 := IntWalk.i64_in _ (by omega)
    have qb : 2 ≤ fb2 - fa → fa < q ∧ q < fb2 := by omega
    have QB := Lib.hid qb
    clear qb
    go_wp2_with fail
    refine (dthI_yes R.out FA.out).mono ?_
    rintro e wv5 ⟨rfl, b9⟩
    replace R := Lib.hid (R.out.grow b9)
    replace P := Lib.hid (P.out.grow b9)
    replace BB := Lib.hid (BB.out.trans (b9.mono BB.out.size))
    clear b9
    go_wp2_with fail
    refine (dthI_yes R.out FB2.out).mono ?_
    rintro e wv6 ⟨rfl, b9⟩
    replace R := Lib.hid (R.out.grow b9)
    replace P := Lib.hid (P.out.grow b9)
    replace BB := Lib.hid (BB.out.trans (b9.mono BB.out.size))
    clear b9
    have oq := lown_one (w := wv6) 37 (Nat.le_refl wv6.heap.size) (q, true)
    have b9 := (Below.refl wv6.heap.size wv6).alloc (Nat.le_refl _) (.cells #[.int .i64 (q), .bool true] 37)
    replace R := Lib.hid (R.out.grow b9)
    replace P := Lib.hid (P.out.grow b9)
    replace BB := Lib.hid (BB.out.trans (b9.mono BB.out.size))
    clear b9
    have Q := Lib.hid oq
    clear oq
    cases ho : mgOf l [(q, true)] with
    | none =>
      have M := Lib.hid ho
      clear ho
      go_wp2_with fail
      refine (mgI_no R.out Q.out.row M.out).mono ?_
      rintro e wv7 ⟨vX, rfl, o9, b9⟩
      replace R := Lib.hid (R.out.grow b9)
      replace P := Lib.hid (P.out.grow b9)
      replace Q := Lib.hid (Q.out.grow b9)
      replace BB := Lib.hid (BB.out.trans (b9.mono BB.out.size))
      clear b9
      have X := Lib.hid o9
      clear o9
      go_wp2_with fail
      refine (implThick_any X.out.row).mono ?_
      rintro e wv8 ⟨vZ, rfl, o9, b9⟩
      replace R := Lib.hid (R.out.grow b9)
      replace P := Lib.hid (P.out.grow b9)
      replace Q := Lib.hid (Q.out.grow b9)
      replace X := Lib.hid (X.out.grow b9)
      replace BB := Lib.hid (BB.out.trans (b9.mono BB.out.size))
      clear b9
      have Z := Lib.hid o9
      clear o9
      go_wp2_with fail
      go_quiet (fail)
      go_wp2_with fail
      go_ret
      exact ⟨by first | rfl | (simp; done) | (simp; omega), below_drews BB.out _⟩
    | some o =>
      obtain ⟨_, _, ho3, he⟩ := mg_is ho
      have M := Lib.hid ho; have HV := Lib.hid ho3; have HE := Lib.hid he
      clear ho ho3 he
      go_wp2_with fail
      refine (mgI_yes R.out Q.out.row M.out).mono ?_
      rintro e wv7 ⟨vX, rfl, o9, b9⟩
      replace R := Lib.hid (R.out.grow b9)
      replace P := Lib.hid (P.out.grow b9)
      replace Q := Lib.hid (Q.out.grow b9)
      replace BB := Lib.hid (BB.out.trans (b9.mono BB.out.size))
      clear b9
      have X := Lib.hid o9
      clear o9
      go_wp2_with fail
      refine (implThick_any X.out.row).mono ?_
      rintro e wv8 ⟨vZ, rfl, o9, b9⟩
      replace R := Lib.hid (R.out.grow b9)
      replace P := Lib.hid (P.out.grow b9)
      replace Q := Lib.hid (Q.out.grow b9)
      replace X := Lib.hid (X.out.grow b9)
      replace BB := Lib.hid (BB.out.trans (b9.mono BB.out.size))
      clear b9
      have Z := Lib.hid o9
      clear o9
      by_cases two : fb2 - fa < 2
      · have t1 : decide (fb2 - fa < 2) = true := by simpa using two
        go_wp2_with fail
        go_quiet (fail)
        go_wp2_with fail
        go_ret
        exact ⟨by first | rfl | (simp; done) | (simp; omega), below_drews BB.out _⟩
      · have t1 : decide (fb2 - fa < 2) = false := by simpa using two
        obtain ⟨y1, y2⟩ := QB.out (by omega)
        obtain ⟨tl, a, b', c, r, r', e1, e2, e3⟩ := thk_mg EM.out FA.out FB2.out y1 y2 (by rw [← HE.out]; exact HV.out)
        rw [← HE.out] at tl e1
        rw [HP.out] at tl
        have HZ : Hid ((thk o).length = m + 1 + 1) := Lib.hid tl
        obtain ⟨gZ, pZ, cZ, rfl, kZ, mZ⟩ := iknown Z.out.row HZ.out (by omega)
        have f0 := Z.out.row.cells 0 (by rw [HZ.out]; omega)
        have f1 := Z.out.row.cells 1 (by rw [HZ.out]; omega)
        have f2 := P.out.row.cells 0 (by rw [HP.out]; omega)
        have TO := thk_small HV.out
        have ta := TO a (by rw [e1]; simp)
        have tb := TO b' (by rw [e1]; simp)
        simp only [e1, e2, List.getElem_cons_zero, List.getElem_cons_succ, Nat.add_zero] at f0 f1 f2
        rw [← e3] at f2
        clear TO tl e1 e2
        have w1 : IntKind.i64.wrap (a + b') = a + b' := IntWalk.i64_in _ (by omega)
        have w2 : ((a + b') == (a + b')) = true := by simp
        have w3 : (((m : Int) + 1 + 1) == ((m : Int) + 1 + 1)) = true := by simp
        have i1 : (0 : Int) < (m : Int) + 1 := by omega
        have i2 : (0 : Int) < (m : Int) + 1 + 1 := by omega
        have i3 : (1 : Int) < (m : Int) + 1 + 1 := by omega
        go_wp2_with fail
        go_quiet (fail)
        go_wp2_with fail
        go_ret
        exact ⟨by first | rfl | (simp; done) | (simp; omega), below_drews BB.out _⟩

set_option maxRecDepth 100000 in
theorem lifted (os : Os) (started : os.Started) (H : Type) (enc : TypeId × Value → H) :
    ReturnsInHanded {} Try.checked os 11 .any (Rows.fnThickMergeSpec.pre6 enc Try.prog Try.f11 Rows.fnThickMergeRow.domain false) (Rows.fnThickMergeSpec.post enc Try.prog Try.f11 false true false false) := by
  refine returnsInHanded_of_change (C := Try.checked) own started (by kernel_rfl) Try.func11
    (ChangeSpec.witness6 (enc := enc) (C := Try.checked) false ⟨#[], #[.slice none 0 0], []⟩ 8 (by kernel_rfl) (by kernel_rfl) (by kernel_rfl) (by kernel_rfl)) ?_
  intro W base args ds gs before hval0 hW hcnd _
  have hval : ∀ (j : Nat) t v, Try.f11.params[j]? = some t → args[j]? = some v → Value.okWide Try.prog W .any base t v := hval0
  have hW' := hW
  obtain ⟨p, q, hA0, hV, rfl, hfz, hnd⟩ := hW
  have hA : DataW.TrodAll enc Try.prog W 0 (fun _ => true) true Try.f11.params.toList args.toList ds p := hA0
  rw [Try.params11] at hA hval
  obtain ⟨v0, vs0, d0, ds0, p0, q0, hargs, rfl, rfl, h0, r0⟩ := trodAll_cons hA
  obtain ⟨rfl, rfl, rfl⟩ := trodAll_nil r0
  obtain rfl : args = #[v0] := by cases args; simp_all
  obtain ⟨rfl, rfl⟩ := trodVars_none hV
  obtain ⟨a0, len0, cap0, rfl⟩ := okWide_slice Try.underlying22 (hval 0 22 v0 rfl rfl)
  have k0 := h0
  have lt0 : ∀ x ∈ p0, x.block < W.heap.size := by obtain ⟨m, hm⟩ := k0; exact DataW.trod_lt m _ _ _ hm
  obtain ⟨z0, w0⟩ : ∃ zs, IsRow .u8 W a0 len0 cap0 zs := by
    obtain ⟨fuel, hf⟩ := h0
    rcases open_ints Try.underlying22 Try.underlying5 (by kernel_rfl) hf with ⟨hcs, _⟩ | ⟨x, l, c, zs, hcs, _, hl, hm, hz, _, hcell, hwz⟩
    · simp [Value.cells] at hcs
      obtain ⟨rfl, rfl, rfl⟩ := hcs
      exact ⟨[], .inl ⟨rfl, rfl, rfl, rfl⟩⟩
    · simp [Value.cells] at hcs
      obtain ⟨rfl, rfl, rfl⟩ := hcs
      exact ⟨zs, .inr ⟨_, rfl, hl, hm, by simpa using hz, hcell, hwz⟩⟩
  clear hA0 hval0
  refine (walk a0 len0 cap0 z0 W w0).mono fun e W' ⟨he, bel⟩ => ?_
  subst he
  exact ⟨_, rfl, _, _, _, [], _, [], hW', trodAll_mk1 (shut_bool Try.underlying4 _), (trodAll_cons_mk (Below.trod laidOut (by kernel_rfl) (of_decide_eq_true (by kernel_rfl)) k0 bel lt0) trodAll_mk0), rfl, bel.frame _, fun h => by cases h⟩

theorem over : Rows.fnThickMergeRow.holds Try.pinned (OpenSpec.ofChange Rows.fnThickMergeSpec) :=
  OpenClaim.holds_of_wide 11 Try.f11 rfl rfl rfl rfl rfl rfl rfl ⟨rfl, rfl, rfl, rfl, rfl⟩ rfl rfl rfl rfl rfl (by kernel_rfl) Try.func11 (by kernel_rfl)
    (of_decide_eq_true (by kernel_rfl)) (by unfold Func.isWrapper; first | (rw [if_pos (by decide +kernel)]; kernel_rfl) | (rw [if_neg (by decide +kernel)]; exact ⟨rfl, rfl⟩))
    (fun os started H enc _ => lifted os started H enc)

/-- ████ THE STATEMENT ████ -/
theorem proved : Rows.FnThickMergeSaid := over
#print axioms proved
end Go.Proofs.Ytbjeedeapioljab.fnThickMerge
