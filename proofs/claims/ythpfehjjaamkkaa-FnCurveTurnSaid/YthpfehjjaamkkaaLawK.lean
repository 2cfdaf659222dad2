/- What the walks of the laws on curves name. -/
import Derived.Test.YthpfehjjaamkkaaSameK
import Derived.Test.YthpfehjjaamkkaaKnotDraws
import Derived.Test.YthpfehjjaamkkaaSpecTurn
import Derived.Test.YthpfehjjaamkkaaExact
import Derived.Test.YthpfehjjaamkkaaTopCut
namespace Go.Proofs.Ythpfehjjaamkkaa
open Go.RowKit

theorem Row.alloc {w : World} {v : Value} {l : List Pc} (h : Row w v l) (n d : Int) (t : TypeId) : Row (w.alloc (.cells #[.int .i64 n, .int .i64 d] t)) v l := h.grow ((Below.refl _ _).alloc (Nat.le_refl _) _)
/-- A fraction that is valid, and its number. -/
def GotF (w : World) (r : Rat) (e : Ending) (w' : World) : Prop := ∃ n d, e = .returned (.tuple #[.agg #[.int .i64 n, .int .i64 d], .bool true]) ∧ fv n d = true ∧ fq n d = r ∧ Below w.heap.size w w'
/-- No fraction. -/
def NoF (w : World) (e : Ending) (w' : World) : Prop := e = .returned (.tuple #[.agg #[.int .i64 0, .int .i64 0], .bool false]) ∧ Below w.heap.size w w'
theorem got_yes {P : Program} {f : FuncId} {a : Array Value} {w : World} {v : Bool} {r : Rat} (h : Calls P f a w fun e w' => GotFrac v r w w' e) (hv : v = true) (hf : fits r = true) : Calls P f a w fun e w' => GotF w r e w' :=
  h.mono fun e w' ⟨n, d, ok, he, hr, hb⟩ => by
    rcases hr with ⟨rfl, _, h3, h4⟩ | ⟨_, _, _, h4⟩
    · exact ⟨n, d, he, h3, h4, hb⟩
    · rw [hv, hf] at h4; simp at h4
theorem got_no {P : Program} {f : FuncId} {a : Array Value} {w : World} {v : Bool} {r : Rat} (h : Calls P f a w fun e w' => GotFrac v r w w' e) (hv : v = false ∨ fits r = false) : Calls P f a w fun e w' => NoF w e w' :=
  h.mono fun e w' ⟨n, d, ok, he, hr, hb⟩ => by
    rcases hr with ⟨_, h2, h3, h4⟩ | ⟨rfl, rfl, rfl, _⟩
    · rcases hv with hv | hv
      · rw [hv] at h2; cases h2
      · have := fq_fits h3; rw [h4, hv] at this; cases this
    · exact ⟨he, hb⟩
/-- .. whose number is whole. -/
theorem got_whole {P : Program} {f : FuncId} {a : Array Value} {w : World} {r : Rat} {k : Int} (h : Calls P f a w fun e w' => GotF w r e w') (er : r = (k : Rat)) (h0 : 0 ≤ k) (h1 : k ≤ 30000) :
    Calls P f a w fun e w' => e = .returned (.tuple #[.agg #[.int .i64 k, .int .i64 1], .bool true]) ∧ Below w.heap.size w w' :=
  h.mono fun e w' ⟨n, d, he, hf, hq, hb⟩ => by
    obtain ⟨rfl, rfl⟩ := fq_inj hf (dp_fv h0 h1) (by rw [hq, fq_whole, er])
    exact ⟨he, hb⟩
theorem got_same {P : Program} {f : FuncId} {a : Array Value} {w : World} {r : Rat} {n d : Int} (h : Calls P f a w fun e w' => GotF w r e w') (hf : fv n d = true) (hq : fq n d = r) :
    Calls P f a w fun e w' => e = .returned (.tuple #[.agg #[.int .i64 n, .int .i64 d], .bool true]) ∧ Below w.heap.size w w' :=
  h.mono fun e w' ⟨n', d', he, hf', hq', hb⟩ => by
    obtain ⟨rfl, rfl⟩ := fq_inj hf' hf (by rw [hq, hq'])
    exact ⟨he, hb⟩
theorem at_yes {w : World} {v : Value} {l : List Pc} {x : Int} (h : Row w v l) (ho : onC l (x : Rat) = true) : Calls Try.prog 16 #[v, .int .i64 x] w fun e w' => GotF w (cAt l (x : Rat)) e w' := got_yes (implCurveAt_any x h) ho (cAt_fits ho)
theorem at_no {w : World} {v : Value} {l : List Pc} {x : Int} (h : Row w v l) (ho : onC l (x : Rat) = false) : Calls Try.prog 16 #[v, .int .i64 x] w fun e w' => NoF w e w' := got_no (implCurveAt_any x h) (.inl ho)
theorem at_yesS {w : World} {v : Value} {l : List Pc} {x : Int} (h : Row w v l) (ho : onC l (x : Rat) = true) : Calls Try.prog 17 #[v, .int .i64 x] w fun e w' => GotF w (cAt l (x : Rat)) e w' := got_yes (specCurveAt_any x h) ho (cAt_fits ho)
theorem at_noS {w : World} {v : Value} {l : List Pc} {x : Int} (h : Row w v l) (ho : onC l (x : Rat) = false) : Calls Try.prog 17 #[v, .int .i64 x] w fun e w' => NoF w e w' := got_no (specCurveAt_any x h) (.inl ho)
theorem less_is' {n d n' d' : Int} {b : Bool} (h : fv n d = true) (k : fv n' d' = true) (e : decide (fq n d < fq n' d') = b) (w : World) :
    Calls Try.prog 19 #[.agg #[.int .i64 n, .int .i64 d], .agg #[.int .i64 n', .int .i64 d']] w fun e w' => Val w (.bool b) e w' := by
  have := implFracLess_any n d n' d' w
  have e2 : (fv n d && fv n' d' && decide (n * d' < n' * d)) = b := by
    rw [h, k, ← e]; simp only [Bool.true_and]; exact decide_eq_decide.2 (fq_lt h k)
  rwa [e2] at this
theorem num_nonneg {n d : Int} (h : fv n d = true) (k : (0 : Rat) ≤ fq n d) : 0 ≤ n := by
  have := fq_below h
  rcases Int.lt_or_le n 0 with q | q
  · exact absurd (this.1 q) (by grind)
  · exact q
theorem at_nonneg {l : List Pc} {x : Rat} (h : onC l x = true) : (0 : Rat) ≤ cAt l x := by
  have hc := onC_curve h
  have h0 : 0 < l.length := by have := isCurve_len hc; omega
  have a := (at_between h h0).1
  have b := rat_le (isCurve_dp hc 0 h0).2.2.1
  have e0 : ((0 : Int) : Rat) = 0 := rfl
  grind
theorem num_pos {n d : Int} (h : fv n d = true) (k : (0 : Rat) < fq n d) : 0 < n := by
  have := num_nonneg h (Rat.le_of_lt k)
  have z := fq_zero h
  rcases Int.lt_or_le 0 n with q | q
  · exact q
  · have e := z.1 (by omega); rw [e] at k; exact absurd k (by decide)
theorem curve_mem {l : List Pc} (h : isCurve l = true) {k : Pc} (hk : k ∈ l) : 0 ≤ k.1 ∧ k.1 ≤ 30000 ∧ 0 ≤ k.2 ∧ k.2 ≤ 30000 := by
  obtain ⟨i, hi, rfl⟩ := List.getElem_of_mem hk
  exact isCurve_dp h i hi
theorem wf_small {x : Int} (h0 : -300000 ≤ x) (h1 : x ≤ 300000) : (Lit.int .i64 x).wf = true := by
  have a : IntKind.i64.min = -9223372036854775808 := by decide
  have b : IntKind.i64.max = 9223372036854775807 := by decide
  simp only [Lit.wf, a, b, Bool.and_eq_true, decide_eq_true_eq]
  omega
theorem leanL_ends {l : List Pc} (h : isCurve l = true) {m m1 : Nat} (hm : l.length = m + 1) (hm1 : (leanL l).length = m1 + 1) : (leanL l)[m1] = l[m] := by
  obtain ⟨_, _, e⟩ := leanL_last h
  have em : l.length - 1 = m := by omega
  have em1 : (leanL l).length - 1 = m1 := by omega
  simp only [em, em1] at e
  exact e
theorem pair_differ {n d k : Int} (hs : ¬ (n = k ∧ d = 1)) : (n == k && d == 1) = false := by
  cases h : (n == k && d == 1)
  · rfl
  · rw [Bool.and_eq_true, beq_iff_eq, beq_iff_eq] at h; exact absurd h hs
theorem rev_step {l : List Pc} {j : Nat} (hj : j < l.length) : (l.drop (j + 1)).reverse ++ [l[j]] = (l.drop j).reverse := by
  rw [List.drop_eq_getElem_cons hj, List.reverse_cons]
theorem news_of {w : World} {g o n c : Nat} {l : List Pc} (h : Row w (.slice (some ⟨g, o, none⟩) n c) l) : ∀ j u, (cells2 l)[j]? = some u → w.cell? ((⟨g, o, none⟩ : Addr).add j) = some u :=
  lies_news fun i hi => h.cells i hi
theorem slopeV_is {l : List Pc} (h : isCurve l = true) {j : Nat} (hj : j + 1 < l.length) : slopeV l (j : Int) = true := by
  unfold slopeV; rw [h, decide_eq_true (show (0 : Int) ≤ j by omega), decide_eq_true (show (j : Int) < (l.length : Int) - 1 by omega)]; rfl
theorem at_high {l : List Pc} {x : Rat} (h : onC l x = true) : cAt l x ≤ (30000 : Rat) := by
  have hc := onC_curve h
  have h0 : 0 < l.length := by have := isCurve_len hc; omega
  have a := (at_between h h0).2
  have b := rat_le (isCurve_dp hc (l.length - 1) (by omega)).2.2.2
  have e0 : ((30000 : Int) : Rat) = 30000 := rfl
  grind
theorem St.more {w0 w w' : World} {L : List (Nat × Int × Int)} {b : Nat} {n d : Int} (h : St w0 w L) (k : St w w' [(b, n, d)]) : St w0 w' ((b, n, d) :: L) :=
  ⟨h.below.trans (k.below.mono h.below.size), k.holds.1, h.holds.next k.below⟩
theorem res_none {r : Rat} {n d : Int} {ok v : Bool} (h : Res v r n d ok) (hv : v = false) : n = 0 ∧ d = 0 ∧ ok = false := by
  subst hv
  rcases h with ⟨_, h, _⟩ | ⟨h1, h2, h3, _⟩
  · cases h
  · exact ⟨h2, h3, h1⟩
theorem res_got {r : Rat} {n d : Int} {ok v : Bool} (h : Res v r n d ok) (hv : v = true) (hf : fits r = true) : ok = true ∧ fv n d = true ∧ fq n d = r := by
  rcases h with ⟨h1, _, h3, h4⟩ | ⟨_, _, _, h4⟩
  · exact ⟨h1, h3, h4⟩
  · rw [hv, hf] at h4; simp at h4
end Go.Proofs.Ythpfehjjaamkkaa
