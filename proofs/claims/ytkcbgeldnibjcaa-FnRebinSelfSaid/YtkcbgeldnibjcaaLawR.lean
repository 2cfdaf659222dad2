/- What the walks of the laws on records name. -/
import Derived.Test.YtkcbgeldnibjcaaRecMean
import Derived.Test.YtkcbgeldnibjcaaRecDraw
import Derived.Test.YtkcbgeldnibjcaaExact
namespace Go.Proofs.Ytkcbgeldnibjcaa
open Go.RowKit

theorem IRow.alloc {w : World} {v : Value} {l : List Int} (h : IRow w v l) (n d : Int) (t : TypeId) : IRow (w.alloc (.cells #[.int .i64 n, .int .i64 d] t)) v l := h.grow ((Below.refl _ _).alloc (Nat.le_refl _) _)
theorem Row.alloc {w : World} {v : Value} {l : List Pc} (h : Row w v l) (n d : Int) (t : TypeId) : Row (w.alloc (.cells #[.int .i64 n, .int .i64 d] t)) v l := h.grow ((Below.refl _ _).alloc (Nat.le_refl _) _)
theorem Rec.alloc {w : World} {v u : Value} {l m : List Int} (h : Rec w v u l m) (n d : Int) (t : TypeId) : Rec (w.alloc (.cells #[.int .i64 n, .int .i64 d] t)) v u l m := h.grow ((Below.refl _ _).alloc (Nat.le_refl _) _)
/-- A fraction that is valid, and its number. -/
def GotF (w : World) (r : Rat) (e : Ending) (w' : World) : Prop := ∃ n d, e = .returned (.tuple #[.agg #[.int .i64 n, .int .i64 d], .bool true]) ∧ fv n d = true ∧ fq n d = r ∧ Below w.heap.size w w'
/-- No fraction. -/
def NoF (w : World) (e : Ending) (w' : World) : Prop := e = .returned (.tuple #[.agg #[.int .i64 0, .int .i64 0], .bool false]) ∧ Below w.heap.size w w'
theorem got_yes {P : Program} {f : FuncId} {a : Array Value} {w : World} {v : Bool} {r : Rat} (h : Calls P f a w fun e w' => GotFrac v r w w' e) (hv : v = true) (hf : fits r = true) : Calls P f a w fun e w' => GotF w r e w' :=
  h.mono fun e w' ⟨n, d, ok, he, hr, hb⟩ => by
    rcases hr with ⟨rfl, _, h3, h4⟩ | ⟨_, _, _, h4⟩
    · exact ⟨n, d, he, h3, h4, hb⟩
    · rw [hv, hf] at h4; simp at h4
theorem got_no {P : Program} {f : FuncId} {a : Array Value} {w : World} {v : Bool} {r : Rat} (h : Calls P f a w fun e w' => GotFrac v r w w' e) (hv : v = false ∨ fits r = false) : Calls P f a w fun e w' => NoF w e w' :=
  h.mono fun e w' ⟨n, d, ok, he, hr, hb⟩ => by
    rcases hr with ⟨_, h2, h3, h4⟩ | ⟨rfl, rfl, rfl, _⟩
    · rcases hv with hv | hv
      · rw [hv] at h2; cases h2
      · have := fq_fits h3; rw [h4, hv] at this; cases this
    · exact ⟨he, hb⟩
theorem got_same {P : Program} {f : FuncId} {a : Array Value} {w : World} {r : Rat} {n d : Int} (h : Calls P f a w fun e w' => GotF w r e w') (hf : fv n d = true) (hq : fq n d = r) :
    Calls P f a w fun e w' => e = .returned (.tuple #[.agg #[.int .i64 n, .int .i64 d], .bool true]) ∧ Below w.heap.size w w' :=
  h.mono fun e w' ⟨n', d', he, hf', hq', hb⟩ => by
    obtain ⟨rfl, rfl⟩ := fq_inj hf' hf (by rw [hq, hq'])
    exact ⟨he, hb⟩
theorem o_yes {P : Program} {f : FuncId} {a : Array Value} {w : World} {o : Option Rat} {r : Rat} (h : Calls P f a w fun e w' => GotO o w w' e) (ho : o = some r) (hf : fits r = true) : Calls P f a w fun e w' => GotF w r e w' := by
  subst ho; exact got_yes h rfl hf
theorem o_no {P : Program} {f : FuncId} {a : Array Value} {w : World} {o : Option Rat} (h : Calls P f a w fun e w' => GotO o w w' e) (ho : o = none) : Calls P f a w fun e w' => NoF w e w' := by
  subst ho; exact got_no h (.inl rfl)
variable {w : World} {v u : Value} {l m : List Int} {t b : Int}
theorem bet_yes {r : Rat} (h : Rec w v u l m) (hb : bet l m t b = some r) : Calls Try.prog 18 #[v, u, .int .i64 t, .int .i64 b] w fun e w' => GotF w r e w' := o_yes (implRecordBetween_any t b h) hb (bet_is hb).2.1
theorem bet_no (h : Rec w v u l m) (hb : bet l m t b = none) : Calls Try.prog 18 #[v, u, .int .i64 t, .int .i64 b] w fun e w' => NoF w e w' := o_no (implRecordBetween_any t b h) hb
theorem betS_yes {r : Rat} (h : Rec w v u l m) (hb : bet l m t b = some r) : Calls Try.prog 22 #[v, u, .int .i64 t, .int .i64 b] w fun e w' => GotF w r e w' := o_yes (specRecordBetween_any t b h.1 h.2) hb (bet_is hb).2.1
theorem betS_no (h : Rec w v u l m) (hb : bet l m t b = none) : Calls Try.prog 22 #[v, u, .int .i64 t, .int .i64 b] w fun e w' => NoF w e w' := o_no (specRecordBetween_any t b h.1 h.2) hb
/-- .. whose number is whole. -/
theorem got_int {P : Program} {f : FuncId} {a : Array Value} {k : Int} (h : Calls P f a w fun e w' => GotF w (k : Rat) e w') (h0 : -1000000000 ≤ k) (h1 : k ≤ 1000000000) :
    Calls P f a w fun e w' => e = .returned (.tuple #[.agg #[.int .i64 k, .int .i64 1], .bool true]) ∧ Below w.heap.size w w' := got_same h (fv_int h0 h1) (fq_whole k)
theorem bet_int {k : Int} (h : Rec w v u l m) (hb : bet l m t b = some (k : Rat)) (h0 : -1000000000 ≤ k) (h1 : k ≤ 1000000000) :
    Calls Try.prog 18 #[v, u, .int .i64 t, .int .i64 b] w fun e w' => e = .returned (.tuple #[.agg #[.int .i64 k, .int .i64 1], .bool true]) ∧ Below w.heap.size w w' := got_int (bet_yes h hb) h0 h1
theorem less_is' {n d n' d' : Int} {b : Bool} (h : fv n d = true) (k : fv n' d' = true) (e : decide (fq n d < fq n' d') = b) (w : World) :
    Calls Try.prog 24 #[.agg #[.int .i64 n, .int .i64 d], .agg #[.int .i64 n', .int .i64 d']] w fun e w' => e = .returned (.bool b) ∧ Below w.heap.size w w' := by
  have := implFracLess_any n d n' d' w
  have e2 : (fv n d && fv n' d' && decide (n * d' < n' * d)) = b := by
    rw [h, k, ← e]; simp only [Bool.true_and]; exact decide_eq_decide.2 (fq_lt h k)
  rwa [e2] at this
theorem num_nonneg {n d : Int} (h : fv n d = true) (k : (0 : Rat) ≤ fq n d) : 0 ≤ n := by
  have := fq_below h
  rcases Int.lt_or_le n 0 with q | q
  · exact absurd (this.1 q) (by grind)
  · exact q
theorem num_zero {n d : Int} (h : fv n d = true) (k : fq n d = 0) : n = 0 := (fq_zero h).2 k
theorem recI_is {b : Bool} (h : Rec w v u l m) (hb : isRec l m = b) : Calls Try.prog 13 #[v, u] w fun e w' => e = .returned (.bool b) ∧ Below w.heap.size w w' := by
  have := implRecordValid_any h
  rwa [hb] at this
theorem total_is {x : Int} (h : Rec w v u l m) (hb : totalOf l m = x) : Calls Try.prog 16 #[v, u] w fun e w' => e = .returned (.int .i64 x) ∧ Below w.heap.size w w' := by
  have := implRecordTotal_any h
  rwa [hb] at this
theorem totalS_is {x : Int} (h : Rec w v u l m) (hb : totalOf l m = x) : Calls Try.prog 17 #[v, u] w fun e w' => e = .returned (.int .i64 x) ∧ Below w.heap.size w w' := by
  have := specRecordTotal_any h.1 h.2
  rwa [hb] at this
theorem total_rec (h : isRec l m = true) : totalOf l m = m.sum := if_pos h
theorem total_bad (h : isRec l m = false) : totalOf l m = -1 := if_neg (by rw [h]; simp)
theorem sumOf_any (h : IRow w u m) (hm : ∀ x ∈ m, 0 ≤ x ∧ x ≤ 10000) (h20 : m.length ≤ 20) : Calls Try.prog 19 #[u] w fun e w' => e = .returned (.int .i64 m.sum) ∧ Below w.heap.size w w' := by
  obtain ⟨a', c', rfl, h1', h2', hlie⟩ := h.parts
  have H := Lib.hid hlie; have HM := Lib.hid hm
  unfold maxLen at h2'
  clear h hlie hm
  go_enter Try.func19, Try.ntmps19
  go_wp2_with fail
  go_loopg [3, 4] m.length (fun k y x wr => ∃ j : Nat, x = .int .i64 j ∧ y = .int .i64 (m.take j).sum ∧ j + k = m.length ∧ w = wr)
  case atStart => exact ⟨0, rfl, rfl, by omega, rfl⟩
  case round =>
    obtain ⟨j, rfl, rfl, hk, rfl⟩ := hrel
    have K := Lib.hid hk
    have hjl : j ≤ m.length := by omega
    clear hk
    by_cases hlt : j < m.length
    · obtain ⟨g, o, rfl, d1⟩ := ilies_cell H.out j hlt
      have i1 : (j : Int) < (m.length : Int) := by omega
      have i2 : (0 : Int) ≤ (j : Int) := by omega
      have hs := sum_take_step hlt
      have s1 := sum_take_bound (j := j) HM.out h20
      have s2 := sum_take_bound (j := j + 1) HM.out h20
      have e1 : IntKind.i64.wrap ((m.take j).sum + m[j]) = (m.take (j + 1)).sum := by rw [hs]; exact IntWalk.i64_in _ (by omega)
      clear hs
      go_wp2_with fail
      go_roundg (gk - 1)
      case measure => have := K.out; omega
      case rel => exact ⟨j + 1, by go_num, by first | rfl | (rw [e1]), by have := K.out; omega, rfl⟩
    · have hj : j = m.length := by omega
      have e1 : (m.take j).sum = m.sum := by rw [hj, List.take_length]
      rw [e1]
      clear e1
      go_wp2_with fail
      go_ret
      exact ⟨rfl, Below.refl _ _⟩
theorem bet_whole' (h : isRec l m = true) (hL : l.length = m.length + 1) : bet l m (l[0]'(by omega)) (l[m.length]'(by omega)) = some ((m.sum : Int) : Rat) := by
  have := bet_whole h
  have e : l.length - 1 = m.length := by omega
  simp only [e] at this
  exact this
theorem up_ends (h : isRec l m = true) (hL : l.length = m.length + 1) : 0 ≤ l[0]'(by omega) ∧ l[0]'(by omega) < l[m.length]'(by omega) ∧ l[m.length]'(by omega) ≤ 30000 := by
  have hl := rec_len h
  exact ⟨(edges_range (rec_edges h) 0 (by omega)).1, edges_up (rec_edges h) 0 m.length (by omega) (by omega), (edges_range (rec_edges h) m.length (by omega)).2⟩
theorem bet_before (h : isRec l m = true) (hL : l.length = m.length + 1) : bet l m 0 (l[0]'(by omega)) = some ((0 : Int) : Rat) := by
  have hl := rec_len h
  have u := up_ends h hL
  have f := edges_first (rec_edges h) (by omega)
  rw [bet_clean h (Int.le_refl 0) u.1 (by omega) (.inr (.inl fun x hx => by have := f x hx; omega)) (.inl (List.getElem_mem _)), amt_before (rec_edges h) f]; rfl
theorem bet_behind (h : isRec l m = true) (hL : l.length = m.length + 1) : bet l m (l[m.length]'(by omega)) 30000 = some ((0 : Int) : Rat) := by
  have hl := rec_len h
  have u := up_ends h hL
  have f := edges_last (rec_edges h) (by omega)
  have e : l.length - 1 = m.length := by omega
  simp only [e] at f
  rw [bet_clean h (by omega) u.2.2 (Int.le_refl _) (.inl (List.getElem_mem _)) (.inr (.inr fun x hx => by have := f x hx; omega)), amt_behind (rec_edges h) f]; rfl
theorem bet_bin (h : isRec l m = true) (hL : l.length = m.length + 1) (k : Nat) (hk : k < m.length) : bet l m (l[k]'(by omega)) (l[k + 1]'(by omega)) = some ((m[k] : Int) : Rat) := by
  have u := edges_up (rec_edges h) k (k + 1) (by omega) (by omega)
  have r0 := edges_range (rec_edges h) k (by omega)
  have r1 := edges_range (rec_edges h) (k + 1) (by omega)
  rw [bet_clean h r0.1 (Int.le_of_lt u) r1.2 (.inl (List.getElem_mem _)) (.inl (List.getElem_mem _)), amt_bin h k hk]
theorem double_take {l : List Int} {j : Nat} (hj : j < l.length) : (l.take j).map (2 * ·) ++ [2 * l[j]] = (l.take (j + 1)).map (2 * ·) := by
  rw [List.take_succ_eq_append_getElem hj, List.map_append]; rfl
end Go.Proofs.Ytkcbgeldnibjcaa
