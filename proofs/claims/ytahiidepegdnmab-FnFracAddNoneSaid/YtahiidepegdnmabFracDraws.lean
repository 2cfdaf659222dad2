/- The draws of fractions, out of a code. -/
import Derived.Test.YtahiidepegdnmabFracDraw
namespace Go.Proofs.Ytahiidepegdnmab
open Go.RowKit

/-- At a return of two fractions. -/
theorem back_fracs {fn : Func} (hf : fn.results = #[.cell 2 24, .cell 3 24]) {a : Act} {w : World} {k l : Nat} {x y u v : Value} {R : Ending → World → Prop}
    (h4 : a.tmps.getD 2 undef = .pointer (some ⟨k, 0, none⟩)) (h5 : a.tmps.getD 3 undef = .pointer (some ⟨l, 0, none⟩)) (c0 : w.cell? ⟨k, 0, none⟩ = some x) (c1 : w.cell? ⟨k, 1, none⟩ = some y)
    (e0 : w.cell? ⟨l, 0, none⟩ = some u) (e1 : w.cell? ⟨l, 1, none⟩ = some v)
    (hd : a.defers = []) (hR : R (.returned (.tuple #[.agg #[x, y], .agg #[u, v]])) w) : bodyPost Try.prog fn R .ret a w := by
  rw [Array.getD_eq_getD_getElem?] at h4 h5
  refine bodyPost_ret (v := .tuple #[.agg #[x, y], .agg #[u, v]]) ?_ hd hR
  simp [results, hf, go_sem, h4, h5, c0, c1, e0, e1]
theorem set_past {w : World} {k l : Nat} {i : Nat} {x y u : Value} (h : k < l ∨ l < k) (c : w.cell? ⟨k, i, none⟩ = some u) : ((w.setCell ⟨l, 0, none⟩ x).setCell ⟨l, 1, none⟩ y).cell? ⟨k, i, none⟩ = some u := by
  rw [World.cell?_setCell_other _ _ _ _ (by simp <;> omega), World.cell?_setCell_other _ _ _ _ (by simp <;> omega)]; exact c
def small (n d : Int) : Prop := -1000000000 ≤ n ∧ n ≤ 1000000000 ∧ -1000000000 ≤ d ∧ d ≤ 1000000000
/-- What a draw of two fractions comes to. -/
def DrawnFracs (w w' : World) (b m : Nat) (e : Ending) : Prop :=
  ∃ n d n' d' : Int, e = .returned (.tuple #[.agg #[.int .i64 n, .int .i64 d], .agg #[.int .i64 n', .int .i64 d']]) ∧ small n d ∧ small n' d' ∧ At w' b m ∧ Keep b w w'
theorem l91Fracs_any {w : World} {b m : Nat} (h : At w b m) (hm : m ≤ 800000) :
    Calls Try.prog 30 #[.pointer (some ⟨b, 0, none⟩)] w fun e w' => DrawnFracs w w' b (m + 8) e := by
  have hb := h.lt
  go_enter Try.func30, Try.ntmps30
  go_wp2_with fail
  refine (l91Frac_any ((h.alloc _).alloc _) (by omega)).mono ?_
  rintro e w1 ⟨n, d, rfl, hn, a1, k1⟩
  obtain ⟨c0, c1, c2, c3⟩ := keep_two w.heap.size (.int .i64 0) (.int .i64 0) k1 (by omega) (by go_cell) (by go_cell) (by go_simp) (by go_simp)
  obtain ⟨e0, e1, e2, e3⟩ := keep_two (w.heap.size + 1) (.int .i64 0) (.int .i64 0) k1 (by omega) (by go_cell) (by go_cell) (by go_simp) (by go_simp)
  replace k1 := ((Keep.alloc b w _).trans (Keep.alloc b _ _)).trans k1
  have lt1 := lt_of_cell e0
  simp at lt1
  go_wp2
  have bA := (Below.refl w1.heap.size w1).alloc (Nat.le_refl _) (.cells #[.int .i64 n, .int .i64 d] 24)
  have aA := a1.alloc (.cells #[.int .i64 n, .int .i64 d] 24)
  obtain ⟨c0, c1, c2, c3⟩ := below_two _ _ _ bA c0 c1 c2 c3
  obtain ⟨e0, e1, e2, e3⟩ := below_two _ _ _ bA e0 e1 e2 e3
  have x0 : (w1.alloc (.cells #[.int .i64 n, .int .i64 d] 24)).cell? ⟨w1.heap.size, 0, none⟩ = some (.int .i64 n) := by go_cell
  have x1 : (w1.alloc (.cells #[.int .i64 n, .int .i64 d] 24)).cell? ⟨w1.heap.size, 1, none⟩ = some (.int .i64 d) := by go_cell
  have x2 : (w1.alloc (.cells #[.int .i64 n, .int .i64 d] 24)).frozen? ⟨w1.heap.size, 0, none⟩ = false := by go_simp
  have x3 : (w1.alloc (.cells #[.int .i64 n, .int .i64 d] 24)).frozen? ⟨w1.heap.size, 1, none⟩ = false := by go_simp
  have kA := k1.trans (Keep.made bA)
  clear bA k1 a1
  revert c0 c1 c2 c3 e0 e1 e2 e3 x0 x1 x2 x3 kA aA
  generalize w1.alloc (.cells #[.int .i64 n, .int .i64 d] 24) = W
  intro aA c0 c1 c2 c3 e0 e1 e2 e3 x0 x1 x2 x3 kA
  go_region_with (go_at_call 34; refine (l91Frac_any (m := m + 4) (b := b) ?_ (by omega)).mono ?_; (first | exact aA | exact aA.drew); rintro e w2 ⟨n', d', rfl, hn', a2, k2⟩; have c4 := keep_two w.heap.size (.int .i64 0) (.int .i64 0) k2 (by omega) (by simpa using c0) (by simpa using c1) (by simpa using c2) (by simpa using c3); have e4 := keep_two (w.heap.size + 1) (.int .i64 0) (.int .i64 0) k2 (by omega) (by simpa using e0) (by simpa using e1) (by simpa using e2) (by simpa using e3); have x4 := keep_two w1.heap.size (.int .i64 n) (.int .i64 d) k2 (by omega) (by simpa using x0) (by simpa using x1) (by simpa using x2) (by simpa using x3); obtain ⟨c4, c5, c6, c7⟩ := c4; obtain ⟨e4, e5, e6, e7⟩ := e4; obtain ⟨x4, x5, x6, x7⟩ := x4)
  all_goals
    go_wp2
    refine back_fracs rfl rfl rfl (set_past (.inl (Nat.lt_succ_self _)) (stored0 _ _ c4)) (set_past (.inl (Nat.lt_succ_self _)) (stored1 _ _ c5)) (stored0 _ _ (set_past (.inr (Nat.lt_succ_self _)) e4)) (stored1 _ _ (set_past (.inr (Nat.lt_succ_self _)) e5)) rfl ?_
    have kk : Keep b w w2 := by first | exact kA.trans k2 | exact kA.trans ((Keep.drew b W).trans k2)
    exact ⟨n, d, n', d', rfl, hn, hn', ((((a2.mono (by omega)).set hb _).set hb _).set (by show b < w.heap.size + 1; omega) _).set (by show b < w.heap.size + 1; omega) _,
      (((kk.set (Nat.le_refl _) _).set (Nat.le_refl _) _).set (Nat.le_succ _) _).set (Nat.le_succ _) _⟩
theorem Bytes.below {w w' : World} {a : Option Addr} {len cap : Nat} (h : Bytes w a len cap) (b : Below w.heap.size w w') : Bytes w' a len cap := by
  rcases h with h | ⟨x, h1, h2, h3, h4, h5⟩
  · exact .inl h
  · refine .inr ⟨x, h1, h2, h3, ?_, fun i hi => ?_⟩
    · rcases h4 with h4 | h4
      · exact .inl h4
      · exact .inr (Nat.lt_of_lt_of_le h4 b.size)
    · obtain ⟨z, hz, hz'⟩ := h5 i hi
      exact ⟨z, (b.cell (lt_of_cell hz)).trans hz, hz'⟩
/-- What a draw of two fractions out of a code comes to. -/
def DrewFracs (w w' : World) (e : Ending) : Prop :=
  ∃ n d n' d' : Int, e = .returned (.tuple #[.agg #[.int .i64 n, .int .i64 d], .agg #[.int .i64 n', .int .i64 d']]) ∧ small n d ∧ small n' d' ∧ Below w.heap.size w w'
theorem DrawFracAdd_any {w : World} {a : Option Addr} {len cap : Nat} (h : Bytes w a len cap) :
    Calls Try.prog 20 #[.slice a len cap] w fun e w' => DrewFracs w w' e := by
  have hB := h.below (((Below.refl w.heap.size w).alloc (Nat.le_refl _) (.cells #[.int .i64 0, .int .i64 0] 24)).alloc (by go_size) (.cells #[.int .i64 0, .int .i64 0] 24))
  go_enter Try.func20, Try.ntmps20
  go_wp2_with fail
  refine (open_any hB).mono ?_
  rintro e w1 ⟨rfl, a1, b1, s1⟩
  obtain ⟨c0, c1, c2, c3⟩ := below_two w.heap.size (.int .i64 0) (.int .i64 0) b1 (by go_cell) (by go_cell) (by go_simp) (by go_simp)
  obtain ⟨e0, e1, e2, e3⟩ := below_two (w.heap.size + 1) (.int .i64 0) (.int .i64 0) b1 (by go_cell) (by go_cell) (by go_simp) (by go_simp)
  have bb : Below w.heap.size w w1 := Below.trans (by go_grown) (b1.mono (by go_size))
  have hs := a1.lt
  simp at s1 hs
  go_wp2_with fail
  refine (l91Fracs_any (by simpa using a1) (by omega)).mono ?_
  rintro e w2 ⟨n, d, n', d', rfl, hn, hn', a2, k2⟩
  obtain ⟨c0, c1, c2, c3⟩ := keep_two _ _ _ k2 (by omega) c0 c1 c2 c3
  obtain ⟨e0, e1, e2, e3⟩ := keep_two _ _ _ k2 (by omega) e0 e1 e2 e3
  replace bb := k2.below bb (by omega) bb.size
  go_wp2
  refine back_fracs rfl rfl rfl (set_past (.inl (Nat.lt_succ_self _)) (stored0 _ _ c0)) (set_past (.inl (Nat.lt_succ_self _)) (stored1 _ _ c1)) (stored0 _ _ (set_past (.inr (Nat.lt_succ_self _)) e0)) (stored1 _ _ (set_past (.inr (Nat.lt_succ_self _)) e1)) rfl ?_
  exact ⟨n, d, n', d', rfl, hn, hn', by go_grown⟩
theorem DrawFracSub_any {w : World} {a : Option Addr} {len cap : Nat} (h : Bytes w a len cap) :
    Calls Try.prog 27 #[.slice a len cap] w fun e w' => DrewFracs w w' e := by
  have hB := h.below (((Below.refl w.heap.size w).alloc (Nat.le_refl _) (.cells #[.int .i64 0, .int .i64 0] 24)).alloc (by go_size) (.cells #[.int .i64 0, .int .i64 0] 24))
  go_enter Try.func27, Try.ntmps27
  go_wp2_with fail
  refine (open_any hB).mono ?_
  rintro e w1 ⟨rfl, a1, b1, s1⟩
  obtain ⟨c0, c1, c2, c3⟩ := below_two w.heap.size (.int .i64 0) (.int .i64 0) b1 (by go_cell) (by go_cell) (by go_simp) (by go_simp)
  obtain ⟨e0, e1, e2, e3⟩ := below_two (w.heap.size + 1) (.int .i64 0) (.int .i64 0) b1 (by go_cell) (by go_cell) (by go_simp) (by go_simp)
  have bb : Below w.heap.size w w1 := Below.trans (by go_grown) (b1.mono (by go_size))
  have hs := a1.lt
  simp at s1 hs
  go_wp2_with fail
  refine (l91Fracs_any (by simpa using a1) (by omega)).mono ?_
  rintro e w2 ⟨n, d, n', d', rfl, hn, hn', a2, k2⟩
  obtain ⟨c0, c1, c2, c3⟩ := keep_two _ _ _ k2 (by omega) c0 c1 c2 c3
  obtain ⟨e0, e1, e2, e3⟩ := keep_two _ _ _ k2 (by omega) e0 e1 e2 e3
  replace bb := k2.below bb (by omega) bb.size
  go_wp2
  refine back_fracs rfl rfl rfl (set_past (.inl (Nat.lt_succ_self _)) (stored0 _ _ c0)) (set_past (.inl (Nat.lt_succ_self _)) (stored1 _ _ c1)) (stored0 _ _ (set_past (.inr (Nat.lt_succ_self _)) e0)) (stored1 _ _ (set_past (.inr (Nat.lt_succ_self _)) e1)) rfl ?_
  exact ⟨n, d, n', d', rfl, hn, hn', by go_grown⟩
theorem DrawFracMul_any {w : World} {a : Option Addr} {len cap : Nat} (h : Bytes w a len cap) :
    Calls Try.prog 17 #[.slice a len cap] w fun e w' => DrewFracs w w' e := by
  have hB := h.below (((Below.refl w.heap.size w).alloc (Nat.le_refl _) (.cells #[.int .i64 0, .int .i64 0] 24)).alloc (by go_size) (.cells #[.int .i64 0, .int .i64 0] 24))
  go_enter Try.func17, Try.ntmps17
  go_wp2_with fail
  refine (open_any hB).mono ?_
  rintro e w1 ⟨rfl, a1, b1, s1⟩
  obtain ⟨c0, c1, c2, c3⟩ := below_two w.heap.size (.int .i64 0) (.int .i64 0) b1 (by go_cell) (by go_cell) (by go_simp) (by go_simp)
  obtain ⟨e0, e1, e2, e3⟩ := below_two (w.heap.size + 1) (.int .i64 0) (.int .i64 0) b1 (by go_cell) (by go_cell) (by go_simp) (by go_simp)
  have bb : Below w.heap.size w w1 := Below.trans (by go_grown) (b1.mono (by go_size))
  have hs := a1.lt
  simp at s1 hs
  go_wp2_with fail
  refine (l91Fracs_any (by simpa using a1) (by omega)).mono ?_
  rintro e w2 ⟨n, d, n', d', rfl, hn, hn', a2, k2⟩
  obtain ⟨c0, c1, c2, c3⟩ := keep_two _ _ _ k2 (by omega) c0 c1 c2 c3
  obtain ⟨e0, e1, e2, e3⟩ := keep_two _ _ _ k2 (by omega) e0 e1 e2 e3
  replace bb := k2.below bb (by omega) bb.size
  go_wp2
  refine back_fracs rfl rfl rfl (set_past (.inl (Nat.lt_succ_self _)) (stored0 _ _ c0)) (set_past (.inl (Nat.lt_succ_self _)) (stored1 _ _ c1)) (stored0 _ _ (set_past (.inr (Nat.lt_succ_self _)) e0)) (stored1 _ _ (set_past (.inr (Nat.lt_succ_self _)) e1)) rfl ?_
  exact ⟨n, d, n', d', rfl, hn, hn', by go_grown⟩
theorem DrawFracDiv_any {w : World} {a : Option Addr} {len cap : Nat} (h : Bytes w a len cap) :
    Calls Try.prog 25 #[.slice a len cap] w fun e w' => DrewFracs w w' e := by
  have hB := h.below (((Below.refl w.heap.size w).alloc (Nat.le_refl _) (.cells #[.int .i64 0, .int .i64 0] 24)).alloc (by go_size) (.cells #[.int .i64 0, .int .i64 0] 24))
  go_enter Try.func25, Try.ntmps25
  go_wp2_with fail
  refine (open_any hB).mono ?_
  rintro e w1 ⟨rfl, a1, b1, s1⟩
  obtain ⟨c0, c1, c2, c3⟩ := below_two w.heap.size (.int .i64 0) (.int .i64 0) b1 (by go_cell) (by go_cell) (by go_simp) (by go_simp)
  obtain ⟨e0, e1, e2, e3⟩ := below_two (w.heap.size + 1) (.int .i64 0) (.int .i64 0) b1 (by go_cell) (by go_cell) (by go_simp) (by go_simp)
  have bb : Below w.heap.size w w1 := Below.trans (by go_grown) (b1.mono (by go_size))
  have hs := a1.lt
  simp at s1 hs
  go_wp2_with fail
  refine (l91Fracs_any (by simpa using a1) (by omega)).mono ?_
  rintro e w2 ⟨n, d, n', d', rfl, hn, hn', a2, k2⟩
  obtain ⟨c0, c1, c2, c3⟩ := keep_two _ _ _ k2 (by omega) c0 c1 c2 c3
  obtain ⟨e0, e1, e2, e3⟩ := keep_two _ _ _ k2 (by omega) e0 e1 e2 e3
  replace bb := k2.below bb (by omega) bb.size
  go_wp2
  refine back_fracs rfl rfl rfl (set_past (.inl (Nat.lt_succ_self _)) (stored0 _ _ c0)) (set_past (.inl (Nat.lt_succ_self _)) (stored1 _ _ c1)) (stored0 _ _ (set_past (.inr (Nat.lt_succ_self _)) e0)) (stored1 _ _ (set_past (.inr (Nat.lt_succ_self _)) e1)) rfl ?_
  exact ⟨n, d, n', d', rfl, hn, hn', by go_grown⟩
theorem DrawFracLess_any {w : World} {a : Option Addr} {len cap : Nat} (h : Bytes w a len cap) :
    Calls Try.prog 11 #[.slice a len cap] w fun e w' => DrewFracs w w' e := by
  have hB := h.below (((Below.refl w.heap.size w).alloc (Nat.le_refl _) (.cells #[.int .i64 0, .int .i64 0] 24)).alloc (by go_size) (.cells #[.int .i64 0, .int .i64 0] 24))
  go_enter Try.func11, Try.ntmps11
  go_wp2_with fail
  refine (open_any hB).mono ?_
  rintro e w1 ⟨rfl, a1, b1, s1⟩
  obtain ⟨c0, c1, c2, c3⟩ := below_two w.heap.size (.int .i64 0) (.int .i64 0) b1 (by go_cell) (by go_cell) (by go_simp) (by go_simp)
  obtain ⟨e0, e1, e2, e3⟩ := below_two (w.heap.size + 1) (.int .i64 0) (.int .i64 0) b1 (by go_cell) (by go_cell) (by go_simp) (by go_simp)
  have bb : Below w.heap.size w w1 := Below.trans (by go_grown) (b1.mono (by go_size))
  have hs := a1.lt
  simp at s1 hs
  go_wp2_with fail
  refine (l91Fracs_any (by simpa using a1) (by omega)).mono ?_
  rintro e w2 ⟨n, d, n', d', rfl, hn, hn', a2, k2⟩
  obtain ⟨c0, c1, c2, c3⟩ := keep_two _ _ _ k2 (by omega) c0 c1 c2 c3
  obtain ⟨e0, e1, e2, e3⟩ := keep_two _ _ _ k2 (by omega) e0 e1 e2 e3
  replace bb := k2.below bb (by omega) bb.size
  go_wp2
  refine back_fracs rfl rfl rfl (set_past (.inl (Nat.lt_succ_self _)) (stored0 _ _ c0)) (set_past (.inl (Nat.lt_succ_self _)) (stored1 _ _ c1)) (stored0 _ _ (set_past (.inr (Nat.lt_succ_self _)) e0)) (stored1 _ _ (set_past (.inr (Nat.lt_succ_self _)) e1)) rfl ?_
  exact ⟨n, d, n', d', rfl, hn, hn', by go_grown⟩
/-- What a draw of a fraction out of a code comes to. -/
def DrewFrac (w w' : World) (e : Ending) : Prop := ∃ n d : Int, e = .returned (.agg #[.int .i64 n, .int .i64 d]) ∧ (-1000000000 ≤ n ∧ n ≤ 1000000000 ∧ -2000000000 ≤ d ∧ d ≤ 2000000000) ∧ Below w.heap.size w w'
theorem DrawFracFloor_any {w : World} {a : Option Addr} {len cap : Nat} (h : Bytes w a len cap) :
    Calls Try.prog 14 #[.slice a len cap] w fun e w' => DrewFrac w w' e := by
  have hB := h.below ((Below.refl w.heap.size w).alloc (Nat.le_refl _) (.cells #[.int .i64 0, .int .i64 0] 24))
  go_enter Try.func14, Try.ntmps14
  go_wp2_with fail
  refine (open_any hB).mono ?_
  rintro e w1 ⟨rfl, a1, b1, s1⟩
  obtain ⟨c0, c1, c2, c3⟩ := below_two w.heap.size (.int .i64 0) (.int .i64 0) b1 (by go_cell) (by go_cell) (by go_simp) (by go_simp)
  have bb : Below w.heap.size w w1 := Below.trans (by go_grown) (b1.mono (by go_size))
  have hs := a1.lt
  simp at s1 hs
  go_wp2_with fail
  refine (l91Frac_any (by simpa using a1) (by omega)).mono ?_
  rintro e w2 ⟨n, d, rfl, hn, a2, k2⟩
  obtain ⟨c0, c1, c2, c3⟩ := keep_two _ _ _ k2 (by omega) c0 c1 c2 c3
  replace bb := k2.below bb (by omega) bb.size
  go_wp2
  refine back_frac rfl rfl (stored0 _ _ c0) (stored1 _ _ c1) rfl ?_
  exact ⟨n, d, rfl, by omega, by go_grown⟩
end Go.Proofs.Ytahiidepegdnmab
