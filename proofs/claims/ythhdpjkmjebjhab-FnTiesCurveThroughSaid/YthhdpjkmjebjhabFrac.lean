/- The fractions of the program and of the model. -/
import Derived.Test.YthhdpjkmjebjhabGcd
import Derived.RegionTactic
import Derived.ChangeAlike
import Derived.Deep.RegionWith
import Derived.Handy
namespace Go.Proofs.Ythhdpjkmjebjhab
open Go.RowKit

theorem lt_of_cell {w : World} {a : Addr} {v : Value} (h : w.cell? a = some v) : a.block < w.heap.size := by
  unfold World.cell? at h
  rcases Nat.lt_or_ge a.block w.heap.size with k | k
  · exact k
  · simp [Array.getElem?_eq_none k] at h
/-- Two cells of a block that was there stay as they were. -/
theorem below_two {W w1 : World} (k : Nat) (u v : Value) (b : Below W.heap.size W w1) (h0 : W.cell? ⟨k, 0, none⟩ = some u) (h1 : W.cell? ⟨k, 1, none⟩ = some v)
    (f0 : W.frozen? ⟨k, 0, none⟩ = false) (f1 : W.frozen? ⟨k, 1, none⟩ = false) :
    w1.cell? ⟨k, 0, none⟩ = some u ∧ w1.cell? ⟨k, 1, none⟩ = some v ∧ w1.frozen? ⟨k, 0, none⟩ = false ∧ w1.frozen? ⟨k, 1, none⟩ = false := by
  have hl := lt_of_cell h0
  exact ⟨(b.cell (p := ⟨k, 0, none⟩) hl).trans h0, (b.cell (p := ⟨k, 1, none⟩) hl).trans h1, (b.frozen (p := ⟨k, 0, none⟩) hl).trans f0, (b.frozen (p := ⟨k, 1, none⟩) hl).trans f1⟩
theorem stored0 {w : World} {k : Nat} {u : Value} (x y : Value) (h : w.cell? ⟨k, 0, none⟩ = some u) : ((w.setCell ⟨k, 0, none⟩ x).setCell ⟨k, 1, none⟩ y).cell? ⟨k, 0, none⟩ = some x := by
  rw [World.cell?_setCell_other _ _ _ _ (by simp), World.cell?_setCell_same _ _ _ h]
theorem stored1 {w : World} {k : Nat} {u : Value} (x y : Value) (h : w.cell? ⟨k, 1, none⟩ = some u) : ((w.setCell ⟨k, 0, none⟩ x).setCell ⟨k, 1, none⟩ y).cell? ⟨k, 1, none⟩ = some y := by
  rw [World.cell?_setCell_same _ _ _ (by rw [World.cell?_setCell_other _ _ _ _ (by simp)]; exact h)]
/-- At a return of a fraction and a word. -/
theorem back_two {fn : Func} (hf : fn.results = #[.cell 4 41, .tmp 5]) {a : Act} {w : World} {k : Nat} {x y b : Value} {R : Ending → World → Prop}
    (h4 : a.tmps.getD 4 undef = .pointer (some ⟨k, 0, none⟩)) (h5 : a.tmps.getD 5 undef = b) (c0 : w.cell? ⟨k, 0, none⟩ = some x) (c1 : w.cell? ⟨k, 1, none⟩ = some y)
    (hd : a.defers = []) (hR : R (.returned (.tuple #[.agg #[x, y], b])) w) : bodyPost Try.prog fn R .ret a w := by
  rw [Array.getD_eq_getD_getElem?] at h4 h5
  refine bodyPost_ret (v := .tuple #[.agg #[x, y], b]) ?_ hd hR
  simp [results, hf, go_sem, h4, h5, c0, c1]
/-- What a function that hands back a fraction comes to. -/
def GotFrac (v : Bool) (r : Rat) (w w' : World) (e : Ending) : Prop :=
  ∃ (n d : Int) (ok : Bool), e = .returned (.tuple #[.agg #[.int .i64 n, .int .i64 d], .bool ok]) ∧ Res v r n d ok ∧ Below w.heap.size w w'
/-- What the division of two numbers is made of. -/
theorem of_ways (a b : Int) : (ofV a b = false ∧ (a < -4000000000000000000 ∨ 4000000000000000000 < a)) ∨
    (ofV a b = false ∧ -4000000000000000000 ≤ a ∧ a ≤ 4000000000000000000 ∧ (b < -4000000000000000000 ∨ 4000000000000000000 < b)) ∨
    (ofV a b = false ∧ -4000000000000000000 ≤ a ∧ a ≤ 4000000000000000000 ∧ b = 0) ∨
    (ofV a b = true ∧ -4000000000000000000 ≤ a ∧ a ≤ 4000000000000000000 ∧ ((∃ y : Nat, b = y ∧ 0 < y ∧ y ≤ 4000000000000000000) ∨ (∃ y : Nat, b = -(y : Int) ∧ 0 < y ∧ y ≤ 4000000000000000000))) := by
  have no : ¬ (b ≠ 0 ∧ -4000000000000000000 ≤ a ∧ a ≤ 4000000000000000000 ∧ -4000000000000000000 ≤ b ∧ b ≤ 4000000000000000000) → ofV a b = false := by
    intro h
    cases k : ofV a b
    · rfl
    · exact absurd (ofV_iff.1 k) h
  by_cases h1 : a < -4000000000000000000 ∨ 4000000000000000000 < a
  · exact .inl ⟨no (by omega), h1⟩
  by_cases h2 : b < -4000000000000000000 ∨ 4000000000000000000 < b
  · exact .inr (.inl ⟨no (by omega), by omega, by omega, h2⟩)
  by_cases h3 : b = 0
  · exact .inr (.inr (.inl ⟨no (by omega), by omega, by omega, h3⟩))
  refine .inr (.inr (.inr ⟨ofV_iff.2 (by omega), by omega, by omega, ?_⟩))
  by_cases h4 : 0 < b
  · exact .inl ⟨b.toNat, by omega, by omega, by omega⟩
  · exact .inr ⟨(-b).toNat, by omega, by omega, by omega⟩
theorem quot_nat (a : Int) (y : Nat) (hy : 0 < y) : ∃ (r : Rat) (g : Nat), r = Rat.divInt a y ∧ g = Nat.gcd a.natAbs y ∧ 0 < g ∧ Int.tdiv a (g : Int) = r.num ∧ Int.tdiv (y : Int) (g : Int) = (r.den : Int) ∧
    -(a.natAbs : Int) ≤ r.num ∧ r.num ≤ a.natAbs ∧ 0 < r.den ∧ r.den ≤ y := by
  have hb : (0 : Int) < (y : Int) := by omega
  have hg : Int.gcd a (y : Int) = Nat.gcd a.natAbs y := by rw [Int.gcd, Int.natAbs_natCast]
  have q := quot (a := a) hb
  have s := quot_small (a := a) hb
  rw [hg] at q
  have p : 0 < Nat.gcd a.natAbs y := Nat.gcd_pos_of_pos_right _ hy
  refine ⟨_, _, rfl, rfl, p, q.1, q.2, by omega, by omega, Rat.den_pos _, ?_⟩
  have h2 := q.2
  have : (Int.tdiv (y : Int) (Nat.gcd a.natAbs y : Nat)).natAbs ≤ (y : Int).natAbs := by rw [Int.natAbs_tdiv]; exact Nat.div_le_self _ _
  omega
/-- What the program takes for too big. -/
theorem tooBig_any (n : Int) (w : World) :
    Calls Try.prog 60 #[.int .i64 n] w fun e w' => e = .returned (.bool (!isIn n (-4000000000000000000) 4000000000000000000)) ∧ w = w' := by
  by_cases h : n < -4000000000000000000
  · have h1 : decide (n < -4000000000000000000) = true := by simpa using h
    have h2 := isIn_no (n := n) (a := -4000000000000000000) (b := 4000000000000000000) (by omega)
    go_enter Try.func60, Try.ntmps60
    go_wp2
    go_ret
    exact ⟨one_of (by first | rfl | rw [h2]; rfl), rfl⟩
  · have h1 : decide (n < -4000000000000000000) = false := by simpa using h
    by_cases h' : 4000000000000000000 < n
    · have h3 : decide (4000000000000000000 < n) = true := by simpa using h'
      have h2 := isIn_no (n := n) (a := -4000000000000000000) (b := 4000000000000000000) (by omega)
      go_enter Try.func60, Try.ntmps60
      go_wp2
      go_ret
      exact ⟨one_of (by first | rfl | rw [h2]; rfl), rfl⟩
    · have h3 : decide (4000000000000000000 < n) = false := by simpa using h'
      have h2 := isIn_yes (n := n) (a := -4000000000000000000) (b := 4000000000000000000) (by omega) (by omega)
      go_enter Try.func60, Try.ntmps60
      go_wp2
      go_ret
      exact ⟨one_of (by first | rfl | rw [h2]; rfl), rfl⟩
theorem implFracOf_any (a b : Int) (w : World) :
    Calls Try.prog 44 #[.int .i64 a, .int .i64 b] w fun e w' => GotFrac (ofV a b) (Rat.divInt a b) w w' e := by
  rcases of_ways a b with ⟨hv, h1⟩ | ⟨hv, h1, h2, h3⟩ | ⟨hv, h1, h2, rfl⟩ | ⟨hv, h1, h2, ⟨y, rfl, h3, h4⟩ | ⟨y, rfl, h3, h4⟩⟩
  · have d1 := isIn_no (n := a) (a := -4000000000000000000) (b := 4000000000000000000) (by omega)
    clear h1
    by_cases hb : b = 0
    · have d3 : (b == 0) = true := by simpa using hb
      go_enter Try.func44, Try.ntmps44
      go_wp2
      go_returns
      exact ⟨0, 0, false, rfl, Res.no (.inl hv), (Below.refl _ _).alloc (Nat.le_refl _) _⟩
    have d3 : (b == 0) = false := by simpa using hb
    go_enter Try.func44, Try.ntmps44
    go_wp2_with (go_at_call 60; refine (tooBig_any _ _).mono ?_; rintro e w' ⟨rfl, rfl⟩)
    go_returns
    exact ⟨0, 0, false, rfl, Res.no (.inl hv), (Below.refl _ _).alloc (Nat.le_refl _) _⟩
  · have d1 := isIn_yes (n := a) (a := -4000000000000000000) (b := 4000000000000000000) (by omega) (by omega)
    have d2 := isIn_no (n := b) (a := -4000000000000000000) (b := 4000000000000000000) (by omega)
    have d3 : (b == 0) = false := by simp; omega
    clear h1 h2 h3
    go_enter Try.func44, Try.ntmps44
    go_wp2_with (go_at_call 60; refine (tooBig_any _ _).mono ?_; rintro e w' ⟨rfl, rfl⟩)
    go_returns
    exact ⟨0, 0, false, rfl, Res.no (.inl hv), (Below.refl _ _).alloc (Nat.le_refl _) _⟩
  · have d1 := isIn_yes (n := a) (a := -4000000000000000000) (b := 4000000000000000000) (by omega) (by omega)
    have d2 := isIn_yes (n := 0) (a := -4000000000000000000) (b := 4000000000000000000) (by omega) (by omega)
    clear h1 h2
    go_enter Try.func44, Try.ntmps44
    go_wp2_with (go_at_call 60; refine (tooBig_any _ _).mono ?_; rintro e w' ⟨rfl, rfl⟩)
    go_returns
    exact ⟨0, 0, false, rfl, Res.no (.inl hv), (Below.refl _ _).alloc (Nat.le_refl _) _⟩
  · have d1 := isIn_yes (n := a) (a := -4000000000000000000) (b := 4000000000000000000) (by omega) (by omega)
    have d2 := isIn_yes (n := (y : Int)) (a := -4000000000000000000) (b := 4000000000000000000) (by omega) (by omega)
    have d3 : ((y : Int) == 0) = false := by simp; omega
    have d4 : decide ((y : Int) < 0) = false := by simp
    obtain ⟨r, g, hr, hg, g0, q1, q2, r1, r2, r3, r4⟩ := quot_nat a y h3
    rw [← hr]
    have hg' := Lib.hid hg
    have hr' := Lib.hid hr
    have d5 : ((g : Int) == 0) = false := by simp; omega
    clear hg hr
    cases hf : fv r.num r.den
    all_goals
      go_enter Try.func44, Try.ntmps44
      go_wp2_with (first | (go_at_call 60; refine (tooBig_any _ _).mono ?_; rintro e w' ⟨rfl, rfl⟩) | (go_at_call 61; refine (commonDivisor_any _ _ (by omega) (by omega) (by omega) _).mono ?_; rw [← hg'.out]; rintro e w' ⟨rfl, rfl⟩))
      go_region
      all_goals
        go_wp2_with fail
        refine (implFracValid_any _ _ _).mono ?_
        rintro e w1 ⟨rfl, b1⟩
        obtain ⟨c0, c1, c2, c3⟩ := below_two w.heap.size (.int .i64 0) (.int .i64 0) b1 (by simp) (by simp) (by simp) (by simp)
        obtain ⟨c4, c5, c6, c7⟩ := below_two (w.heap.size + 1) (.int .i64 r.num) (.int .i64 r.den) b1 (by simp) (by simp) (by simp) (by simp)
        go_wp2
        have hs := b1.size
        simp at hs
        refine back_two rfl rfl rfl (stored0 _ _ c0) (stored1 _ _ c1) rfl ?_
        refine ⟨_, _, _, rfl, ?_, ?_⟩
        · first | exact res_of hv hf | exact res_not hf
        · refine Below.setCell (Below.setCell (Below.trans ?_ (b1.mono (by simp <;> omega))) ?_ _) ?_ _
          go_grown
  · have d1 := isIn_yes (n := a) (a := -4000000000000000000) (b := 4000000000000000000) (by omega) (by omega)
    have d2 := isIn_yes (n := -(y : Int)) (a := -4000000000000000000) (b := 4000000000000000000) (by omega) (by omega)
    have d3 : (-(y : Int) == 0) = false := by simp; omega
    have d4 : decide (-(y : Int) < 0) = true := by simp; omega
    obtain ⟨r, g, hr, hg, g0, q1, q2, r1, r2, r3, r4⟩ := quot_nat (-a) y h3
    rw [show Rat.divInt a (-(y : Int)) = r by rw [hr, ← Rat.neg_divInt_neg, Int.neg_neg]]
    have hg' := Lib.hid hg
    have hr' := Lib.hid hr
    have d5 : ((g : Int) == 0) = false := by simp; omega
    clear hg hr
    cases hf : fv r.num r.den
    all_goals
      go_enter Try.func44, Try.ntmps44
      go_wp2_with (first | (go_at_call 60; refine (tooBig_any _ _).mono ?_; rintro e w' ⟨rfl, rfl⟩) | (go_at_call 61; refine (commonDivisor_any _ _ (by omega) (by omega) (by omega) _).mono ?_; rw [← hg'.out]; rintro e w' ⟨rfl, rfl⟩))
      go_region
      all_goals
        go_wp2_with fail
        refine (implFracValid_any _ _ _).mono ?_
        rintro e w1 ⟨rfl, b1⟩
        obtain ⟨c0, c1, c2, c3⟩ := below_two w.heap.size (.int .i64 0) (.int .i64 0) b1 (by simp) (by simp) (by simp) (by simp)
        obtain ⟨c4, c5, c6, c7⟩ := below_two (w.heap.size + 1) (.int .i64 r.num) (.int .i64 r.den) b1 (by simp) (by simp) (by simp) (by simp)
        go_wp2
        have hs := b1.size
        simp at hs
        refine back_two rfl rfl rfl (stored0 _ _ c0) (stored1 _ _ c1) rfl ?_
        refine ⟨_, _, _, rfl, ?_, ?_⟩
        · first | exact res_of hv hf | exact res_not hf
        · refine Below.setCell (Below.setCell (Below.trans ?_ (b1.mono (by simp <;> omega))) ?_ _) ?_ _
          go_grown
end Go.Proofs.Ythhdpjkmjebjhab
