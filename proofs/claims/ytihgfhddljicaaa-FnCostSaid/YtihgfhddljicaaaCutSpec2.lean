/- The contracts of the model's functions on cuts: numbers of ways and of years. -/
import Derived.Test.YtihgfhddljicaaaCutSpec
namespace Go.Proofs.Ytihgfhddljicaaa
open Go.RowKit

/-- The numbers of ways for fewer than k places. -/
def waysL (a b k : Nat) : List Int := (List.range k).map fun i => ((ways a b i : Nat) : Int)
theorem waysL_length (a b k : Nat) : (waysL a b k).length = k := by simp [waysL]
theorem waysL_get {a b k i : Nat} (h : i < (waysL a b k).length) : (waysL a b k)[i] = ((ways a b i : Nat) : Int) := by simp [waysL]
theorem waysL_one (a b : Nat) : waysL a b 1 = [1] := rfl
theorem waysL_next (a b k : Nat) : waysL a b k ++ [((ways a b k : Nat) : Int)] = waysL a b (k + 1) := by simp [waysL, List.range_succ]
set_option maxHeartbeats 1600000 in
theorem specWays_any {n a b : Nat} (w : World) (hn : 1 ≤ n) (hn16 : n ≤ 16) (ha : 1 ≤ a) (hb : b ≤ 16) :
    Calls Try.prog 40 #[.int .i64 n, .int .i64 a, .int .i64 b] w fun e w' => e = .returned (.int .i64 ((ways a b n : Nat) : Int)) ∧ Below w.heap.size w w' := by
  have O0 : Hid (IOwn (w.alloc (.cells #[.int .i64 1] 3)) w.heap.size (.slice (some ⟨w.heap.size, 0, none⟩) 1 1) (waysL a b 1)) := Lib.hid (iown_one (Nat.le_refl _) 1)
  have B0 := Lib.hid ((Below.refl w.heap.size w).alloc (Nat.le_refl _) (.cells #[.int .i64 1] 3))
  go_enter Try.func40, Try.ntmps40
  go_wp2_with fail
  go_loopg [7, 8] n (fun k y x wr => ∃ j : Nat, x = .int .i64 j ∧ j + k = n + 1 ∧ 1 ≤ j ∧ IOwn wr w.heap.size y (waysL a b j) ∧ Below w.heap.size w wr)
  case atStart => exact ⟨1, rfl, by omega, by omega, O0.out, B0.out⟩
  case round =>
    obtain ⟨gj, rfl⟩ : ∃ g, g = gk := ⟨_, rfl⟩
    obtain ⟨j, rfl, hk, hj1, ho, hbl⟩ := hrel
    have K := Lib.hid hk; have O := Lib.hid ho; have B := Lib.hid hbl
    have hsz := hbl.size
    have hjn : j ≤ n + 1 := by omega
    clear hk ho hbl O0 B0
    by_cases hlt : j ≤ n
    · have i1 : (j : Int) ≤ (n : Int) := by omega
      obtain ⟨g, o, c, rfl, h1, h2⟩ := O.out.row.known (by rw [waysL_length]; omega)
      rw [waysL_length] at h1 O ⊢
      have R := Lib.hid O.out.row
      unfold maxLen at h2
      go_wp2_with fail
      go_loopg [9, 10] (dists a b j) (fun k x y wq => ∃ i : Nat, x = .int .i64 ((waysP a b j i : Nat) : Int) ∧ y = .int .i64 ((a : Int) + (i : Int)) ∧ i + k = dists a b j ∧ wr = wq)
      case atStart => exact ⟨0, rfl, by simp, by omega, rfl⟩
      case round =>
        obtain ⟨i, rfl, rfl, hk, rfl⟩ := hrel
        have K2 := Lib.hid hk
        have hid : i ≤ dists a b j := by omega
        clear hk
        by_cases hi : i < dists a b j
        · obtain ⟨n0, n1, n2⟩ := many_next hi
          have p1 := waysP_bound ha hb hj1 (show j ≤ 16 by omega) (show i + 1 ≤ dists a b j by omega)
          have d1 := R.out.cells (j - (a + i)) (by rw [waysL_length]; omega)
          rw [waysL_get] at d1
          obtain ⟨x, hx⟩ : ∃ x : Nat, ways a b (j - (a + i)) = x := ⟨_, rfl⟩
          rw [hx] at d1 n0
          obtain ⟨q, hq⟩ : ∃ q : Nat, j - (a + i) = q := ⟨_, rfl⟩
          rw [hq] at d1
          have c1 : (a : Int) + (i : Int) ≤ (b : Int) := by omega
          have c2 : (a : Int) + (i : Int) ≤ (j : Int) := by omega
          have e1 : IntKind.i64.wrap ((j : Int) - ((a : Int) + (i : Int))) = (q : Int) := by rw [show (j : Int) - ((a : Int) + (i : Int)) = (q : Int) by omega]; exact IntWalk.i64_in _ (by omega)
          have i2 : (0 : Int) ≤ (q : Int) := by omega
          have i3 : (q : Int) < (j : Int) := by omega
          have e2 : IntKind.i64.wrap (((waysP a b j i : Nat) : Int) + (x : Int)) = ((waysP a b j (i + 1) : Nat) : Int) := by rw [n0]; rw [Int.natCast_add]; exact IntWalk.i64_in _ (by omega)
          have e3 : IntKind.i64.wrap ((a : Int) + (i : Int) + 1) = (a : Int) + ((i + 1 : Nat) : Int) := by rw [show (a : Int) + (i : Int) + 1 = (a : Int) + ((i + 1 : Nat) : Int) by omega]; exact IntWalk.i64_in _ (by omega)
          clear n0 hx hq
          go_wp2_with fail
          go_roundg (gk - 1)
          case measure => have := K2.out; omega
          case rel => exact ⟨i + 1, by first | rfl | (rw [e2]), by first | rfl | (rw [e3]), by have := K2.out; omega, rfl⟩
        · have hid : i = dists a b j := by omega
          have W1 : Hid (waysP a b j i = ways a b j) := Lib.hid (by rw [hid]; exact many_all ha hj1)
          have stop : ¬ (a : Int) + (i : Int) ≤ (b : Int) ∨ ((a : Int) + (i : Int) ≤ (b : Int) ∧ ¬ (a : Int) + (i : Int) ≤ (j : Int)) := by unfold dists at hid; omega
          rw [W1.out]
          have n1 := new_one wr (.int .i64 ((ways a b j : Nat) : Int)) 3
          have N1 := Lib.hid n1
          have BW := Lib.hid ((Below.refl wr.heap.size wr).alloc (Nat.le_refl _) (.cells #[.int .i64 ((ways a b j : Nat) : Int)] 3))
          have e4 : IntKind.i64.wrap ((j : Int) + 1) = ((j + 1 : Nat) : Int) := by rw [show (j : Int) + 1 = ((j + 1 : Nat) : Int) by omega]; exact IntWalk.i64_in _ (by omega)
          clear n1 hid hi
          rcases stop with s1 | ⟨s1, s2⟩
          all_goals
            go_wp2_with (at_builtin; refine iappend_one intT rfl _ _ rfl (B := w.heap.size) _ _ rfl (O.out.grow BW.out) ⟨wr.heap.size, 0, none⟩ ((ways a b j : Nat) : Int) rfl N1.out (by rw [waysL_length]; omega) (by simp; omega) ?_; intro v8 w8 hown8 hg8)
            rw [waysL_next] at hown8
            have O8 := Lib.hid hown8
            have B8 := Lib.hid (B.out.trans ((BW.out.mono hsz).trans ((O.out.grow BW.out).below hg8 (by simp; omega))))
            clear hown8 hg8
            go_wp2_with fail
            go_roundg (gj - 1)
            case measure => have := K.out; omega
            case rel => exact ⟨j + 1, by first | rfl | (rw [e4]), by have := K.out; omega, by omega, O8.out, B8.out⟩
    · have hj : j = n + 1 := by omega
      subst hj
      have i1 : ¬ ((n + 1 : Nat) : Int) ≤ (n : Int) := by omega
      obtain ⟨g, o, c, rfl, h1, h2⟩ := O.out.row.known (by rw [waysL_length]; omega)
      rw [waysL_length] at h1 ⊢
      unfold maxLen at h2
      have d1 := O.out.row.cells n (by rw [waysL_length]; omega)
      rw [waysL_get] at d1
      have i2 : (0 : Int) ≤ (n : Int) := by omega
      have i3 : (n : Int) < ((n + 1 : Nat) : Int) := by omega
      go_wp2_with fail
      go_ret
      exact ⟨rfl, B.out⟩
theorem place_in (n : Int) : isIn n 1 16 = isPlace n := by rw [Bool.eq_iff_iff, isIn_iff, isPlace_iff]
set_option maxHeartbeats 800000 in
theorem specMany_any (n lo mo : Int) (w : World) :
    Calls Try.prog 22 #[.int .i64 n, .int .i64 lo, .int .i64 mo] w fun e w' => e = .returned (.int .i64 (manyB n lo mo)) ∧ Below w.heap.size w w' := by
  cases hp : isPlace n
  · have HP : Hid (isIn n 1 16 = false) := Lib.hid (by rw [place_in]; exact hp)
    have R := Lib.hid (manyB_no (lo := lo) (mo := mo) (.inl hp))
    clear hp
    go_enter Try.func22, Try.ntmps22
    go_wp2_with fail
    refine (l6In_any _ _ _ _).mono ?_
    rintro e w1 ⟨rfl, rfl⟩
    rw [HP.out]
    go_wp2_with fail
    go_ret
    exact ⟨by rw [R.out]; rfl, Below.refl _ _⟩
  · have HP : Hid (isIn n 1 16 = true) := Lib.hid (by rw [place_in]; exact hp)
    cases hl : isLim lo mo
    · have HL := Lib.hid hl
      have R := Lib.hid (manyB_no (n := n) (.inr hl))
      clear hp hl
      go_enter Try.func22, Try.ntmps22
      go_wp2_with fail
      refine (l6In_any _ _ _ _).mono ?_
      rintro e w1 ⟨rfl, rfl⟩
      rw [HP.out]
      go_wp2_with fail
      refine (limS_is HL.out _).mono ?_
      rintro e w1 ⟨rfl, rfl⟩
      go_wp2_with fail
      go_ret
      exact ⟨by rw [R.out]; rfl, Below.refl _ _⟩
    · have HL := Lib.hid hl
      obtain ⟨a, b, rfl, rfl, h1, h2, h3⟩ := lim_nat hl
      have hp' := isPlace_iff.1 hp
      obtain ⟨n, rfl⟩ : ∃ k : Nat, n = k := ⟨n.toNat, by omega⟩
      have R := Lib.hid (manyB_yes (n := n) (by omega) (by omega) h1 h2 h3)
      clear hp hl
      go_enter Try.func22, Try.ntmps22
      go_wp2_with fail
      refine (l6In_any _ _ _ _).mono ?_
      rintro e w1 ⟨rfl, rfl⟩
      rw [HP.out]
      go_wp2_with fail
      refine (limS_is HL.out _).mono ?_
      rintro e w1 ⟨rfl, rfl⟩
      go_wp2_with fail
      refine (specWays_any _ (by omega) (by omega) h1 h3).mono ?_
      rintro e w1 ⟨rfl, b1⟩
      go_wp2_with fail
      go_ret
      exact ⟨by rw [R.out]; rfl, b1⟩
theorem manyS_is {n lo mo x : Int} (h : manyB n lo mo = x) (w : World) : Calls Try.prog 22 #[.int .i64 n, .int .i64 lo, .int .i64 mo] w fun e w' => e = .returned (.int .i64 x) ∧ Below w.heap.size w w' := by
  have := specMany_any n lo mo w
  rwa [h] at this
/-- The two numbers that CutsYears gives back. -/
def yearsV (n lo mo : Int) : Value := .tuple #[.int .i64 ((yearsB n lo mo).getD (0, 0)).1, .int .i64 ((yearsB n lo mo).getD (0, 0)).2, .bool (yearsB n lo mo).isSome]
theorem yearsV_no {n lo mo : Int} (h : manyB n lo mo < 1) : yearsV n lo mo = .tuple #[.int .i64 0, .int .i64 0, .bool false] := by
  unfold yearsV yearsB; rw [if_pos h]; rfl
theorem yearsV_yes {n a b : Nat} (hb : 1 ≤ b) (h : 1 ≤ manyB n a b) : yearsV n a b = .tuple #[.int .i64 (((n + b - 1) / b : Nat) : Int), .int .i64 ((n / a : Nat) : Int), .bool true] := by
  unfold yearsV; rw [years_yes hb h]; rfl
end Go.Proofs.Ytihgfhddljicaaa
