/- The contracts of the model's functions on cuts: numbers of ways and of years. -/
import Derived.Test.YtihgfhddljicaabCutSpec
namespace Go.Proofs.Ytihgfhddljicaab
open Go.RowKit

/-- The numbers of ways for fewer than k places. -/
def waysL (a b k : Nat) : List Int := (List.range k).map fun i => ((ways a b i : Nat) : Int)
theorem waysL_length (a b k : Nat) : (waysL a b k).length = k := by simp [waysL]
theorem waysL_get {a b k i : Nat} (h : i < (waysL a b k).length) : (waysL a b k)[i] = ((ways a b i : Nat) : Int) := by simp [waysL]
theorem waysL_one (a b : Nat) : waysL a b 1 = [1] := rfl
theorem waysL_next (a b k : Nat) : waysL a b k ++ [((ways a b k : Nat) : Int)] = waysL a b (k + 1) := by simp [waysL, List.range_succ]
set_option maxHeartbeats 1600000 in
theorem specWays_any {n a b : Nat} (w : World) (hn : 1 ≤ n) (hn16 : n ≤ 16) (ha : 1 ≤ a) (hb : b ≤ 16) :
    Calls Try.prog 43 #[.int .i64 n, .int .i64 a, .int .i64 b] w fun e w' => e = .returned (.int .i64 ((ways a b n : Nat) : Int)) ∧ Below w.heap.size w w' := by
  have O0 : Hid (IOwn (w.alloc (.cells #[.int .i64 1] 3)) w.heap.size (.slice (some ⟨w.heap.size, 0, none⟩) 1 1) (waysL a b 1)) := Lib.hid (iown_one (Nat.le_refl _) 1)
  have B0 := Lib.hid ((Below.refl w.heap.size w).alloc (Nat.le_refl _) (.cells #[.int .i64 1] 3))
  go_enter Try.func43, Try.ntmps43
  go_wp2_with fail
  go_loopg [7, 8] n (fun k y x wr => ∃ j : Nat, x = .int .i64 j ∧ j + k = n + 1 ∧ 1 ≤ j ∧ IOwn wr w.heap.size y (waysL a b j) ∧ Below w.heap.size w wr)
  case atStart => exact ⟨1, rfl, by omega, by omega, O0.out, B0.out⟩
  case round =>
    obtain ⟨gj, rfl⟩ : ∃ g, g = gk := ⟨_, rfl⟩
    obtain ⟨j, rfl, hk, hj1, ho, hbl⟩ := hrel
    have K := Lib.hid hk; have O := Lib.hid ho; have B := Lib.hid hbl
    have hsz := hbl.size
    have hjn : j ≤ n + 1 := by omega
    clear hk ho hbl O0 B0
    by_cases hlt : j ≤ n
    · have i1 : (j : Int) ≤ (n : Int) := by omega
      obtain ⟨g, o, c, rfl, h1, h2⟩ := O.out.row.known (by rw [waysL_length]; omega)
      rw [waysL_length] at h1 O ⊢
      have R := Lib.hid O.out.row
      unfold maxLen at h2
      go_wp2_with fail
      go_loopg [9, 10] (dists a b j) (fun k x y wq => ∃ i : Nat, x = .int .i64 ((waysP a b j i : Nat) : Int) ∧ y = .int .i64 ((a : Int) + (i : Int)) ∧ i + k = dists a b j ∧ wr = wq)
      case atStart => exact ⟨0, rfl, by simp, by omega, rfl⟩
      case round =>
        obtain ⟨i, rfl, rfl, hk, rfl⟩ := hrel
        have K2 := Lib.hid hk
        have hid : i ≤ dists a b j := by omega
        clear hk
        by_cases hi : i < dists a b j
        · obtain ⟨n0, n1, n2⟩ := many_next hi
          have p1 := waysP_bound ha hb hj1 (show j ≤ 16 by omega) (show i + 1 ≤ dists a b j by omega)
          have d1 := R.out.cells (j - (a + i)) (by rw [waysL_length]; omega)
          rw [waysL_get] at d1
          obtain ⟨x, hx⟩ : ∃ x : Nat, ways a b (j - (a + i)) = x := ⟨_, rfl⟩
          rw [hx] at d1 n0
          obtain ⟨q, hq⟩ : ∃ q : Nat, j - (a + i) = q := ⟨_, rfl⟩
          rw [hq] at d1
          have c1 : (a : Int) + (i : Int) ≤ (b : Int) := by omega
          have c2 : (a : Int) + (i : Int) ≤ (j : Int) := by omega
          have e1 : IntKind.i64.wrap ((j : Int) - ((a : Int) + (i : Int))) = (q : Int) := by rw [show (j : Int) - ((a : Int) + (i : Int)) = (q : Int) by omega]; exact IntWalk.i64_in _ (by omega)
          have i2 : (0 : Int) ≤ (q : Int) := by omega
          have i3 : (q : Int) < (j : Int) := by omega
          have e2 : IntKind.i64.wrap (((waysP a b j i : Nat) : Int) + (x : Int)) = ((waysP a b j (i + 1) : Nat) : Int) := by rw [n0]; rw [Int.natCast_add]; exact IntWalk.i64_in _ (by omega)
          have e3 : IntKind.i64.wrap ((a : Int) + (i : Int) + 1) = (a : Int) + ((i + 1 : Nat) : Int) := by rw [show (a : Int) + (i : Int) + 1 = (a : Int) + ((i + 1 : Nat) : Int) by omega]; exact IntWalk.i64_in _ (by omega)
          clear n0 hx hq
          go_wp2_with fail
          go_roundg (gk - 1)
          case measure => have := K2.out; omega
          case rel => exact ⟨i + 1, by first | rfl | (rw [e2]), by first | rfl | (rw [e3]), by have := K2.out; omega, rfl⟩
        · have hid : i = dists a b j := by omega
          have W1 : Hid (waysP a b j i = ways a b j) := Lib.hid (by rw [hid]; exact many_all ha hj1)
          have stop : ¬ (a : Int) + (i : Int) ≤ (b : Int) ∨ ((a : Int) + (i : Int) ≤ (b : Int) ∧ ¬ (a : Int) + (i : Int) ≤ (j : Int)) := by unfold dists at hid; omega
          rw [W1.out]
          have n1 := new_one wr (.int .i64 ((ways a b j : Nat) : Int)) 3
          have N1 := Lib.hid n1
          have BW := Lib.hid ((Below.refl wr.heap.size wr).alloc (Nat.le_refl _) (.cells #[.int .i64 ((ways a b j : Nat) : Int)] 3))
          have e4 : IntKind.i64.wrap ((j : Int) + 1) = ((j + 1 : Nat) : Int) := by rw [show (j : Int) + 1 = ((j + 1 : Nat) : Int) by omega]; exact IntWalk.i64_in _ (by omega)
          clear n1 hid hi
          rcases stop with s1 | ⟨s1, s2⟩
          all_goals
            go_wp2_with (at_builtin; refine iappend_one intT rfl _ _ rfl (B := w.heap.size) _ _ rfl (O.out.grow BW.out) ⟨wr.heap.size, 0, none⟩ ((ways a b j : Nat) : Int) rfl N1.out (by rw [waysL_length]; omega) (by simp; omega) ?_; intro v8 w8 hown8 hg8)
            rw [waysL_next] at hown8
            have O8 := Lib.hid hown8
            have B8 := Lib.hid (B.out.trans ((BW.out.mono hsz).trans ((O.out.grow BW.out).below hg8 (by simp; omega))))
            clear hown8 hg8
            go_wp2_with fail
            go_roundg (gj - 1)
            case measure => have := K.out; omega
            case rel => exact ⟨j + 1, by first | rfl | (rw [e4]), by have := K.out; omega, by omega, O8.out, B8.out⟩
    · have hj : j = n + 1 := by omega
      subst hj
      have i1 : ¬ ((n + 1 : Nat) : Int) ≤ (n : Int) := by omega
      obtain ⟨g, o, c, rfl, h1, h2⟩ := O.out.row.known (by rw [waysL_length]; omega)
      rw [waysL_length] at h1 ⊢
      unfold maxLen at h2
      have d1 := O.out.row.cells n (by rw [waysL_length]; omega)
      rw [waysL_get] at d1
      have i2 : (0 : Int) ≤ (n : Int) := by omega
      have i3 : (n : Int) < ((n + 1 : Nat) : Int) := by omega
      go_wp2_with fail
      go_ret
      exact ⟨rfl, B.out⟩
theorem place_in (n : Int) : isIn n 1 16 = isPlace n := by rw [Bool.eq_iff_iff, isIn_iff, isPlace_iff]
set_option maxHeartbeats 800000 in
theorem specMany_any (n lo mo : Int) (w : World) :
    Calls Try.prog 22 #[.int .i64 n, .int .i64 lo, .int .i64 mo] w fun e w' => e = .returned (.int .i64 (manyB n lo mo)) ∧ Below w.heap.size w w' := by
  cases hp : isPlace n
  · have HP : Hid (isIn n 1 16 = false) := Lib.hid (by rw [place_in]; exact hp)
    have R := Lib.hid (manyB_no (lo := lo) (mo := mo) (.inl hp))
    clear hp
    go_enter Try.func22, Try.ntmps22
    go_wp2_with fail
    refine (l6In_any _ _ _ _).mono ?_
    rintro e w1 ⟨rfl, rfl⟩
    rw [HP.out]
    go_wp2_with fail
    go_ret
    exact ⟨by rw [R.out]; rfl, Below.refl _ _⟩
  · have HP : Hid (isIn n 1 16 = true) := Lib.hid (by rw [place_in]; exact hp)
    cases hl : isLim lo mo
    · have HL := Lib.hid hl
      have R := Lib.hid (manyB_no (n := n) (.inr hl))
      clear hp hl
      go_enter Try.func22, Try.ntmps22
      go_wp2_with fail
      refine (l6In_any _ _ _ _).mono ?_
      rintro e w1 ⟨rfl, rfl⟩
      rw [HP.out]
      go_wp2_with fail
      refine (limS_is HL.out _).mono ?_
      rintro e w1 ⟨rfl, rfl⟩
      go_wp2_with fail
      go_ret
      exact ⟨by rw [R.out]; rfl, Below.refl _ _⟩
    · have HL := Lib.hid hl
      obtain ⟨a, b, rfl, rfl, h1, h2, h3⟩ := lim_nat hl
      have hp' := isPlace_iff.1 hp
      obtain ⟨n, rfl⟩ : ∃ k : Nat, n = k := ⟨n.toNat, by omega⟩
      have R := Lib.hid (manyB_yes (n := n) (by omega) (by omega) h1 h2 h3)
      clear hp hl
      go_enter Try.func22, Try.ntmps22
      go_wp2_with fail
      refine (l6In_any _ _ _ _).mono ?_
      rintro e w1 ⟨rfl, rfl⟩
      rw [HP.out]
      go_wp2_with fail
      refine (limS_is HL.out _).mono ?_
      rintro e w1 ⟨rfl, rfl⟩
      go_wp2_with fail
      refine (specWays_any _ (by omega) (by omega) h1 h3).mono ?_
      rintro e w1 ⟨rfl, b1⟩
      go_wp2_with fail
      go_ret
      exact ⟨by rw [R.out]; rfl, b1⟩
theorem manyS_is {n lo mo x : Int} (h : manyB n lo mo = x) (w : World) : Calls Try.prog 22 #[.int .i64 n, .int .i64 lo, .int .i64 mo] w fun e w' => e = .returned (.int .i64 x) ∧ Below w.heap.size w w' := by
  have := specMany_any n lo mo w
  rwa [h] at this
/-- The two numbers that CutsYears gives back. -/
def yearsV (n lo mo : Int) : Value := .tuple #[.int .i64 ((yearsB n lo mo).getD (0, 0)).1, .int .i64 ((yearsB n lo mo).getD (0, 0)).2, .bool (yearsB n lo mo).isSome]
theorem yearsV_no {n lo mo : Int} (h : manyB n lo mo < 1) : yearsV n lo mo = .tuple #[.int .i64 0, .int .i64 0, .bool false] := by
  unfold yearsV yearsB; rw [if_pos h]; rfl
theorem yearsV_yes {n a b : Nat} (hb : 1 ≤ b) (h : 1 ≤ manyB n a b) : yearsV n a b = .tuple #[.int .i64 (((n + b - 1) / b : Nat) : Int), .int .i64 ((n / a : Nat) : Int), .bool true] := by
  unfold yearsV; rw [years_yes hb h]; rfl
/-- The least and the greatest of the first k - 1 numbers that fit, or 0. -/
def lowAt (s k : Nat) : Nat := if s < k then s else 0
def highAt (s t k : Nat) : Nat := if s < k then min (k - 1) t else 0
theorem low_yes {s k : Nat} (h : s < k) : lowAt s k = s := if_pos h
theorem low_no {s k : Nat} (h : ¬ s < k) : lowAt s k = 0 := if_neg h
theorem high_yes {s t k : Nat} (h : s < k) (h' : k ≤ t + 1) : highAt s t k = k - 1 := by unfold highAt; rw [if_pos h]; omega
theorem high_top {s t k : Nat} (h : s < k) (h' : t < k) : highAt s t k = t := by unfold highAt; rw [if_pos h]; omega
theorem high_no {s t k : Nat} (h : ¬ s < k) : highAt s t k = 0 := if_neg h
set_option maxHeartbeats 3200000 in
theorem specYears_any (n lo mo : Int) (w : World) :
    Calls Try.prog 19 #[.int .i64 n, .int .i64 lo, .int .i64 mo] w fun e w' => e = .returned (yearsV n lo mo) ∧ Below w.heap.size w w' := by
  obtain ⟨x, hx⟩ : ∃ x, manyB n lo mo = x := ⟨_, rfl⟩
  have HX := Lib.hid hx
  by_cases h : x < 1
  · have R := Lib.hid (yearsV_no (n := n) (lo := lo) (mo := mo) (by rw [hx]; exact h))
    clear hx
    go_enter Try.func19, Try.ntmps19
    go_wp2_with fail
    refine (manyS_is HX.out _).mono ?_
    rintro e w1 ⟨rfl, b1⟩
    go_wp2_with fail
    go_ret3
    exact ⟨by rw [R.out]; rfl, b1⟩
  · obtain ⟨n, a, b, rfl, rfl, rfl, n1, n2, m1, m2, m3⟩ := many_nat (n := n) (lo := lo) (mo := mo) (by omega)
    have hm : 1 ≤ manyB n a b := by omega
    obtain ⟨f1, f2, f3, f4, f5, f6, f7, f8⟩ := years_facts n1 n2 m1 m2 m3 hm
    have R := Lib.hid (yearsV_yes (by omega) hm)
    have NI : ∀ k : Nat, (k * a ≤ n ∧ n ≤ k * b) ↔ ((n + b - 1) / b ≤ k ∧ k ≤ n / a) := fun k => number_in m1 m2
    obtain ⟨s, hs⟩ : ∃ s, (n + b - 1) / b = s := ⟨_, rfl⟩
    obtain ⟨t, ht⟩ : ∃ t, n / a = t := ⟨_, rfl⟩
    rw [hs, ht] at R
    rw [hs] at f3 f7; rw [hs, ht] at f4; rw [ht] at f8
    simp only [hs, ht] at NI
    have NH := Lib.hid NI
    clear hx hs ht f1 f2 f5 f6 hm NI
    go_enter Try.func19, Try.ntmps19
    go_wp2_with fail
    refine (manyS_is HX.out _).mono ?_
    rintro e w1 ⟨rfl, b1⟩
    have B1 := Lib.hid b1
    clear b1
    go_wp2_with fail
    go_loopg [9, 10, 11] n (fun k x y z wr => ∃ j : Nat, x = .int .i64 ((lowAt s j : Nat) : Int) ∧ y = .int .i64 ((highAt s t j : Nat) : Int) ∧ z = .int .i64 j ∧ j + k = n + 1 ∧ 1 ≤ j ∧ w1 = wr)
    case atStart => exact ⟨1, by rw [low_no (by omega)]; rfl, by rw [high_no (by omega)]; rfl, rfl, by omega, by omega, rfl⟩
    case round =>
      obtain ⟨j, rfl, rfl, rfl, hk, hj1, rfl⟩ := hrel
      have K := Lib.hid hk
      have hjn : j ≤ n + 1 := by omega
      clear hk
      by_cases hlt : j ≤ n
      · have i1 : (j : Int) ≤ (n : Int) := by omega
        have q1 := Nat.mul_le_mul (show j ≤ 16 by omega) (show a ≤ 16 by omega)
        have q2 := Nat.mul_le_mul (show j ≤ 16 by omega) m3
        have nh := NH.out j
        have e1 : (j : Int) * (a : Int) = ((j * a : Nat) : Int) := (Int.natCast_mul _ _).symm
        have e2 : (j : Int) * (b : Int) = ((j * b : Nat) : Int) := (Int.natCast_mul _ _).symm
        obtain ⟨p, hp⟩ : ∃ p, j * a = p := ⟨_, rfl⟩
        obtain ⟨q, hq⟩ : ∃ p, j * b = p := ⟨_, rfl⟩
        rw [hp] at e1 q1 nh
        rw [hq] at e2 q2 nh
        have e3 : IntKind.i64.wrap ((j : Int) * (a : Int)) = (p : Int) := by rw [e1]; exact IntWalk.i64_in _ (by omega)
        have e4 : IntKind.i64.wrap ((j : Int) * (b : Int)) = (q : Int) := by rw [e2]; exact IntWalk.i64_in _ (by omega)
        have e5 : IntKind.i64.wrap ((j : Int) + 1) = ((j + 1 : Nat) : Int) := by rw [show (j : Int) + 1 = ((j + 1 : Nat) : Int) by omega]; exact IntWalk.i64_in _ (by omega)
        clear e1 e2 hp hq
        by_cases c1 : p ≤ n
        · have g1 : (p : Int) ≤ (n : Int) := by omega
          by_cases c2 : n ≤ q
          · have g2 : (n : Int) ≤ (q : Int) := by omega
            obtain ⟨u1, u2⟩ := nh.1 ⟨c1, c2⟩
            have HN := Lib.hid (high_yes (s := s) (t := t) (k := j + 1) (by omega) (by omega))
            have LN := Lib.hid (low_yes (s := s) (k := j + 1) (by omega))
            obtain ⟨hv, hh⟩ : ∃ x : Int, ((highAt s t j : Nat) : Int) = x := ⟨_, rfl⟩
            rw [hh]
            clear hh nh
            by_cases c3 : s = j
            · have l0 : lowAt s j = 0 := low_no (by omega)
              rw [l0]
              clear l0
              go_wp2_with fail
              go_roundg (gk - 1)
              case measure => have := K.out; omega
              case rel => exact ⟨j + 1, by rw [LN.out, c3], by rw [HN.out]; rfl, by first | rfl | (rw [e5]), by have := K.out; omega, by omega, rfl⟩
            · have l0 : lowAt s j = s := low_yes (by omega)
              rw [l0]
              have s0 : ((s : Int) == 0) = false := by simp; omega
              clear l0
              go_wp2_with fail
              go_roundg (gk - 1)
              case measure => have := K.out; omega
              case rel => exact ⟨j + 1, by rw [LN.out], by rw [HN.out]; rfl, by first | rfl | (rw [e5]), by have := K.out; omega, by omega, rfl⟩
          · have g2 : ¬ (n : Int) ≤ (q : Int) := by omega
            have nf : ¬ (s ≤ j ∧ j ≤ t) := fun h => c2 (nh.2 h).2
            have SM : Hid (lowAt s (j + 1) = lowAt s j ∧ highAt s t (j + 1) = highAt s t j) := Lib.hid (by
              by_cases z : s < j
              · rw [low_yes z, low_yes (show s < j + 1 by omega), high_top z (by omega), high_top (show s < j + 1 by omega) (by omega)]; exact ⟨rfl, rfl⟩
              · rw [low_no z, low_no (show ¬ s < j + 1 by omega), high_no z, high_no (show ¬ s < j + 1 by omega)]; exact ⟨rfl, rfl⟩)
            clear nh nf
            go_wp2_with fail
            go_roundg (gk - 1)
            case measure => have := K.out; omega
            case rel => exact ⟨j + 1, by rw [SM.out.1], by rw [SM.out.2], by first | rfl | (rw [e5]), by have := K.out; omega, by omega, rfl⟩
        · have g1 : ¬ (p : Int) ≤ (n : Int) := by omega
          have nf : ¬ (s ≤ j ∧ j ≤ t) := fun h => c1 (nh.2 h).1
          have SM : Hid (lowAt s (j + 1) = lowAt s j ∧ highAt s t (j + 1) = highAt s t j) := Lib.hid (by
            by_cases z : s < j
            · rw [low_yes z, low_yes (show s < j + 1 by omega), high_top z (by omega), high_top (show s < j + 1 by omega) (by omega)]; exact ⟨rfl, rfl⟩
            · rw [low_no z, low_no (show ¬ s < j + 1 by omega), high_no z, high_no (show ¬ s < j + 1 by omega)]; exact ⟨rfl, rfl⟩)
          clear nh nf
          go_wp2_with fail
          go_roundg (gk - 1)
          case measure => have := K.out; omega
          case rel => exact ⟨j + 1, by rw [SM.out.1], by rw [SM.out.2], by first | rfl | (rw [e5]), by have := K.out; omega, by omega, rfl⟩
      · have hj : j = n + 1 := by omega
        have i1 : ¬ (j : Int) ≤ (n : Int) := by omega
        have LN : lowAt s j = s := low_yes (by omega)
        have HN : highAt s t j = t := high_top (by omega) (by omega)
        rw [LN, HN]
        clear LN HN hj hlt
        go_wp2_with fail
        go_ret3
        exact ⟨by rw [R.out]; rfl, B1.out⟩
theorem yearsS_is {n lo mo : Int} {x : Value} (h : yearsV n lo mo = x) (w : World) : Calls Try.prog 19 #[.int .i64 n, .int .i64 lo, .int .i64 mo] w fun e w' => e = .returned x ∧ Below w.heap.size w w' := by
  have := specYears_any n lo mo w
  rwa [h] at this
end Go.Proofs.Ytihgfhddljicaab
