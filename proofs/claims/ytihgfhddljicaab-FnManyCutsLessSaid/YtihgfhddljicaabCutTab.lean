/- The program's table of a signal's tails, of integers: the numbers of ways. -/
import Derived.Test.YtihgfhddljicaabCutImpl
import Derived.Test.YtihgfhddljicaabCutSpec2
import Derived.Test.YtihgfhddljicaabBox
import Derived.Test.YtihgfhddljicaabTab
import Derived.Test.YtihgfhddljicaabLate
namespace Go.Proofs.Ytihgfhddljicaab
open Go.RowKit

/-- A table of integers, made anew. -/
theorem made_tab {w w1 : World} {B n : Nat} (hown : w1.ownsRow B 3 1 (.slice (some ⟨w.heap.size, 0, none⟩) n n) n (madeCells #[Value.int .i64 0] (n * 1)).toList) : IB 3 w1 w.heap.size (List.replicate n 0) ∧ B ≤ w.heap.size := by
  have e : cells1 (List.replicate n (0 : Int)) = (madeCells #[Value.int .i64 0] (n * 1)).toList := by
    rw [Nat.mul_one, toList_madeCells_one]; simp [cells1]
  refine own_block (n := n) ?_ (by simp)
  show w1.ownsRow _ _ 1 _ (List.replicate n (0 : Int)).length (cells1 (List.replicate n 0))
  rw [e, List.length_replicate]; exact hown
theorem addWays_any (x y z : Int) (w : World) (h : IntKind.i64.wrap (x + z) = x + z) : Calls Try.prog 41 #[.int .i64 x, .int .i64 y, .int .i64 z] w fun e w' => e = .returned (.int .i64 (x + z)) ∧ w = w' := by
  go_enter Try.func41, Try.ntmps41
  go_wp2_with fail
  go_ret
  exact ⟨rfl, rfl⟩
/-- What is in the table of the numbers of ways. -/
def waysF (a b n : Nat) (i : Nat) : Int := ((ways a b (n - i) : Nat) : Int)
set_option maxRecDepth 100000 in
set_option maxHeartbeats 3200000 in
theorem tailsInt_any {n a b : Nat} (w : World) (s1 : 1 ≤ n) (s2 : n ≤ 16) (h1 : 1 ≤ a) (h2 : a ≤ b) (h3 : b ≤ 16) :
    Calls Try.prog 40 #[.int .i64 n, .agg #[.int .i64 a, .int .i64 b], .int .i64 1, .func (.func 41) #[] #[]] w fun e w' =>
      ∃ g, e = .returned (.slice (some ⟨g, 0, none⟩) (n + 1) (n + 1)) ∧ w'.cell? ⟨g, 0, none⟩ = some (.int .i64 ((ways a b n : Nat) : Int)) ∧ Below w.heap.size w w' := by
  obtain ⟨i0, hi0, hz0, hz1, hz2⟩ := info_parts intInfo
  have e1 : IntKind.i64.wrap ((n : Int) + 1) = ((n + 1 : Nat) : Int) := by rw [show (n : Int) + 1 = ((n + 1 : Nat) : Int) by omega]; exact IntWalk.i64_in _ (by omega)
  have e2 : IntKind.i64.wrap ((n : Int) - 1) = (n : Int) - 1 := IntWalk.i64_in _ (by omega)
  have B0 : Hid (Below w.heap.size w (w.alloc (.cells #[.int .i64 a, .int .i64 b] 47))) := Lib.hid ((Below.refl _ _).alloc (Nat.le_refl _) _)
  have c0 : (w.alloc (.cells #[.int .i64 a, .int .i64 b] 47)).cell? ⟨w.heap.size, 0, none⟩ = some (.int .i64 a) := by go_cell
  have c1 : (w.alloc (.cells #[.int .i64 a, .int .i64 b] 47)).cell? ⟨w.heap.size, 1, none⟩ = some (.int .i64 b) := by go_cell
  have hs0 : (w.alloc (.cells #[.int .i64 a, .int .i64 b] 47)).heap.size = w.heap.size + 1 := by simp
  have C0 := Lib.hid c0; have C1 := Lib.hid c1; have HS0 := Lib.hid hs0
  clear c0 c1 hs0
  have i1 : (0 : Int) ≤ (n : Int) := by omega
  have i2 : (n : Int) < ((n + 1 : Nat) : Int) := by omega
  go_enter Try.func40, Try.ntmps40
  go_upto_region 2 with (refine wpList_make_full _ rfl _ _ 60 rfl w.heap.size 3 i0 _ 1 Try.underlying60 hi0 hz0 hz1 .i64 .i64 _ _ (n + 1) rfl rfl rfl rfl (by rw [hz2]; omega) (by unfold maxLen; omega) (by rw [HS0.out]; omega) ?_; intro w1 hown hg)
  have it := (made_tab hown).1
  rw [HS0.out] at it
  have BB1 : Hid (Below w.heap.size w w1) := Lib.hid (B0.out.grown hg (by rw [HS0.out]; omega) (fun k hk => by simp at hk))
  have B1 : Below (w.heap.size + 1) (w.alloc (.cells #[.int .i64 a, .int .i64 b] 47)) w1 := (Below.refl _ _).grown hg (Nat.le_of_eq HS0.out.symm) (fun k hk => by simp at hk)
  have d0 := (B1.cell (p := ⟨w.heap.size, 0, none⟩) (Nat.lt_succ_self _)).trans C0.out
  have d1 := (B1.cell (p := ⟨w.heap.size, 1, none⟩) (Nat.lt_succ_self _)).trans C1.out
  have I1 := Lib.hid it
  have t0 := it.cell n (by simp)
  have f0 := it.froz n
  have I2 := Lib.hid (it.set n 1)
  have B2 := Lib.hid ((Below.refl (w.heap.size + 1) w1).setCell (p := ⟨w.heap.size + 1, n, none⟩) (Nat.le_refl _) (.int .i64 1))
  have F : Hid (Tab 0 (waysF a b n) n n ((List.replicate (n + 1) 0).set n 1)) := Lib.hid (((tab_new 0 (waysF a b n) n).put 1).shut (by unfold waysF; rw [Nat.sub_self]; rfl))
  have D0 := Lib.hid d0; have D1 := Lib.hid d1
  clear hown hg it B1 d0 d1 hi0 hz0 hz1 hz2 I1 C0 C1 HS0
  clear i0
  go_wp2_with fail
  go_loopg [10] n (fun k x wr => ∃ L, x = .int .i64 ((k : Int) - 1) ∧ k ≤ n ∧ Tab 0 (waysF a b n) n k L ∧ IB 3 wr (w.heap.size + 1) L ∧ Below (w.heap.size + 1) w1 wr)
  case atStart => exact ⟨_, rfl, Nat.le_refl _, F.out, I2.out, B2.out⟩
  case round =>
    obtain ⟨gj, rfl⟩ : ∃ g, g = gk := ⟨_, rfl⟩
    obtain ⟨wo, rfl⟩ : ∃ x, x = wr := ⟨wr, rfl⟩
    obtain ⟨L, rfl, hk, ht, hi, hb⟩ := hrel
    have T := Lib.hid ht; have I := Lib.hid hi; have B := Lib.hid hb
    clear ht hi hb F I2 B2 e1 e2 t0 f0
    by_cases hz : gj = 0
    · subst hz
      have ee : ((0 : Nat) : Int) - 1 = -1 := by omega
      rw [ee]
      clear ee
      have cz := I.out.cell 0 (by rw [T.out.len]; omega)
      rw [T.out.done 0 (by rw [T.out.len]; omega) (Nat.zero_le 0)] at cz
      have CZ : Hid (wo.cell? ⟨w.heap.size + 1, 0, none⟩ = some (.int .i64 ((ways a b n : Nat) : Int))) := Lib.hid cz
      clear cz
      go_wp2_with fail
      go_ret
      exact ⟨_, rfl, CZ.out, BB1.out.trans (B.out.mono (Nat.le_succ _))⟩
    · obtain ⟨q, rfl⟩ : ∃ q, gj = q + 1 := ⟨gj - 1, by omega⟩
      have ee : ((q + 1 : Nat) : Int) - 1 = (q : Int) := by omega
      rw [ee]
      clear ee hz
      have d0 := (B.out.cell (p := ⟨w.heap.size, 0, none⟩) (Nat.lt_succ_self _)).trans D0.out
      have i3 : (0 : Int) ≤ (q : Int) := by omega
      have i4 : (q : Int) < ((n + 1 : Nat) : Int) := by omega
      have u0 : IntKind.i64.wrap ((q : Int) + (a : Int)) = (q : Int) + ((a : Int) + ((0 : Nat) : Int)) := by rw [show (q : Int) + ((a : Int) + ((0 : Nat) : Int)) = (q : Int) + (a : Int) by omega]; exact IntWalk.i64_in _ (by omega)
      go_wp2_with fail
      go_loopg [11] (dists a b (n - q)) (fun k y wr => ∃ (i : Nat) (M : List Int), y = .int .i64 ((q : Int) + ((a : Int) + (i : Int))) ∧ i + k = dists a b (n - q) ∧ Tab1 0 (waysF a b n) n q ((waysP a b (n - q) i : Nat) : Int) M ∧ IB 3 wr (w.heap.size + 1) M ∧ Below (w.heap.size + 1) w1 wr)
      case atStart => exact ⟨0, _, by first | rfl | (rw [u0]), by omega, T.out.open, I.out, B.out⟩
      case round =>
        obtain ⟨i, M, rfl, hk2, ht, hi, hb⟩ := hrel
        have K2 := Lib.hid hk2; have T3 := Lib.hid ht; have I3 := Lib.hid hi; have B3 := Lib.hid hb
        have hid : i ≤ dists a b (n - q) := by omega
        clear hk2 ht hi hb d0 u0
        have d1 := (B3.out.cell (p := ⟨w.heap.size, 1, none⟩) (Nat.lt_succ_self _)).trans D1.out
        have v1 : IntKind.i64.wrap ((q : Int) + (b : Int)) = (q : Int) + (b : Int) := IntWalk.i64_in _ (by omega)
        obtain ⟨mx, hmx⟩ : ∃ m : Nat, min (q + b) n = m := ⟨_, rfl⟩
        have v2 : (if (n : Int) < (q : Int) + (b : Int) then (n : Int) else (q : Int) + (b : Int)) = (mx : Int) := by split <;> omega
        have v3 : (if (q : Int) + (b : Int) ≤ (n : Int) then (q : Int) + (b : Int) else (n : Int)) = (mx : Int) := by split <;> omega
        by_cases hi : i < dists a b (n - q)
        · obtain ⟨n1, n2⟩ := dist_in h1 hi
          obtain ⟨r, hr⟩ : ∃ r : Nat, q + (a + i) = r + 1 := ⟨q + (a + i) - 1, by omega⟩
          have lenM := T3.out.len
          have x1 := I3.out.cell (r + 1) (by omega)
          rw [T3.out.done (r + 1) (by omega) (by omega)] at x1
          have x2 := I3.out.cell q (by omega)
          rw [T3.out.here] at x2
          have f3 := I3.out.froz q
          have G := waysP_next a b (n - q) i
          rw [show n - q - (a + i) = n - (r + 1) by omega] at G
          have pb := waysP_bound h1 h3 (show 1 ≤ n - q by omega) (show n - q ≤ 16 by omega) (show i + 1 ≤ dists a b (n - q) by omega)
          obtain ⟨x, hx⟩ : ∃ x : Nat, ways a b (n - (r + 1)) = x := ⟨_, rfl⟩
          have hx' : waysF a b n (r + 1) = (x : Int) := by unfold waysF; rw [hx]
          rw [hx'] at x1
          rw [hx] at G
          obtain ⟨y, hy⟩ : ∃ y : Nat, waysP a b (n - q) i = y := ⟨_, rfl⟩
          rw [hy] at x2 G
          have ee : (q : Int) + ((a : Int) + (i : Int)) = ((r + 1 : Nat) : Int) := by omega
          rw [ee]
          have c2 : ((r + 1 : Nat) : Int) ≤ (mx : Int) := by omega
          have j3 : (0 : Int) ≤ ((r + 1 : Nat) : Int) := by omega
          have j4 : ((r + 1 : Nat) : Int) < ((n + 1 : Nat) : Int) := by omega
          have i4' : (q : Int) < (n : Int) + 1 := by omega
          have j3' : (0 : Int) ≤ (r : Int) + 1 := by omega
          have j4' : (r : Int) + 1 < (n : Int) + 1 := by omega
          have j5' : ((r : Int) + 1).toNat = r + 1 := by omega
          have u2' : IntKind.i64.wrap ((r : Int) + 1 - 1) = (r : Int) := by rw [show (r : Int) + 1 - 1 = (r : Int) by omega]; exact IntWalk.i64_in _ (by omega)
          have u2 : IntKind.i64.wrap (((r + 1 : Nat) : Int) - 1) = (r : Int) := by rw [show ((r + 1 : Nat) : Int) - 1 = (r : Int) by omega]; exact IntWalk.i64_in _ (by omega)
          have u3 : IntKind.i64.wrap (((r + 1 : Nat) : Int) + 1) = (q : Int) + ((a : Int) + ((i + 1 : Nat) : Int)) := by rw [show ((r + 1 : Nat) : Int) + 1 = (q : Int) + ((a : Int) + ((i + 1 : Nat) : Int)) by omega]; exact IntWalk.i64_in _ (by omega)
          have u4 : IntKind.i64.wrap ((y : Int) + (x : Int)) = (y : Int) + (x : Int) := IntWalk.i64_in _ (by omega)
          have T4 : Hid (Tab1 0 (waysF a b n) n q ((waysP a b (n - q) (i + 1) : Nat) : Int) (M.set q ((y : Int) + (x : Int)))) := Lib.hid (by rw [G, Int.natCast_add]; exact T3.out.put _)
          have HRR := Lib.hid hr
          clear G hx hx' hy hr n1 n2 ee hmx lenM
          go_wp2_with fail
          refine calm_region 15 (fun w' => w'.cell? ⟨w.heap.size + 1, q, none⟩ = some (.int .i64 y) ∧ w'.cell? ⟨w.heap.size + 1, r + 1, none⟩ = some (.int .i64 x) ∧ w'.frozen? ⟨w.heap.size + 1, q, none⟩ = false) (by kernel_rfl) (by exact ⟨x2, x1, f3⟩) (fun hHeld => ?_)
          refine take_l 0 39 rfl rfl (by kernel_rfl) (by kernel_rfl) (by kernel_rfl) (by kernel_rfl) (fun _ _ _ h => h) (by kernel_rfl) (by intro w hSw; (try dsimp only at hSw); go_simp; try with_reducible rfl) (by assumption) ?_
          refine take_l 1 40 rfl rfl (by kernel_rfl) (by kernel_rfl) (by kernel_rfl) (by kernel_rfl) (fun _ _ _ h => h) (by kernel_rfl) (by intro w hSw; (try dsimp only at hSw); go_simp; try with_reducible rfl) (by assumption) ?_
          refine take_l 2 41 rfl rfl (by kernel_rfl) (by kernel_rfl) (by kernel_rfl) (by kernel_rfl) (fun _ _ _ h => h) (by kernel_rfl) (by intro w hSw; (try dsimp only at hSw); go_simp; try with_reducible rfl) (by assumption) ?_
          refine take_l 3 42 rfl rfl (by kernel_rfl) (by kernel_rfl) (by kernel_rfl) (by kernel_rfl) (fun _ _ _ h => h) (by kernel_rfl) (by intro w hSw; (try dsimp only at hSw); go_simp; try with_reducible rfl) (by assumption) ?_
          refine take_l 4 43 rfl rfl (by kernel_rfl) (by kernel_rfl) (by kernel_rfl) (by kernel_rfl) (fun _ _ _ h => h) (by kernel_rfl) (by intro w hSw; (try dsimp only at hSw); go_simp; try with_reducible rfl) (by assumption) ?_
          refine take_l 5 44 rfl rfl (by kernel_rfl) (by kernel_rfl) (by kernel_rfl) (by kernel_rfl) (fun _ _ _ h => h) (by kernel_rfl) (by intro w hSw; (try dsimp only at hSw); go_simp; try with_reducible rfl) (by assumption) ?_
          refine take_l 6 45 rfl rfl (by kernel_rfl) (by kernel_rfl) (by kernel_rfl) (by kernel_rfl) (fun _ _ _ h => h) (by kernel_rfl) (by intro w hSw; (try dsimp only at hSw); go_simp; try with_reducible rfl) (by assumption) ?_
          refine take_l 7 46 rfl rfl (by kernel_rfl) (by kernel_rfl) (by kernel_rfl) (by kernel_rfl) (fun _ _ _ h => h) (by kernel_rfl) (by intro w hSw; (try dsimp only at hSw); go_simp; try with_reducible rfl) (by assumption) ?_
          refine take_l 8 47 rfl rfl (by kernel_rfl) (by kernel_rfl) (by kernel_rfl) (by kernel_rfl) (fun _ _ _ h => h) (by kernel_rfl) (by intro w hSw; (try dsimp only at hSw); go_simp; try with_reducible rfl) (by assumption) ?_
          refine take_l 9 48 rfl rfl (by kernel_rfl) (by kernel_rfl) (by kernel_rfl) (by kernel_rfl) (fun _ _ _ h => h) (by kernel_rfl) (by intro w hSw; (try dsimp only at hSw); go_simp; try with_reducible rfl) (by assumption) ?_
          refine take_l 10 49 rfl rfl (by kernel_rfl) (by kernel_rfl) (by kernel_rfl) (by kernel_rfl) (fun _ _ _ h => h) (by kernel_rfl) (by intro w hSw; (try dsimp only at hSw); go_simp; try with_reducible rfl) (by assumption) ?_
          refine take_l 11 50 rfl rfl (by kernel_rfl) (by kernel_rfl) (by kernel_rfl) (by kernel_rfl) (fun _ _ _ h => h) (by kernel_rfl) (by intro w hSw; (try dsimp only at hSw); go_simp; try with_reducible rfl) (by assumption) ?_
          refine take_l 12 51 rfl rfl (by kernel_rfl) (by kernel_rfl) (by kernel_rfl) (by kernel_rfl) (fun _ _ _ h => h) (by kernel_rfl) (by intro w hSw; (try dsimp only at hSw); go_simp; try with_reducible rfl) (by assumption) ?_
          refine step_l 13 (by kernel_rfl) rfl (fun K hK => ?_)
          go_simp
          go_wp2_with (go_at_call 41; refine (addWays_any _ _ _ _ u4).mono ?_; rintro e w5 ⟨rfl, rfl⟩)
          refine hK.out _ _ (by (try dsimp only); exact hHeld) (fun hHeld => ?_)
          clear hK K
          refine take_l 14 53 rfl rfl (by kernel_rfl) (by kernel_rfl) (by kernel_rfl) (by kernel_rfl) (fun _ _ _ h => h) (by kernel_rfl) (by intro w hSw; (try dsimp only at hSw); go_simp; try with_reducible rfl) (by assumption) ?_
          refine last_l (by kernel_rfl) rfl (by kernel_rfl) (fun K hK => ?_)
          go_simp
          refine hK.out _ _ ?_
          clear hK K
          try simp only [Exit.then]
          try simp only [Act.put, List.setIfInBounds_toArray, List.set_cons_succ, List.set_cons_zero]
          go_wp2_with fail
          go_roundg (gk - 1)
          case measure => have := K2.out; omega
          case rel => exact ⟨i + 1, _, by first | (rw [u3]; done) | (have := HRR.out; congr 1; omega), by have := K2.out; omega, T4.out, I3.out.drew.set q _, (B3.out.drew).setCell (p := ⟨w.heap.size + 1, q, none⟩) (Nat.le_refl _) _⟩
        · have hii : i = dists a b (n - q) := by omega
          have T4 := Lib.hid (T3.out.shut (show _ = waysF a b n q by unfold waysF; rw [hii, many_all h1 (by omega)]))
          have u3 : IntKind.i64.wrap ((q : Int) - 1) = (q : Int) - 1 := IntWalk.i64_in _ (by omega)
          have c2 : ¬ (q : Int) + ((a : Int) + (i : Int)) ≤ (mx : Int) := by unfold dists at hii; omega
          clear hii hi hmx
          go_wp2_with fail
          go_roundg q
          case measure => omega
          case rel => exact ⟨M, by first | rfl | (rw [u3]), by omega, T4.out, I3.out, B3.out⟩
theorem dist_below {w : World} (lo mo : Int) : Below w.heap.size w (w.alloc (.cells #[.int .i64 lo, .int .i64 mo] 47)) := (Below.refl _ _).alloc (Nat.le_refl _) _
set_option maxHeartbeats 800000 in
theorem implMany_any (n lo mo : Int) (w : World) :
    Calls Try.prog 21 #[.int .i64 n, .int .i64 lo, .int .i64 mo] w fun e w' => e = .returned (.int .i64 (manyB n lo mo)) ∧ Below w.heap.size w w' := by
  have B0 := Lib.hid (dist_below (w := w) lo mo)
  have hsz0 : w.heap.size ≤ (w.alloc (.cells #[.int .i64 lo, .int .i64 mo] 47)).heap.size := B0.out.size
  cases hp : isPlace n
  · have HP := Lib.hid hp
    have R := Lib.hid (manyB_no (lo := lo) (mo := mo) (.inl hp))
    clear hp
    go_enter Try.func21, Try.ntmps21
    go_wp2_with fail
    refine (placeI_is HP.out _).mono ?_
    rintro e w1 ⟨rfl, rfl⟩
    go_wp2_with fail
    go_ret
    exact ⟨by rw [R.out]; rfl, B0.out⟩
  · have HP := Lib.hid hp
    cases hl : isLim lo mo
    · have HL := Lib.hid hl
      have R := Lib.hid (manyB_no (n := n) (.inr hl))
      clear hp hl
      go_enter Try.func21, Try.ntmps21
      go_wp2_with fail
      refine (placeI_is HP.out _).mono ?_
      rintro e w1 ⟨rfl, rfl⟩
      go_wp2_with fail
      refine (limI_is HL.out _).mono ?_
      rintro e w2 ⟨rfl, b2⟩
      have B2 := Lib.hid (B0.out.trans (b2.mono hsz0))
      clear b2
      go_wp2_with fail
      go_ret
      exact ⟨by rw [R.out]; rfl, B2.out⟩
    · have HL := Lib.hid hl
      obtain ⟨a, b, rfl, rfl, h1, h2, h3⟩ := lim_nat hl
      have hp' := isPlace_iff.1 hp
      obtain ⟨n, rfl⟩ : ∃ k : Nat, n = k := ⟨n.toNat, by omega⟩
      have R := Lib.hid (manyB_yes (n := n) (by omega) (by omega) h1 h2 h3)
      clear hp hl
      go_enter Try.func21, Try.ntmps21
      go_wp2_with fail
      refine (placeI_is HP.out _).mono ?_
      rintro e w1 ⟨rfl, rfl⟩
      go_wp2_with fail
      refine (limI_is HL.out _).mono ?_
      rintro e w2 ⟨rfl, b2⟩
      have B2 := Lib.hid (B0.out.trans (b2.mono hsz0))
      obtain ⟨x0, x1⟩ := held2 b2 (a := ⟨w.heap.size, 0, none⟩) (b := ⟨w.heap.size, 1, none⟩) (u := .int .i64 a) (v := .int .i64 b) (by go_cell) (by go_cell)
      clear b2
      have i1 : (0 : Int) < ((n + 1 : Nat) : Int) := by omega
      go_wp2_with fail
      refine (tailsInt_any _ (by omega) (by omega) h1 h2 h3).mono ?_
      rintro e w3 ⟨g, rfl, c3, b3⟩
      have B3 := Lib.hid (B2.out.trans (b3.mono B2.out.size))
      clear b3
      go_wp2_with fail
      go_ret
      exact ⟨by rw [R.out]; rfl, B3.out⟩
theorem manyI_is {n lo mo x : Int} (h : manyB n lo mo = x) (w : World) : Calls Try.prog 21 #[.int .i64 n, .int .i64 lo, .int .i64 mo] w fun e w' => e = .returned (.int .i64 x) ∧ Below w.heap.size w w' := by
  have := implMany_any n lo mo w
  rwa [h] at this
set_option maxHeartbeats 800000 in
theorem implYears_any (n lo mo : Int) (w : World) :
    Calls Try.prog 18 #[.int .i64 n, .int .i64 lo, .int .i64 mo] w fun e w' => e = .returned (yearsV n lo mo) ∧ Below w.heap.size w w' := by
  obtain ⟨x, hx⟩ : ∃ x, manyB n lo mo = x := ⟨_, rfl⟩
  have HX := Lib.hid hx
  by_cases h : x < 1
  · have R := Lib.hid (yearsV_no (n := n) (lo := lo) (mo := mo) (by rw [hx]; exact h))
    clear hx
    go_enter Try.func18, Try.ntmps18
    go_wp2_with fail
    refine (manyI_is HX.out _).mono ?_
    rintro e w1 ⟨rfl, b1⟩
    go_wp2_with fail
    go_ret3
    exact ⟨by rw [R.out]; rfl, b1⟩
  · obtain ⟨n, a, b, rfl, rfl, rfl, n1, n2, m1, m2, m3⟩ := many_nat (n := n) (lo := lo) (mo := mo) (by omega)
    have hm : 1 ≤ manyB n a b := by omega
    have R := Lib.hid (yearsV_yes (by omega) hm)
    have z1 : IntKind.i64.wrap ((n : Int) + (b : Int)) = (n : Int) + (b : Int) := IntWalk.i64_in _ (by omega)
    have z2 : IntKind.i64.wrap ((n : Int) + (b : Int) - 1) = ((n + b - 1 : Nat) : Int) := by rw [show (n : Int) + (b : Int) - 1 = ((n + b - 1 : Nat) : Int) by omega]; exact IntWalk.i64_in _ (by omega)
    have y1 := Nat.div_le_self (n + b - 1) b
    have y2 := Nat.div_le_self n a
    have sm : ∀ m : Nat, m ≤ 32 → wrap64 (m : Int) = m := fun m h => IntWalk.wrap64_in _ (by omega)
    have q1 : wrap64 (((n + b - 1 : Nat) : Int) / (b : Int)) = (((n + b - 1) / b : Nat) : Int) := by rw [← Int.natCast_ediv]; exact sm _ (by omega)
    have q2 : wrap64 ((n : Int) / (a : Int)) = ((n / a : Nat) : Int) := by rw [← Int.natCast_ediv]; exact sm _ (by omega)
    have Q1 := Lib.hid q1; have Q2 := Lib.hid q2
    clear y1 y2 q1 q2 sm
    have hz1 : ((b : Int) == 0) = false := by simp; omega
    have hz2 : ((a : Int) == 0) = false := by simp; omega
    clear hx hm
    go_enter Try.func18, Try.ntmps18
    go_wp2_with fail
    refine (manyI_is HX.out _).mono ?_
    rintro e w1 ⟨rfl, b1⟩
    have B1 := Lib.hid b1
    clear b1
    go_wp2_with fail
    go_quiet (fail)
    go_wp2_with fail
    go_ret3
    refine ⟨?_, below_drews B1.out _⟩
    rw [R.out, ← Q1.out, ← Q2.out]
    rfl
theorem yearsI_is {n lo mo : Int} {x : Value} (h : yearsV n lo mo = x) (w : World) : Calls Try.prog 18 #[.int .i64 n, .int .i64 lo, .int .i64 mo] w fun e w' => e = .returned x ∧ Below w.heap.size w w' := by
  have := implYears_any n lo mo w
  rwa [h] at this
end Go.Proofs.Ytihgfhddljicaab
