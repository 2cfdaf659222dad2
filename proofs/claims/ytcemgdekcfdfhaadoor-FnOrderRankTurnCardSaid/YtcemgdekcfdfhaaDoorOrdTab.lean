/- The table of the numbers of orders: an array of arrays in one block. -/
import Derived.Test.YtcemgdekcfdfhaaDoorInts
import Derived.Test.YtcemgdekcfdfhaaDoorRegion
import Derived.Test.YtcemgdekcfdfhaaDoorOrdSpec
import Derived.Test.YtcemgdekcfdfhaaDoorLate
namespace Go.Proofs.YtcemgdekcfdfhaaDoor
open Go.RowKit

/-- A table of 49 numbers, as far as it is filled: all rows before a, and of row a the numbers before b. -/
def tabN (a b k : Nat) : Int := if k < a * 7 + b then (ch (k / 7) (k % 7) : Int) else 0
def tabL (a b : Nat) : List Int := (List.range 49).map (tabN a b)
theorem tabL_length (a b : Nat) : (tabL a b).length = 49 := by simp [tabL]
theorem tabL_get (a b k : Nat) (h : k < (tabL a b).length) : (tabL a b)[k] = tabN a b k := by simp [tabL]
def cellsT (L : List Int) : Array Value := (cells1 L).toArray
/-- Block g is a table that holds the numbers of L. -/
def TB (w : World) (g : Nat) (L : List Int) : Prop := w.heap[g]? = some (.cells (cellsT L) 66 (0, 0))
theorem TB.lt {w : World} {g : Nat} {L : List Int} (h : TB w g L) : g < w.heap.size := (Array.getElem?_eq_some_iff.1 h).1
theorem TB.cell {w : World} {g : Nat} {L : List Int} (h : TB w g L) (i : Nat) (hi : i < L.length) : w.cell? ⟨g, i, none⟩ = some (.int .i64 L[i]) := by
  rw [cell_of_row w g i _ _ _ h]; simp [cellsT, cells1, hi]
theorem TB.froz {w : World} {g : Nat} {L : List Int} (h : TB w g L) (i : Nat) : w.frozen? ⟨g, i, none⟩ = false := by
  have h' : w.heap[g]? = some (.cells (cellsT L) 66 (0, 0)) := h
  simp [World.frozen?, h']
theorem TB.set {w : World} {g : Nat} {L : List Int} (h : TB w g L) (i : Nat) (x : Int) : TB (w.setCell ⟨g, i, none⟩ (.int .i64 x)) g (L.set i x) := by
  have e : cellsT (L.set i x) = (cellsT L).setIfInBounds i (.int .i64 x) := by simp [cellsT, cells1, List.map_set]
  unfold TB
  rw [e]
  exact heap_setCell_same w g i _ _ _ h
theorem TB.grow {w w' : World} {g : Nat} {L : List Int} (h : TB w g L) (k : Below w.heap.size w w') : TB w' g L := (k.block g h.lt).trans h
/-- The whole table. -/
def Tab (w : World) (g : Nat) : Prop := TB w g (tabL 7 0)
theorem Tab.grow {w w' : World} {g : Nat} (h : Tab w g) (k : Below w.heap.size w w') : Tab w' g := TB.grow h k
theorem Tab.cell {w : World} {g : Nat} (h : Tab w g) (a b : Nat) (ha : a < 7) (hb : b < 7) : w.cell? ⟨g, a * 7 + b, none⟩ = some (.int .i64 (ch a b : Nat)) := by
  have k := TB.cell h (a * 7 + b) (by rw [tabL_length]; omega)
  rw [tabL_get, tabN, if_pos (by omega), show (a * 7 + b) / 7 = a by omega, show (a * 7 + b) % 7 = b by omega] at k
  exact k
theorem tab_new (w : World) : TB (w.alloc (.cells (cellsT (tabL 0 0)) 66)) w.heap.size (tabL 0 0) := by
  show (w.heap.push _)[w.heap.size]? = _
  simp
theorem tabL_zero : tabL 0 0 = List.replicate 49 0 := by decide
theorem tab_step {a b : Nat} (_ha : a < 7) (hb : b < 7) : (tabL a b).set (a * 7 + b) (ch a b : Nat) = tabL a (b + 1) := by
  apply List.ext_getElem
  · rw [List.length_set, tabL_length, tabL_length]
  · intro k h1 h2
    rw [List.getElem_set, tabL_get, tabL_get]
    unfold tabN
    by_cases e : a * 7 + b = k
    · subst e
      rw [if_pos rfl, if_pos (by omega), show (a * 7 + b) / 7 = a by omega, show (a * 7 + b) % 7 = b by omega]
    · rw [if_neg e]
      by_cases c : k < a * 7 + b
      · rw [if_pos c, if_pos (by omega)]
      · rw [if_neg c, if_neg (by omega)]
theorem tab_row {a b : Nat} (h : b = 7) : tabL a b = tabL (a + 1) 0 := by
  subst h
  unfold tabL
  congr 1
  funext k
  unfold tabN
  rw [show a * 7 + 7 = (a + 1) * 7 + 0 by omega]
theorem tab_at {a b c d : Nat} (hb : d < 7) (h : c * 7 + d < a * 7 + b) (hl : c * 7 + d < (tabL a b).length) : (tabL a b)[c * 7 + d] = (ch c d : Nat) := by
  rw [tabL_get, tabN, if_pos h, show (c * 7 + d) / 7 = c by omega, show (c * 7 + d) % 7 = d by omega]
theorem tab_zero : cellsT (tabL 0 0) = #[.int .i64 0, .int .i64 0, .int .i64 0, .int .i64 0, .int .i64 0, .int .i64 0, .int .i64 0, .int .i64 0, .int .i64 0, .int .i64 0, .int .i64 0, .int .i64 0, .int .i64 0, .int .i64 0, .int .i64 0, .int .i64 0, .int .i64 0, .int .i64 0, .int .i64 0, .int .i64 0, .int .i64 0, .int .i64 0, .int .i64 0, .int .i64 0, .int .i64 0, .int .i64 0, .int .i64 0, .int .i64 0, .int .i64 0, .int .i64 0, .int .i64 0, .int .i64 0, .int .i64 0, .int .i64 0, .int .i64 0, .int .i64 0, .int .i64 0, .int .i64 0, .int .i64 0, .int .i64 0, .int .i64 0, .int .i64 0, .int .i64 0, .int .i64 0, .int .i64 0, .int .i64 0, .int .i64 0, .int .i64 0, .int .i64 0] := by rw [tabL_zero]; rfl
theorem tab_start (w : World) : TB (w.alloc (.cells #[.int .i64 0, .int .i64 0, .int .i64 0, .int .i64 0, .int .i64 0, .int .i64 0, .int .i64 0, .int .i64 0, .int .i64 0, .int .i64 0, .int .i64 0, .int .i64 0, .int .i64 0, .int .i64 0, .int .i64 0, .int .i64 0, .int .i64 0, .int .i64 0, .int .i64 0, .int .i64 0, .int .i64 0, .int .i64 0, .int .i64 0, .int .i64 0, .int .i64 0, .int .i64 0, .int .i64 0, .int .i64 0, .int .i64 0, .int .i64 0, .int .i64 0, .int .i64 0, .int .i64 0, .int .i64 0, .int .i64 0, .int .i64 0, .int .i64 0, .int .i64 0, .int .i64 0, .int .i64 0, .int .i64 0, .int .i64 0, .int .i64 0, .int .i64 0, .int .i64 0, .int .i64 0, .int .i64 0, .int .i64 0, .int .i64 0] 66)) w.heap.size (tabL 0 0) := by
  rw [← tab_zero]; exact tab_new w
theorem TB.put {w : World} {g : Nat} {L : List Int} {i : Nat} (h : TB w g L) (hi : i < L.length) (B : Nat) (hB : B ≤ g) : w.cell? ⟨g, i, none⟩ = some (.int .i64 L[i]) ∧ w.frozen? ⟨g, i, none⟩ = false ∧ ∀ x, TB (w.setCell ⟨g, i, none⟩ (.int .i64 x)) g (L.set i x) ∧ Below B w (w.setCell ⟨g, i, none⟩ (.int .i64 x)) :=
  ⟨h.cell i hi, h.froz i, fun x => ⟨h.set i x, by go_grown⟩⟩
set_option maxRecDepth 100000 in
set_option maxHeartbeats 3200000 in
theorem countOrders_any (w : World) : Calls Tryd.prog 24 #[] w fun e w' => ∃ g, e = .returned (.pointer (some ⟨g, 0, none⟩)) ∧ w.heap.size ≤ g ∧ Tab w' g ∧ Below w.heap.size w w' := by
  go_enter Tryd.func24, Tryd.ntmps24
  go_wp2_with fail
  go_loopg [6] 7 (fun k x wr => ∃ a : Nat, x = .int .i64 a ∧ a + k = 7 ∧ TB wr w.heap.size (tabL a 0) ∧ Below w.heap.size w wr)
  case atStart => exact ⟨0, rfl, rfl, tab_start w, by go_grown⟩
  case round =>
    obtain ⟨a, rfl, hk, ht, hb⟩ := hrel
    have K := Lib.hid hk; have T := Lib.hid ht; have B := Lib.hid hb
    have ha : a ≤ 7 := by omega
    clear hk ht hb
    obtain ⟨gj, rfl⟩ : ∃ g, g = gk := ⟨_, rfl⟩
    by_cases hlt : a < 7
    · have i0 : (a : Int) < 7 := by omega
      go_wp2_with fail
      go_loopg [9] 7 (fun k x wr => ∃ b : Nat, x = .int .i64 b ∧ b + k = 7 ∧ TB wr w.heap.size (tabL a b) ∧ Below w.heap.size w wr)
      case atStart => exact ⟨0, rfl, rfl, T.out, B.out⟩
      case round =>
        obtain ⟨b, rfl, hk, ht, hb⟩ := hrel
        have K2 := Lib.hid hk; have T2 := Lib.hid ht; have B2 := Lib.hid hb
        have hb7 : b ≤ 7 := by omega
        clear hk ht hb
        by_cases hlt2 : b < 7
        · have j0 : (b : Int) < 7 := by omega
          obtain ⟨c0, f0, p0⟩ := T2.out.put (i := a * 7 + b) (by rw [tabL_length]; omega) _ (Nat.le_refl _)
          obtain ⟨x0, hx0⟩ : ∃ x, (tabL a b)[a * 7 + b]'(by rw [tabL_length]; omega) = x := ⟨_, rfl⟩
          rw [hx0] at c0
          have P0 := Lib.hid (p0 1)
          have j9 : IntKind.i64.wrap ((b : Int) + 1) = (b : Int) + 1 := IntWalk.i64_in _ (by omega)
          have hgr := B2.out.size
          have hgl := T2.out.lt
          clear p0 hx0
          by_cases a0 : a = 0 ∨ b = 0
          · have HA0 := Lib.hid a0
            have C1 : Hid (ch a b = 1) := Lib.hid (by
              rcases a0 with h | h
              · subst h; rfl
              · subst h; exact ch_left a)
            have TT : Hid (TB (wr.setCell ⟨w.heap.size, a * 7 + b, none⟩ (.int .i64 1)) w.heap.size (tabL a (b + 1)) ∧ Below w.heap.size w (wr.setCell ⟨w.heap.size, a * 7 + b, none⟩ (.int .i64 1))) := Lib.hid (by
              refine ⟨?_, B2.out.trans P0.out.2⟩
              rw [← tab_step hlt hlt2, C1.out]; exact P0.out.1)
            clear a0
            by_cases a1 : 0 < a
            case neg =>
              have h0 : decide (0 < a) = false := decide_eq_false a1
              clear a1
              go_wp2_with fail
              go_roundg (gk - 1)
              case measure => have := K2.out; omega
              case rel => exact ⟨b + 1, by go_num, by have := K2.out; omega, TT.out.1, TT.out.2⟩
            case pos =>
              have h1 : decide (0 < b) = false := decide_eq_false (by rcases HA0.out with h | h <;> omega)
              go_wp2_with fail
              go_roundg (gk - 1)
              case measure => have := K2.out; omega
              case rel => exact ⟨b + 1, by go_num, by have := K2.out; omega, TT.out.1, TT.out.2⟩
          · have h0 : 0 < a := by omega
            have h1 : 0 < b := by omega
            clear a0
            obtain ⟨p, hp⟩ : ∃ p, a - 1 = p := ⟨_, rfl⟩
            obtain ⟨q, hq⟩ : ∃ q, b - 1 = q := ⟨_, rfl⟩
            have w1 : IntKind.i64.wrap ((a : Int) - 1) = (p : Int) := by rw [show (a : Int) - 1 = (p : Int) by omega]; exact IntWalk.i64_in _ (by omega)
            have w2 : IntKind.i64.wrap ((b : Int) - 1) = (q : Int) := by rw [show (b : Int) - 1 = (q : Int) by omega]; exact IntWalk.i64_in _ (by omega)
            have ST : Hid (ch a b = ch p b + ch a q) := Lib.hid (by
              obtain rfl : a = p + 1 := by omega
              obtain rfl : b = q + 1 := by omega
              exact ch_step p q)
            have m1 := ch_most p (by omega) b (by omega)
            have m2 := ch_most a (by omega) q (by omega)
            have lp : p * 7 + b < 49 := by omega
            have lq : a * 7 + q < 49 := by omega
            have d1 := P0.out.1.cell (p * 7 + b) (by rw [List.length_set, tabL_length]; exact lp)
            have d2 := P0.out.1.cell (a * 7 + q) (by rw [List.length_set, tabL_length]; exact lq)
            have d3 := P0.out.1.cell (a * 7 + b) (by rw [List.length_set, tabL_length]; omega)
            have d4 := P0.out.1.froz (a * 7 + b)
            rw [List.getElem_set_ne (by omega), tab_at (by omega) (by omega)] at d1
            rw [List.getElem_set_ne (by omega), tab_at (by omega) (by omega)] at d2
            rw [List.getElem_set_self] at d3
            obtain ⟨x, hx⟩ : ∃ x, ch p b = x := ⟨_, rfl⟩
            obtain ⟨y, hy⟩ : ∃ y, ch a q = y := ⟨_, rfl⟩
            rw [hx] at d1 m1
            rw [hy] at d2 m2
            have HX := Lib.hid hx; have HY := Lib.hid hy
            have w3 : IntKind.i64.wrap ((x : Int) + (y : Int)) = (x : Int) + (y : Int) := IntWalk.i64_in _ (by omega)
            have q0 : (p : Int) < 7 := by omega
            have q1 : (q : Int) < 7 := by omega
            clear hp hq hx hy
            have D1 := Lib.hid d1; have D2 := Lib.hid d2; have D3 := Lib.hid d3; have D4 := Lib.hid d4
            clear d1 d2 d3 d4
            go_wp2_with fail
            obtain ⟨w5, hw5⟩ : ∃ z, wr.setCell ⟨w.heap.size, a * 7 + b, none⟩ (.int .i64 1) = z := ⟨_, rfl⟩
            rw [hw5] at D1 D2 D3 D4 P0 ⊢
            clear hw5 c0 f0
            refine calm_region 23 (fun w' => (w'.cell? ⟨w.heap.size, p * 7 + b, none⟩ = some (.int .i64 (x : Int)) ∧ w'.cell? ⟨w.heap.size, a * 7 + q, none⟩ = some (.int .i64 (y : Int)) ∧ w'.cell? ⟨w.heap.size, a * 7 + b, none⟩ = some (.int .i64 1) ∧ w'.frozen? ⟨w.heap.size, a * 7 + b, none⟩ = false)) (by kernel_rfl) (by exact ⟨D1.out, D2.out, D3.out, D4.out⟩) (fun hHeld => ?_)
            refine take_l 0 24 rfl rfl (by kernel_rfl) (by kernel_rfl) (by kernel_rfl) (by kernel_rfl) (fun _ _ _ h => h) (by kernel_rfl) (by intro w hSw; (try dsimp only at hSw); go_simp; try with_reducible rfl) (by assumption) ?_
            refine take_l 1 25 rfl rfl (by kernel_rfl) (by kernel_rfl) (by kernel_rfl) (by kernel_rfl) (fun _ _ _ h => h) (by kernel_rfl) (by intro w hSw; (try dsimp only at hSw); go_simp; try with_reducible rfl) (by assumption) ?_
            refine take_l 2 26 rfl rfl (by kernel_rfl) (by kernel_rfl) (by kernel_rfl) (by kernel_rfl) (fun _ _ _ h => h) (by kernel_rfl) (by intro w hSw; (try dsimp only at hSw); go_simp; try with_reducible rfl) (by assumption) ?_
            refine take_l 3 27 rfl rfl (by kernel_rfl) (by kernel_rfl) (by kernel_rfl) (by kernel_rfl) (fun _ _ _ h => h) (by kernel_rfl) (by intro w hSw; (try dsimp only at hSw); go_simp; try with_reducible rfl) (by assumption) ?_
            refine take_l 4 28 rfl rfl (by kernel_rfl) (by kernel_rfl) (by kernel_rfl) (by kernel_rfl) (fun _ _ _ h => h) (by kernel_rfl) (by intro w hSw; (try dsimp only at hSw); go_simp; try with_reducible rfl) (by assumption) ?_
            refine take_l 5 29 rfl rfl (by kernel_rfl) (by kernel_rfl) (by kernel_rfl) (by kernel_rfl) (fun _ _ _ h => h) (by kernel_rfl) (by intro w hSw; (try dsimp only at hSw); go_simp; try with_reducible rfl) (by assumption) ?_
            refine take_l 6 30 rfl rfl (by kernel_rfl) (by kernel_rfl) (by kernel_rfl) (by kernel_rfl) (fun _ _ _ h => h) (by kernel_rfl) (by intro w hSw; (try dsimp only at hSw); go_simp; try with_reducible rfl) (by assumption) ?_
            refine take_l 7 31 rfl rfl (by kernel_rfl) (by kernel_rfl) (by kernel_rfl) (by kernel_rfl) (fun _ _ _ h => h) (by kernel_rfl) (by intro w hSw; (try dsimp only at hSw); go_simp; try with_reducible rfl) (by assumption) ?_
            refine take_l 8 32 rfl rfl (by kernel_rfl) (by kernel_rfl) (by kernel_rfl) (by kernel_rfl) (fun _ _ _ h => h) (by kernel_rfl) (by intro w hSw; (try dsimp only at hSw); go_simp; try with_reducible rfl) (by assumption) ?_
            refine take_l 9 33 rfl rfl (by kernel_rfl) (by kernel_rfl) (by kernel_rfl) (by kernel_rfl) (fun _ _ _ h => h) (by kernel_rfl) (by intro w hSw; (try dsimp only at hSw); go_simp; try with_reducible rfl) (by assumption) ?_
            refine take_l 10 34 rfl rfl (by kernel_rfl) (by kernel_rfl) (by kernel_rfl) (by kernel_rfl) (fun _ _ _ h => h) (by kernel_rfl) (by intro w hSw; (try dsimp only at hSw); go_simp; try with_reducible rfl) (by assumption) ?_
            refine take_l 11 35 rfl rfl (by kernel_rfl) (by kernel_rfl) (by kernel_rfl) (by kernel_rfl) (fun _ _ _ h => h) (by kernel_rfl) (by intro w hSw; (try dsimp only at hSw); go_simp; try with_reducible rfl) (by assumption) ?_
            refine take_l 12 36 rfl rfl (by kernel_rfl) (by kernel_rfl) (by kernel_rfl) (by kernel_rfl) (fun _ _ _ h => h) (by kernel_rfl) (by intro w hSw; (try dsimp only at hSw); go_simp; try with_reducible rfl) (by assumption) ?_
            refine take_l 13 37 rfl rfl (by kernel_rfl) (by kernel_rfl) (by kernel_rfl) (by kernel_rfl) (fun _ _ _ h => h) (by kernel_rfl) (by intro w hSw; (try dsimp only at hSw); go_simp; try with_reducible rfl) (by assumption) ?_
            refine take_l 14 38 rfl rfl (by kernel_rfl) (by kernel_rfl) (by kernel_rfl) (by kernel_rfl) (fun _ _ _ h => h) (by kernel_rfl) (by intro w hSw; (try dsimp only at hSw); go_simp; try with_reducible rfl) (by assumption) ?_
            refine take_l 15 39 rfl rfl (by kernel_rfl) (by kernel_rfl) (by kernel_rfl) (by kernel_rfl) (fun _ _ _ h => h) (by kernel_rfl) (by intro w hSw; (try dsimp only at hSw); go_simp; try with_reducible rfl) (by assumption) ?_
            refine take_l 16 40 rfl rfl (by kernel_rfl) (by kernel_rfl) (by kernel_rfl) (by kernel_rfl) (fun _ _ _ h => h) (by kernel_rfl) (by intro w hSw; (try dsimp only at hSw); go_simp; try with_reducible rfl) (by assumption) ?_
            refine take_l 17 41 rfl rfl (by kernel_rfl) (by kernel_rfl) (by kernel_rfl) (by kernel_rfl) (fun _ _ _ h => h) (by kernel_rfl) (by intro w hSw; (try dsimp only at hSw); go_simp; try with_reducible rfl) (by assumption) ?_
            refine take_l 18 42 rfl rfl (by kernel_rfl) (by kernel_rfl) (by kernel_rfl) (by kernel_rfl) (fun _ _ _ h => h) (by kernel_rfl) (by intro w hSw; (try dsimp only at hSw); go_simp; try with_reducible rfl) (by assumption) ?_
            refine take_l 19 43 rfl rfl (by kernel_rfl) (by kernel_rfl) (by kernel_rfl) (by kernel_rfl) (fun _ _ _ h => h) (by kernel_rfl) (by intro w hSw; (try dsimp only at hSw); go_simp; try with_reducible rfl) (by assumption) ?_
            refine step_l 20 (by kernel_rfl) rfl (fun K hK => ?_)
            go_simp
            refine hK.out _ _ hHeld (fun hHeld => ?_)
            clear hK K
            refine step_l 21 (by kernel_rfl) rfl (fun K hK => ?_)
            go_simp
            refine hK.out _ _ hHeld (fun hHeld => ?_)
            clear hK K
            refine step_l 22 (by kernel_rfl) rfl (fun K hK => ?_)
            go_simp
            refine hK.out _ _ hHeld (fun hHeld => ?_)
            clear hK K
            refine last_l (by kernel_rfl) rfl (by kernel_rfl) (fun K hK => ?_)
            go_simp
            refine hK.out _ _ ?_
            clear hK K
            try simp only [Exit.then]
            try simp only [Act.put, List.setIfInBounds_toArray, List.set_cons_succ, List.set_cons_zero]
            have TT : Hid (TB (w5.setCell ⟨w.heap.size, a * 7 + b, none⟩ (.int .i64 ((x : Int) + (y : Int)))) w.heap.size (tabL a (b + 1)) ∧ Below w.heap.size w (w5.setCell ⟨w.heap.size, a * 7 + b, none⟩ (.int .i64 ((x : Int) + (y : Int))))) := Lib.hid (by
              have z := P0.out.1.set (a * 7 + b) ((x : Int) + (y : Int))
              rw [List.set_set, show (x : Int) + (y : Int) = (ch a b : Nat) by rw [ST.out, HX.out, HY.out]; simp, tab_step hlt hlt2] at z
              rw [show (x : Int) + (y : Int) = (ch a b : Nat) by rw [ST.out, HX.out, HY.out]; simp]
              exact ⟨z, (B2.out.trans P0.out.2).setCell (Nat.le_refl _) _⟩)
            go_wp2_with fail
            go_roundg (gk - 1)
            case measure => have := K2.out; omega
            case rel => exact ⟨b + 1, by go_num, by have := K2.out; omega, TT.out.1, TT.out.2.drew⟩
        · have hb' : b = 7 := by omega
          have TT := Lib.hid (tab_row (a := a) hb')
          have j0 : decide ((b : Int) < 7) = false := decide_eq_false (by omega)
          have i9 : IntKind.i64.wrap ((a : Int) + 1) = (a : Int) + 1 := IntWalk.i64_in _ (by omega)
          have T3 : Hid (TB wr w.heap.size (tabL (a + 1) 0)) := Lib.hid (by rw [← TT.out]; exact T2.out)
          clear hb' hlt2
          go_wp2_with fail
          go_roundg (gj - 1)
          case measure => have := K.out; omega
          case rel => exact ⟨a + 1, by go_num, by have := K.out; omega, T3.out, B2.out⟩
    · have i0 : decide ((a : Int) < 7) = false := decide_eq_false (by omega)
      have TT : Hid (Tab wr w.heap.size) := Lib.hid (by obtain rfl : a = 7 := by omega
                                                        exact T.out)
      clear hlt
      go_wp2_with fail
      go_ret
      exact ⟨_, rfl, Nat.le_refl _, TT.out, B.out⟩
end Go.Proofs.YtcemgdekcfdfhaaDoor
