/- The draws of the laws on pieces. -/
import Derived.Test.YtdljfikgmhdedaaCoreDraw
import Derived.Test.YtdljfikgmhdedaaSpecCut
namespace Go.Proofs.Ytdljfikgmhdedaa
open Go.RowKit

/-- A drawn list; .. and a number; .. and two numbers. -/
def Dr1 (w : World) (e : Ending) (w' : World) : Prop := ∃ v l, e = .returned v ∧ Own w' w.heap.size v l ∧ Bd 200000 30 l ∧ Below w.heap.size w w'
def Dr2 (w : World) (e : Ending) (w' : World) : Prop := ∃ v l d, e = .returned (.tuple #[v, .int .i64 d]) ∧ Own w' w.heap.size v l ∧ Bd 200000 30 l ∧ (-400000 ≤ d ∧ d ≤ 400000) ∧ Below w.heap.size w w'
def Dr3 (w : World) (e : Ending) (w' : World) : Prop :=
  ∃ v l t u, e = .returned (.tuple #[v, .int .i64 t, .int .i64 u]) ∧ Own w' w.heap.size v l ∧ Bd 200000 30 l ∧ (-400000 ≤ t ∧ t ≤ 400000) ∧ (-400000 ≤ u ∧ u ≤ 400000) ∧ Below w.heap.size w w'
theorem Own.low {w w0 : World} {v : Value} {l : List Pc} {B : Nat} (h : Own w B v l) (k : w0.heap.size ≤ B) : Own w w0.heap.size v l := h.mono k

theorem DrawCoreLength_any {w : World} {a : Option Addr} {len cap : Nat} (h : Bytes w a len cap) :
    Calls Try.prog 15 #[.slice a len cap] w fun e w' => Dr1 w e w' := by
  go_enter Try.func15, Try.ntmps15
  go_wp2_with fail
  refine (open_any h).mono ?_
  rintro e w1 ⟨rfl, a1, b1, s1⟩
  go_wp2_with fail
  refine (l91Core_any a1 (by omega)).mono ?_
  rintro e w2 ⟨v, l, rfl, ho, hb, a2, k2⟩
  go_wp2_with fail
  go_ret
  exact ⟨v, l, rfl, ho.low b1.size, hb.mono (by omega) (by omega), k2.below b1 (Nat.le_refl _) b1.size⟩
theorem DrawCoreGaps_any {w : World} {a : Option Addr} {len cap : Nat} (h : Bytes w a len cap) :
    Calls Try.prog 22 #[.slice a len cap] w fun e w' => Dr1 w e w' := by
  go_enter Try.func22, Try.ntmps22
  go_wp2_with fail
  refine (open_any h).mono ?_
  rintro e w1 ⟨rfl, a1, b1, s1⟩
  go_wp2_with fail
  refine (l91Core_any a1 (by omega)).mono ?_
  rintro e w2 ⟨v, l, rfl, ho, hb, a2, k2⟩
  go_wp2_with fail
  go_ret
  exact ⟨v, l, rfl, ho.low b1.size, hb.mono (by omega) (by omega), k2.below b1 (Nat.le_refl _) b1.size⟩

/-- What l91Within comes to. -/
def WithinDrawn (w : World) (b m : Nat) (e : Ending) (w' : World) : Prop :=
  ∃ v l d, e = .returned (.tuple #[v, .int .i64 d]) ∧ Own w' w.heap.size v l ∧ Bd 100000 6 l ∧ (-400000 ≤ d ∧ d ≤ 400000) ∧ At w' b (m + 30) ∧ Keep b w w'

set_option maxHeartbeats 800000 in
theorem l91Within_any {w : World} {b m : Nat} (h : At w b m) (hm : m ≤ 800000) :
    Calls Try.prog 41 #[.pointer (some ⟨b, 0, none⟩)] w fun e w' => WithinDrawn w b m e w' := by
  have hbw := h.lt
  go_enter Try.func41, Try.ntmps41
  go_wp2_with fail
  refine (l91Core_any h (by omega)).mono ?_
  rintro e w1 ⟨v, l, rfl, ho, hb, a1, k1⟩
  have A1 := Lib.hid a1; have K1 := Lib.hid k1; have O1 := Lib.hid ho; have BD := Lib.hid hb
  have hl6 : l.length ≤ 6 := hb.1
  have hs1 := k1.size
  clear h a1 k1 ho hb
  by_cases h0 : 0 < l.length
  rotate_left
  · have hv : ∃ a c, v = .slice a 0 c := by
      obtain ⟨a, n, c, rfl, h1, _⟩ := O1.out.row
      exact ⟨a, c, by rw [show n = 0 by omega]⟩
    obtain ⟨a, c, rfl⟩ := hv
    go_wp2_with fail
    refine (pick_at 200 A1.out (by omega)).mono ?_
    rintro e w2 ⟨r2, rfl, p2, q2, _, a2, k2⟩
    replace q2 := q2 (by decide)
    have A2 := Lib.hid a2; have K2 := Lib.hid (K1.out.trans k2); have O2 := Lib.hid (O1.out.keep k2 hbw)
    clear a2 k2
    go_wp2_with fail
    refine (pick_at 10 A2.out (by omega)).mono ?_
    rintro e w3 ⟨r3, rfl, p3, q3, _, a3, k3⟩
    replace q3 := q3 (by decide)
    have A3 := Lib.hid a3; have K3 := Lib.hid (K2.out.trans k3); have O3 := Lib.hid (O2.out.keep k3 hbw)
    clear a3 k3
    go_wp2_with fail
    go_ret2
    exact ⟨_, l, _, rfl, O3.out, BD.out, by omega, A3.out.mono (by omega), K3.out⟩
  obtain ⟨g, cap, rfl, hcap, hcapm, hBg, hgw, hp⟩ := O1.out.at h0
  unfold maxLen at hcapm
  have HP := Lib.hid hp
  have hne0 : ((l.length : Int) == 0) = false := by rw [beq_eq_false_iff_ne]; omega
  clear hp
  go_wp2_with fail
  refine (pick_at 6 A1.out (by omega)).mono ?_
  rintro e w2 ⟨r2, rfl, p2, q2, _, a2, k2⟩
  replace q2 := q2 (by decide)
  have hs2 := k2.size
  have A2 := Lib.hid a2; have K2 := Lib.hid (K1.out.trans k2); have O2 := Lib.hid (O1.out.keep k2 hbw); have KK := Lib.hid k2
  clear a2 k2
  by_cases e0 : r2 = 0
  · subst e0
    go_wp2_with fail
    refine (pick_at 200 A2.out (by omega)).mono ?_
    rintro e w3 ⟨r3, rfl, p3, q3, _, a3, k3⟩
    replace q3 := q3 (by decide)
    have A3 := Lib.hid a3; have K3 := Lib.hid (K2.out.trans k3); have O3 := Lib.hid (O2.out.keep k3 hbw)
    clear a3 k3
    go_wp2_with fail
    refine (pick_at 10 A3.out (by omega)).mono ?_
    rintro e w4 ⟨r4, rfl, p4, q4, _, a4, k4⟩
    replace q4 := q4 (by decide)
    have A4 := Lib.hid a4; have K4 := Lib.hid (K3.out.trans k4); have O4 := Lib.hid (O3.out.keep k4 hbw)
    clear a4 k4
    go_wp2_with fail
    go_ret2
    exact ⟨_, l, _, rfl, O4.out, BD.out, by omega, A4.out.mono (by omega), K4.out⟩
  · have f0 : (r2 == 0) = false := by simpa using e0
    clear e0
    go_wp2_with fail
    refine (pick_at (l.length : Int) A2.out (by omega)).mono ?_
    rintro e w3 ⟨r3, rfl, p3, q3, _, a3, k3⟩
    replace q3 := q3 (by omega)
    obtain ⟨i, rfl⟩ := Int.eq_ofNat_of_zero_le p3
    have hi : i < l.length := by omega
    have hs3 := k3.size
    have hpi := HP.out i hi
    have d1 := ((KK.out.trans k3).cell (cell_lt hpi.top) (by show g ≠ b; omega)).trans hpi.top
    have d2 := ((KK.out.trans k3).cell (cell_lt hpi.bot) (by show g ≠ b; omega)).trans hpi.bot
    have A3 := Lib.hid a3; have K3 := Lib.hid (K2.out.trans k3); have O3 := Lib.hid (O2.out.keep k3 hbw)
    have bi := BD.out.get i hi
    have hb3 : b < w3.heap.size := by omega
    clear a3 k3 hpi
    have z1 : IntKind.i64.wrap (l[i].2 - l[i].1) = l[i].2 - l[i].1 := IntWalk.i64_in _ (by omega)
    have z2 : IntKind.i64.wrap (l[i].2 - l[i].1 + 1) = l[i].2 - l[i].1 + 1 := IntWalk.i64_in _ (by omega)
    obtain ⟨y, hy⟩ : ∃ y, (if 1 < l[i].2 - l[i].1 + 1 then l[i].2 - l[i].1 + 1 else 1) = y := ⟨_, rfl⟩
    have hy1 : 1 ≤ y ∧ y ≤ 200001 := by rw [← hy]; split <;> omega
    obtain ⟨y1, y2⟩ := hy1
    go_wp2_with fail
    go_region_held3 (fun w' => w'.cell? ⟨w3.heap.size, 0, none⟩ = some (.int .i64 l[i].1) ∧ w'.cell? ⟨w3.heap.size, 1, none⟩ = some (.int .i64 l[i].2))
      (first | go_keep | (go_split_ands; exact ⟨(k5.cell (p := ⟨w3.heap.size, 0, none⟩) (by simp) (by simp; omega)).trans ‹_›, (k5.cell (p := ⟨w3.heap.size, 1, none⟩) (by simp) (by simp; omega)).trans ‹_›⟩))
      (((go_at_call 37; refine (pick_at (b := b) (m := m + 23) y ?_ (by omega)).mono ?_; exact ((A3.out.mono (by omega)).alloc _).drew; rintro e w5 ⟨r5, rfl, p5, q5, _, a5, k5⟩; replace q5 := q5 (by omega); have z3 : IntKind.i64.wrap (l[i].1 + r5) = l[i].1 + r5 := IntWalk.i64_in _ (by omega))))
    have A5 := Lib.hid a5
    have K5 := Lib.hid (K3.out.trans (Keep.trans (Keep.trans (Keep.alloc b w3 (.cells #[.int .i64 l[i].1, .int .i64 l[i].2] 27)) (Keep.drew b _)) k5))
    have O5 := Lib.hid ((O3.out.grow ((Below.refl _ _).alloc (Nat.le_refl _) (.cells #[.int .i64 l[i].1, .int .i64 l[i].2] 27)).drew).keep k5 hbw)
    have Z3 := Lib.hid z3
    clear a5 k5 z1 z2 z3
    go_wp2_with fail
    go_ret2
    refine ⟨_, l, _, rfl, O5.out, BD.out, ?_, A5.out.mono (by omega), K5.out⟩
    first | omega | (rw [Z3.out]; omega)
theorem DrawCoreHas_any {w : World} {a : Option Addr} {len cap : Nat} (h : Bytes w a len cap) :
    Calls Try.prog 19 #[.slice a len cap] w fun e w' => Dr2 w e w' := by
  go_enter Try.func19, Try.ntmps19
  go_wp2_with fail
  refine (open_any h).mono ?_
  rintro e w1 ⟨rfl, a1, b1, s1⟩
  go_wp2_with fail
  refine (l91Within_any a1 (by omega)).mono ?_
  rintro e w2 ⟨v, l, d, rfl, ho, hb, hd, a2, k2⟩
  go_wp2_with fail
  go_ret2
  exact ⟨v, l, d, rfl, ho.low b1.size, hb.mono (by omega) (by omega), hd, k2.below b1 (Nat.le_refl _) b1.size⟩

theorem DrawCoreValid_any {w : World} {a : Option Addr} {len cap : Nat} (h : Bytes w a len cap) :
    Calls Try.prog 12 #[.slice a len cap] w fun e w' => Dr1 w e w' := by
  go_enter Try.func12, Try.ntmps12
  go_wp2_with fail
  refine (open_any h).mono ?_
  rintro e w1 ⟨rfl, a1, b1, s1⟩
  go_wp2_with fail
  refine (l91Core_any a1 (by omega)).mono ?_
  rintro e w2 ⟨v, l, rfl, ho, hb, a2, k2⟩
  have O2 := Lib.hid ho; have A2 := Lib.hid a2; have BD := Lib.hid hb; have K2 := Lib.hid k2; have B1 := Lib.hid b1
  have hs2 := k2.size
  have hb1 := b1.size
  have hl6 : l.length ≤ 6 := hb.1
  clear ho a2 hb k2 b1 a1
  by_cases h1 : 1 < l.length
  rotate_left
  · have hv : ∃ a n c, v = .slice a n c ∧ n = l.length := by
      obtain ⟨a, n, c, rfl, h1, _⟩ := O2.out.row
      exact ⟨a, n, c, rfl, h1.symm⟩
    obtain ⟨a', n, c, rfl, hn⟩ := hv
    have hn1 : n ≤ 1 := by omega
    clear hn
    go_wp2_with fail
    go_ret
    exact ⟨_, l, rfl, O2.out.low hb1, BD.out.mono (by omega) (by omega), K2.out.below B1.out (Nat.le_refl _) hb1⟩
  obtain ⟨g, cp, rfl, hcap, hcapm, hBg, hgw, hp⟩ := O2.out.at (by omega)
  unfold maxLen at hcapm
  have HP := Lib.hid hp
  clear hp
  go_wp2_with fail
  refine (pick_at 6 A2.out (by omega)).mono ?_
  rintro e w3 ⟨r3, rfl, p3, q3, _, a3, k3⟩
  replace q3 := q3 (by decide)
  have hs3 := k3.size
  have A3 := Lib.hid a3; have K3 := Lib.hid (K2.out.trans k3); have O3 := Lib.hid (O2.out.keep k3 (by omega))
  clear a3 k3
  by_cases e0 : r3 = 0
  rotate_left
  · have f0 : (r3 == 0) = false := by simpa using e0
    clear e0
    go_wp2_with fail
    go_ret
    exact ⟨_, l, rfl, O3.out.low hb1, BD.out.mono (by omega) (by omega), K3.out.below B1.out (Nat.le_refl _) hb1⟩
  subst e0
  obtain ⟨g', cp', e', _, _, hBg', hgw', hp'⟩ := O3.out.at (by omega)
  simp only [Value.slice.injEq, Option.some.injEq, Addr.mk.injEq, and_true, true_and] at e'
  obtain ⟨rfl, rfl⟩ := e'
  have P1 := hp' 1 h1
  have bi := BD.out.get 1 h1
  have hgb : g ≠ w.heap.size := by omega
  obtain ⟨t0, t1, t2, t3, t4, _⟩ := P1
  simp only [Nat.one_mul] at t0 t2 t4
  clear hp' t1 t3 t4
  go_wp2_with fail
  go_region_with (go_at_call 37; refine (pick_at (b := w.heap.size) (m := 30) 20 ?_ (by omega)).mono ?_; exact (A3.out.mono (by omega)).drew; rintro e w5 ⟨r5, rfl, p5, q5, _, a5, k5⟩; replace q5 := q5 (by omega); have z3 : IntKind.i64.wrap (l[1].1 - r5) = l[1].1 - r5 := IntWalk.i64_in _ (by omega); have c5 := (k5.cell (p := ⟨g, 2, none⟩) hgw' hgb).trans t0; have f5 := (k5.frozen (p := ⟨g, 2, none⟩) hgw' hgb).trans t2)
  all_goals
    have Z3 := Lib.hid z3
    have K5 := Lib.hid (K3.out.trans (Keep.trans (Keep.drew _ w3) k5))
    have O5 : Hid (Own w5 w1.heap.size _ l) := Lib.hid ((O3.out.grow (Below.refl _ _).drew).keep k5 (by omega))
    clear z3 k5 a5
    go_wp2_with fail
    go_ret
    obtain ⟨_, _, e5, _, _, _, _, hp5⟩ := O5.out.at (by omega)
    simp only [Value.slice.injEq, Option.some.injEq, Addr.mk.injEq, and_true, true_and] at e5
    obtain ⟨rfl, rfl⟩ := e5
    have S5 := (hp5 1 h1).setTop (l[1].1 - r5)
    have b5 := K5.out.below B1.out (Nat.le_refl _) hb1
    refine ⟨_, _, rfl, (by first | exact S5 | (rw [Z3.out]; exact S5) : Own _ w1.heap.size _ (l.set 1 (l[1].1 - r5, l[1].2))).low hb1, ((BD.out.mono (Nat.le_refl _) (by omega : (100000 : Int) ≤ 200000)).set 1 (l[1].1 - r5, l[1].2) ⟨⟨by show -200000 ≤ l[1].1 - r5; omega, by show l[1].1 - r5 ≤ 200000; omega⟩, by show -200000 ≤ l[1].2; omega, by show l[1].2 ≤ 200000; omega⟩).mono (by omega) (by omega), b5.setCell (p := ⟨g, 2, none⟩) (by show _ ≤ g; omega) _⟩

theorem DrawCoreJoin_any {w : World} {a : Option Addr} {len cap : Nat} (h : Bytes w a len cap) :
    Calls Try.prog 27 #[.slice a len cap] w fun e w' => Dr1 w e w' := by
  go_enter Try.func27, Try.ntmps27
  go_wp2_with fail
  refine (open_any h).mono ?_
  rintro e w1 ⟨rfl, a1, b1, s1⟩
  go_wp2_with fail
  refine (l91Core_any a1 (by omega)).mono ?_
  rintro e w2 ⟨v, l, rfl, ho, hb, a2, k2⟩
  have hbw := a1.lt
  have O2 := Lib.hid ho; have A2 := Lib.hid a2; have BD := Lib.hid hb; have K2 := Lib.hid k2; have B1 := Lib.hid b1
  have hl6 : l.length ≤ 6 := hb.1
  have hb1 := b1.size
  clear ho a2 hb k2 b1 a1
  go_wp2_with fail
  refine (pick_at 150 A2.out (by omega)).mono ?_
  rintro e w3 ⟨d, rfl, p3, q3, _, a3, k3⟩
  replace q3 := q3 (by decide)
  have K3 := Lib.hid (K2.out.trans k3); have O3 := Lib.hid (O2.out.keep k3 hbw)
  clear a3 k3
  go_wp2_with fail
  refine (specCoreCut_any d O3.out.row).mono ?_
  rintro e w4 ⟨u, rfl, ho4, hb4⟩
  have O4 := Lib.hid (O3.out.grow hb4); have U4 := Lib.hid ho4
  have B4 := Lib.hid ((K3.out.below B1.out (Nat.le_refl _) hb1).trans (hb4.mono (K3.out.below B1.out (Nat.le_refl _) hb1).size))
  have hs3 := (K3.out.below B1.out (Nat.le_refl _) hb1).size
  clear ho4 hb4
  cases hc : cutOf d l with
  | none =>
    rw [hc] at U4
    clear hc
    simp only [Option.isSome_none]
    go_wp2_with fail
    go_ret
    exact ⟨v, l, rfl, O4.out.low hb1, BD.out.mono (by omega) (by omega), B4.out⟩
  | some m =>
    rw [hc] at U4
    have hm : Bd 200000 30 m := by
      have hc' : ct d l = some m := by
        unfold cutOf at hc
        split at hc
        · exact hc
        · simp at hc
      refine ⟨by have := (ct_len hc').2; omega, fun p hp => ?_⟩
      have hq : ∀ {l m : List Pc}, ct d l = some m → (∀ p ∈ l, Sm 200000 p) → ∀ p ∈ m, Sm 200000 p := fun {l m} h => by
        refine ct_ind (P := fun l m => (∀ p ∈ l, Sm 200000 p) → ∀ p ∈ m, Sm 200000 p) ?_ ?_ h
        · intro p l h1 h2 hb q hq
          have := hb p (by simp)
          simp only [List.mem_cons] at hq
          rcases hq with rfl | rfl | hq
          · exact ⟨this.1, by show -200000 ≤ d; omega, by show d ≤ 200000; omega⟩
          · exact ⟨⟨by show -200000 ≤ d; omega, by show d ≤ 200000; omega⟩, this.2⟩
          · exact hb q (by simp [hq])
        · intro p l m _ _ ih hb q hq
          rcases List.mem_cons.1 hq with rfl | hq
          · exact hb _ (by simp)
          · exact ih (fun q hq => hb q (by simp [hq])) q hq
      exact hq hc' (BD.out.mono (Nat.le_refl _) (by omega : (100000 : Int) ≤ 200000)).2 p hp
    have HM := Lib.hid hm
    clear hc hm
    simp only [Option.isSome_some]
    go_wp2_with fail
    go_ret
    exact ⟨u, m, rfl, U4.out.low hs3, HM.out, B4.out⟩

set_option maxHeartbeats 800000 in
theorem DrawCoreCut_any {w : World} {a : Option Addr} {len cap : Nat} (h : Bytes w a len cap) :
    Calls Try.prog 29 #[.slice a len cap] w fun e w' => Dr2 w e w' := by
  go_enter Try.func29, Try.ntmps29
  go_wp2_with fail
  refine (open_any h).mono ?_
  rintro e w1 ⟨rfl, a1, b1, s1⟩
  go_wp2_with fail
  refine (l91Within_any a1 (by omega)).mono ?_
  rintro e w2 ⟨v, l, d, rfl, ho, hb, hd, a2, k2⟩
  have hbw := a1.lt
  have O2 := Lib.hid ho; have A2 := Lib.hid a2; have BD := Lib.hid hb; have K2 := Lib.hid k2; have B1 := Lib.hid b1
  have hb1 := b1.size
  clear ho a2 hb k2 b1 a1
  go_wp2_with fail
  refine (pick_at 20 A2.out (by omega)).mono ?_
  rintro e w3 ⟨r3, rfl, p3, q3, _, a3, k3⟩
  replace q3 := q3 (by decide)
  have K3 := Lib.hid (K2.out.trans k3); have O3 := Lib.hid (O2.out.keep k3 hbw)
  have B3 := Lib.hid (K3.out.below B1.out (Nat.le_refl _) hb1)
  have hw3 : w.heap.size ≤ w3.heap.size := B3.out.size
  clear a3 k3
  by_cases e0 : r3 = 0
  rotate_left
  · have f0 : (r3 == 0) = false := by simpa using e0
    clear e0
    go_wp2_with fail
    go_ret2
    exact ⟨_, l, d, rfl, O3.out.low hb1, BD.out.mono (by omega) (by omega), hd, B3.out⟩
  subst e0
  have O4 := Lib.hid (own_new hw3)
  have B4 := Lib.hid (B3.out.alloc hw3 (.cells #[] 27))
  have HD := Lib.hid hd
  go_wp2_with fail
  go_loopg [5, 7] 20 (fun k x z wr => ∃ (m : List Pc), z = .int .i64 (m.length : Int) ∧ m.length + k = 20 ∧ Own wr w.heap.size x m ∧ Bd 200000 20 m ∧ Below w.heap.size w wr)
  case atStart => exact ⟨[], rfl, rfl, O4.out, ⟨by simp, fun p hp => by simp at hp⟩, B4.out⟩
  case round =>
    obtain ⟨m, rfl, hk, ho, hb, hbe⟩ := hrel
    have K := Lib.hid hk; have OM := Lib.hid ho; have BM := Lib.hid hb; have BE := Lib.hid hbe
    have hm20 : m.length ≤ 20 := by omega
    have hwr : w.heap.size ≤ wr.heap.size := hbe.size
    clear hk ho hb hbe
    by_cases hlt : (m.length : Int) < 20
    · obtain ⟨n1, n2⟩ := new_two wr (.int .i64 (10 * (m.length : Int))) (.int .i64 (10 * (m.length : Int) + 10)) 27
      have N1 := Lib.hid n1; have N2 := Lib.hid n2
      clear n1 n2
      go_wp2_with (at_builtin; refine append_piece rfl _ _ rfl (B := w.heap.size) _ m rfl (OM.out.grow ((Below.refl _ _).alloc (Nat.le_refl _) _)) ⟨wr.heap.size, 0, none⟩ (10 * (m.length : Int), 10 * (m.length : Int) + 10) rfl N1.out N2.out (by omega) (by simp; omega) ?_; intro v5 w5 hown5 hg5)
      have O5 := Lib.hid hown5
      have B5 := Lib.hid ((BE.out.alloc hwr (.cells #[.int .i64 (10 * (m.length : Int)), .int .i64 (10 * (m.length : Int) + 10)] 27)).trans ((OM.out.grow ((Below.refl _ _).alloc (Nat.le_refl _) _)).below hg5 (by simp; omega)))
      clear hown5 hg5
      go_roundg (gk - 1)
      case measure => have := K.out; omega
      case rel =>
        refine ⟨m ++ [(10 * (m.length : Int), 10 * (m.length : Int) + 10)], by simp, by have := K.out; simp; omega, O5.out, ?_, B5.out⟩
        have := BM.out.snoc (10 * (m.length : Int), 10 * (m.length : Int) + 10) ⟨⟨by show -200000 ≤ 10 * (m.length : Int); omega, by show 10 * (m.length : Int) ≤ 200000; omega⟩, by show -200000 ≤ 10 * (m.length : Int) + 10; omega, by show 10 * (m.length : Int) + 10 ≤ 200000; omega⟩
        exact ⟨by simp; omega, this.2⟩
    · go_wp2_with fail
      go_ret2
      exact ⟨u5, m, d, rfl, OM.out, BM.out.mono (by omega) (by omega), HD.out, BE.out⟩

theorem span_list {q : Nat} {v a b c : Value} (h : q < [a, b, c].length) (hv : (#[a, b, c] : Array Value)[q]? = some v) : [a, b, c][q] = v := by simpa [List.getElem?_eq_getElem h] using hv
theorem span_cells (x q : Int) (hx : 0 ≤ x ∧ x ≤ 1000) (h0 : 0 ≤ q) (h1 : q < 3) : ∃ v : Int, -400000 ≤ v ∧ v ≤ 400000 ∧ (#[Value.int .i64 (x - 1), Value.int .i64 30001, Value.int .i64 30000] : Array Value)[q.toNat]? = some (.int .i64 v) := by
  have h : q = 0 ∨ q = 1 ∨ q = 2 := by omega
  rcases h with rfl | rfl | rfl
  · exact ⟨x - 1, by omega, by omega, rfl⟩
  · exact ⟨30001, by decide, by decide, rfl⟩
  · exact ⟨30000, by decide, by decide, rfl⟩
theorem span_kept {b : Nat} {w w' : World} {i : Nat} {c : Array Value} {t : TypeId} {v : Value} (k : Keep b (w.alloc (.cells c t)).drew w') (hb : b < w.heap.size) (hv : c[i]? = some v) : w'.cell? ⟨w.heap.size, i, none⟩ = some v := by
  refine (k.cell (p := ⟨w.heap.size, i, none⟩) ?_ ?_).trans ?_
  · show w.heap.size < (w.alloc _).heap.size
    simp
  · show w.heap.size ≠ b
    omega
  · rw [World.cell?_drew, World.cell?_alloc_new]; exact hv
/-- What l91Span comes to. -/
def SpanDrawn (w : World) (b m : Nat) (e : Ending) (w' : World) : Prop :=
  ∃ t u : Int, e = .returned (.tuple #[.int .i64 t, .int .i64 u]) ∧ (-400000 ≤ t ∧ t ≤ 400000) ∧ (-400000 ≤ u ∧ u ≤ 400000) ∧ At w' b (m + 5) ∧ Keep b w w'
theorem l91Span_any {w : World} {b m : Nat} (h : At w b m) (hm : m ≤ 800000) :
    Calls Try.prog 46 #[.pointer (some ⟨b, 0, none⟩)] w fun e w' => SpanDrawn w b m e w' := by
  have hbw := h.lt
  go_enter Try.func46, Try.ntmps46
  go_wp2_with fail
  refine (pick_at 150 h (by omega)).mono ?_
  rintro e w1 ⟨x, rfl, p1, q1, _, a1, k1⟩
  replace q1 := q1 (by decide)
  go_wp2_with fail
  refine (pick_at 16 a1 (by omega)).mono ?_
  rintro e w2 ⟨r, rfl, p2, q2, _, a2, k2⟩
  replace q2 := q2 (by decide)
  by_cases z : r = 0
  · subst z
    have z0 : IntKind.i64.wrap (x - 1) = x - 1 := IntWalk.i64_in _ (by omega)
    go_wp2_with fail
    go_region_with (go_at_call 37; refine (pick_at (m := m + 3) (b := b) _ ?_ (by omega)).mono ?_; (first | exact (a2.mono (by omega)).drew | exact ((a2.mono (by omega)).alloc _).drew); rintro e w5 ⟨q, rfl, q0, q1, _, a5, k5⟩; replace q1 := q1 (by decide); obtain ⟨v, v0, v1, hv⟩ := span_cells x q (by omega) q0 q1; have hl := span_list (by simp; omega) hv; try have c := span_kept k5 a2.lt hv)
    all_goals
      go_wp2
      go_ret2
      refine ⟨x, v, rfl, by omega, by omega, ?_, ?_⟩
      · first | exact a5.mono (by omega) | exact (a5.mono (by omega)).alloc _
      · first
          | exact (k1.trans k2).trans ((Keep.trans (Keep.alloc b w2 _) (Keep.drew b _)).trans k5)
          | exact ((k1.trans k2).trans ((Keep.drew b _).trans k5)).trans (Keep.alloc b w5 _)
  · have e0 : (r == 0) = false := by simpa using z
    go_wp2_with fail
    refine (pick_at 120 a2 (by omega)).mono ?_
    rintro e w3 ⟨y, rfl, p3, q3, _, a3, k3⟩
    replace q3 := q3 (by decide)
    go_wp2_with fail
    go_ret2
    exact ⟨x, x + y, rfl, by omega, by omega, a3.mono (by omega), (k1.trans k2).trans k3⟩

theorem DrawCoreBetween_any {w : World} {a : Option Addr} {len cap : Nat} (h : Bytes w a len cap) :
    Calls Try.prog 32 #[.slice a len cap] w fun e w' => Dr3 w e w' := by
  go_enter Try.func32, Try.ntmps32
  go_wp2_with fail
  refine (open_any h).mono ?_
  rintro e w1 ⟨rfl, a1, b1, s1⟩
  go_wp2_with fail
  refine (l91Core_any a1 (by omega)).mono ?_
  rintro e w2 ⟨v, l, rfl, ho, hb, a2, k2⟩
  go_wp2_with fail
  refine (l91Span_any a2 (by omega)).mono ?_
  rintro e w3 ⟨t, u, rfl, ht, hu, a3, k3⟩
  go_wp2_with fail
  go_ret3
  exact ⟨v, l, t, u, rfl, (ho.keep k3 a1.lt).low b1.size, hb.mono (by omega) (by omega), ht, hu, (k2.trans k3).below b1 (Nat.le_refl _) b1.size⟩
end Go.Proofs.Ytdljfikgmhdedaa
