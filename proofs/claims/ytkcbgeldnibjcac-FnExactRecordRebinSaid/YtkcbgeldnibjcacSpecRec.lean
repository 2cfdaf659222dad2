/- The contracts of the model's functions on records: the tests, the total. -/
import Derived.Test.YtkcbgeldnibjcacInts
import Derived.Test.YtkcbgeldnibjcacRecordLaw
import Derived.Test.YtkcbgeldnibjcacFrac
import Derived.Test.YtkcbgeldnibjcacFracSpec
import Derived.Test.YtkcbgeldnibjcacTopCut
namespace Go.Proofs.Ytkcbgeldnibjcac
open Go.RowKit

theorem l11Depth_is {n : Int} {b : Bool} (h : isIn n 0 30000 = b) (w : World) :
    Calls Try.prog 24 #[.int .i64 n] w fun e w' => e = .returned (.bool b) ∧ w = w' := by
  subst h
  go_enter Try.func24, Try.ntmps24
  go_wp2_with fail
  refine (l6In_any _ _ _ _).mono ?_
  rintro e w1 ⟨rfl, rfl⟩
  go_wp2_with fail
  go_ret
  exact ⟨rfl, rfl⟩
theorem l6In_is {n a b : Int} {c : Bool} (h : isIn n a b = c) (w : World) :
    Calls Try.prog 25 #[.int .i64 n, .int .i64 a, .int .i64 b] w fun e w' => e = .returned (.bool c) ∧ w = w' := by
  have := l6In_any n a b w
  rwa [h] at this
/-- What the model's test has seen: the first i edges are in range and ascend. -/
structure Upto (l : List Int) (i : Nat) : Prop where
  dp : ∀ k (hk : k < l.length), k < i → 0 ≤ l[k] ∧ l[k] ≤ 30000
  up : ∀ k (hk : k + 1 < l.length), k + 1 < i → l[k] < l[k + 1]
theorem upto_start (l : List Int) : Upto l 0 := ⟨fun k _ h => by omega, fun k _ h => by omega⟩
theorem Upto.next {l : List Int} {i : Nat} (h : Upto l i) (hi : i < l.length) (hd : 0 ≤ l[i] ∧ l[i] ≤ 30000) (hu : ∀ j (e : i = j + 1), (l[j]'(by omega)) < l[i]) : Upto l (i + 1) := by
  refine ⟨fun k hk hki => ?_, fun k hk hki => ?_⟩
  · by_cases e : k = i
    · subst e; exact hd
    · exact h.dp k hk (by omega)
  · by_cases e : i = k + 1
    · subst e; exact hu k rfl
    · exact h.up k hk (by omega)
theorem Upto.all {l : List Int} (h : Upto l l.length) : isEdges l = isIn (l.length : Int) 2 21 := by
  by_cases c : 2 ≤ l.length ∧ l.length ≤ 21
  · rw [isIn_yes (by omega) (by omega)]
    exact isEdges_of c.1 c.2 (fun i hi => h.dp i hi hi) (fun i hi => h.up i hi hi)
  · rw [isIn_no (by omega)]
    exact edges_not_len (by omega)
theorem edges_out {l : List Int} {i : Nat} (hi : i < l.length) (h : isIn l[i] 0 30000 = false) : isEdges l = false := by
  refine edges_not_range i hi ?_
  rcases Int.lt_or_le l[i] 0 with q | q
  · exact .inl q
  · rcases Int.lt_or_le 30000 l[i] with p | p
    · exact .inr p
    · rw [isIn_yes q p] at h; cases h
theorem isIn_range {n a b : Int} (h : isIn n a b = true) : a ≤ n ∧ n ≤ b := by unfold isIn at h; exact of_decide_eq_true h

set_option maxRecDepth 100000 in
set_option maxHeartbeats 1600000 in
theorem specEdges_any {w : World} {v : Value} {l : List Int} (h : IRow w v l) :
    Calls Try.prog 31 #[v] w fun e w' => e = .returned (.bool (isEdges l)) ∧ Below w.heap.size w w' := by
  obtain ⟨a, c, rfl, h1, h2, hlie⟩ := h.parts
  have H := Lib.hid hlie
  unfold maxLen at h2
  clear h hlie
  go_enter Try.func31, Try.ntmps31
  go_wp2_with fail
  go_loopg [3] l.length (fun k x wr => ∃ j : Nat, x = .int .i64 j ∧ j + k = l.length ∧ Upto l j ∧ Below w.heap.size w wr)
  case atStart => exact ⟨0, rfl, by omega, upto_start l, Below.refl _ _⟩
  case round =>
    obtain ⟨j, rfl, hk, hs, hb⟩ := hrel
    have K := Lib.hid hk; have S := Lib.hid hs; have B := Lib.hid hb
    have hjl : j ≤ l.length := by omega
    clear hk hs hb
    by_cases hlt : j < l.length
    · obtain ⟨g, o, rfl, d1⟩ := ilies_cell H.out j hlt
      have e1 := (B.out.cell (cell_below d1)).trans d1
      have i0 : (0 : Int) ≤ (j : Int) := by omega
      have i1 : (j : Int) < (l.length : Int) := by omega
      clear d1
      cases hx : isIn l[j] 0 30000
      · have HX := Lib.hid hx
        have R := Lib.hid (edges_out hlt hx)
        clear hx
        go_wp2_with fail
        go_quiet ((go_at_call 24; refine Calls.quiet_of_same ((l11Depth_is HX.out _).mono fun _ _ h => ⟨h.1, h.2.symm⟩)))
        go_wp2_with fail
        go_ret
        exact ⟨by rw [R.out]; rfl, below_drews B.out _⟩
      · have HX := Lib.hid hx
        have DP := Lib.hid (isIn_range hx)
        clear hx
        cases j with
        | zero =>
          simp only [Nat.add_zero] at e1
          go_wp2_with fail
          go_quiet ((go_at_call 24; refine Calls.quiet_of_same ((l11Depth_is HX.out _).mono fun _ _ h => ⟨h.1, h.2.symm⟩)))
          go_wp2_with fail
          go_roundg (gk - 1)
          case measure => have := K.out; omega
          case rel => exact ⟨1, by go_num, by have := K.out; omega, S.out.next hlt DP.out (fun j e => by omega), below_drews B.out _⟩
        | succ j =>
          obtain ⟨g', o', e', c3⟩ := ilies_cell H.out j (by omega)
          simp only [Option.some.injEq, Addr.mk.injEq, and_true] at e'
          obtain ⟨rfl, rfl⟩ := e'
          have d3 := (B.out.cell (cell_below c3)).trans c3
          clear c3
          have s1 : IntKind.i64.wrap ((j : Int) + 1 - 1) = (j : Int) := by rw [show (j : Int) + 1 - 1 = j by omega]; exact IntWalk.i64_in _ (by omega)
          have s2 : IntKind.i64.wrap (j : Int) = (j : Int) := IntWalk.i64_in _ (by omega)
          have s3 : (0 : Int) ≤ (j : Int) := Int.natCast_nonneg _
          have s4 : (j : Int) < (l.length : Int) := by omega
          have s5 : (0 : Int) ≤ (j : Int) + 1 := by omega
          have s6 : (j : Int) + 1 < (l.length : Int) := by omega
          have s7 : ((j : Int) + 1).toNat = j + 1 := by omega
          have s8 : (0 : Int) < (j : Int) + 1 := by omega
          by_cases q1 : l[j + 1] ≤ l[j]
          · have R := Lib.hid (edges_not_up j (j + 1) (by omega) hlt q1)
            go_wp2_with fail
            go_quiet ((go_at_call 24; refine Calls.quiet_of_same ((l11Depth_is HX.out _).mono fun _ _ h => ⟨h.1, h.2.symm⟩)))
            go_wp2_with fail
            go_ret
            exact ⟨by rw [R.out]; rfl, below_drews B.out _⟩
          · have UP : Hid (∀ i (e : j + 1 = i + 1), (l[i]'(by omega)) < l[j + 1]) := Lib.hid (fun i e => by
              obtain rfl : i = j := by omega
              omega)
            go_wp2_with fail
            go_quiet ((go_at_call 24; refine Calls.quiet_of_same ((l11Depth_is HX.out _).mono fun _ _ h => ⟨h.1, h.2.symm⟩)))
            go_wp2_with fail
            go_roundg (gk - 1)
            case measure => have := K.out; omega
            case rel => exact ⟨j + 2, by go_num, by have := K.out; omega, S.out.next hlt DP.out UP.out, below_drews B.out _⟩
    · have hj : j = l.length := by omega
      have R := Lib.hid (show Upto l l.length by rw [← hj]; exact S.out).all
      go_wp2_with fail
      refine (l6In_any _ _ _ _).mono ?_
      rintro e w1 ⟨rfl, rfl⟩
      go_wp2_with fail
      go_ret
      exact ⟨by rw [R.out]; rfl, B.out⟩
theorem edgesS_is {w : World} {v : Value} {l : List Int} {b : Bool} (h : IRow w v l) (hb : isEdges l = b) : Calls Try.prog 31 #[v] w fun e w' => e = .returned (.bool b) ∧ Below w.heap.size w w' := by
  have := specEdges_any h
  rwa [hb] at this
theorem amounts_seen {m : List Int} {j : Nat} (h : ∀ i (hi : i < m.length), i < j → 0 ≤ m[i] ∧ m[i] ≤ 10000) (hj : m.length ≤ j) : amountsOk m = true := by
  rw [amountsOk_iff]
  intro x hx
  obtain ⟨i, hi, rfl⟩ := List.getElem_of_mem hx
  exact h i hi (by omega)
theorem amount_out {m : List Int} {j : Nat} (hj : j < m.length) (h : isIn m[j] 0 10000 = false) : amountsOk m = false := by
  cases k : amountsOk m
  · rfl
  · have := amountsOk_iff.1 k _ (List.getElem_mem hj)
    rw [isIn_yes this.1 this.2] at h; cases h
set_option maxHeartbeats 1600000 in
theorem specRecordValid_any {w : World} {v u : Value} {l m : List Int} (h : IRow w v l) (k : IRow w u m) :
    Calls Try.prog 23 #[v, u] w fun e w' => e = .returned (.bool (isRec l m)) ∧ Below w.heap.size w w' := by
  obtain ⟨a, c, rfl, h1, h2⟩ := h.len
  obtain ⟨a', c', rfl, h1', h2', hlie⟩ := k.parts
  have R := Lib.hid h; have H := Lib.hid hlie
  unfold maxLen at h2 h2'
  clear h k hlie
  cases he : isEdges l
  · have HE := Lib.hid he
    have T := Lib.hid (rec_not_edges (m := m) he)
    clear he
    go_enter Try.func23, Try.ntmps23
    go_wp2_with fail
    refine (edgesS_is R.out HE.out).mono ?_
    rintro e w1 ⟨rfl, b1⟩
    go_wp2_with fail
    go_ret
    exact ⟨by rw [T.out]; rfl, b1⟩
  · have HE := Lib.hid he
    clear he
    have e0 : IntKind.i64.wrap ((l.length : Int) - 1) = (l.length : Int) - 1 := IntWalk.i64_in _ (by omega)
    by_cases hn : l.length = m.length + 1
    rotate_left
    · have T := Lib.hid (rec_not_len hn)
      have d1 : ((m.length : Int) == (l.length : Int) - 1) = false := by simp; omega
      clear hn
      go_enter Try.func23, Try.ntmps23
      go_wp2_with fail
      refine (edgesS_is R.out HE.out).mono ?_
      rintro e w1 ⟨rfl, b1⟩
      go_wp2_with fail
      go_ret
      exact ⟨by rw [T.out]; rfl, b1⟩
    · have d1 : ((m.length : Int) == (l.length : Int) - 1) = true := by simp; omega
      have d1' : ((m.length : Int) != (l.length : Int) - 1) = false := by simp; omega
      have R0 : Hid (isRec l m = amountsOk m) := Lib.hid (by unfold isRec; rw [HE.out, decide_eq_true hn]; rfl)
      clear hn
      go_enter Try.func23, Try.ntmps23
      go_wp2_with fail
      refine (edgesS_is R.out HE.out).mono ?_
      rintro e w1 ⟨rfl, b1⟩
      have B1 := Lib.hid b1
      clear b1
      go_wp2_with fail
      go_loopg [5] m.length (fun k x wr => ∃ j : Nat, x = .int .i64 j ∧ j + k = m.length ∧ (∀ i (hi : i < m.length), i < j → 0 ≤ m[i] ∧ m[i] ≤ 10000) ∧ w1 = wr)
      case atStart => exact ⟨0, rfl, by omega, fun i _ h => by omega, rfl⟩
      case round =>
        obtain ⟨j, rfl, hk, hs, rfl⟩ := hrel
        have K := Lib.hid hk; have S := Lib.hid hs
        have hjl : j ≤ m.length := by omega
        clear hk hs
        by_cases hlt : j < m.length
        · obtain ⟨g, o, rfl, c1⟩ := ilies_cell H.out j hlt
          have d2 := (B1.out.cell (cell_below c1)).trans c1
          have i0 : (0 : Int) ≤ (j : Int) := by omega
          have i1 : (j : Int) < (m.length : Int) := by omega
          clear c1
          cases hx : isIn m[j] 0 10000
          · have HX := Lib.hid hx
            have T := Lib.hid (amount_out hlt hx)
            clear hx
            go_wp2_with fail
            refine (l6In_is HX.out _).mono ?_
            rintro e w1 ⟨rfl, rfl⟩
            go_wp2_with fail
            go_ret
            exact ⟨by rw [R0.out, T.out]; rfl, B1.out⟩
          · have HX := Lib.hid hx
            have NX : Hid (∀ i (hi : i < m.length), i < j + 1 → 0 ≤ m[i] ∧ m[i] ≤ 10000) := Lib.hid (fun i hi hij => by
              by_cases q : i = j
              · subst q; exact isIn_range HX.out
              · exact S.out i hi (by omega))
            clear hx
            go_wp2_with fail
            refine (l6In_is HX.out _).mono ?_
            rintro e w1 ⟨rfl, rfl⟩
            go_wp2_with fail
            go_roundg (gk - 1)
            case measure => have := K.out; omega
            case rel => exact ⟨j + 1, by go_num, by have := K.out; omega, NX.out, rfl⟩
        · have T := Lib.hid (amounts_seen S.out (by omega))
          go_wp2_with fail
          go_ret
          exact ⟨by rw [R0.out, T.out]; rfl, B1.out⟩
theorem recS_is {w : World} {v u : Value} {l m : List Int} {b : Bool} (h : IRow w v l) (k : IRow w u m) (hb : isRec l m = b) : Calls Try.prog 23 #[v, u] w fun e w' => e = .returned (.bool b) ∧ Below w.heap.size w w' := by
  have := specRecordValid_any h k
  rwa [hb] at this
end Go.Proofs.Ytkcbgeldnibjcac
