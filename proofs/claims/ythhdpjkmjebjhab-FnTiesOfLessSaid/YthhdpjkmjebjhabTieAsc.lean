/- Which lists the program takes for ties: the test of depths that ascend from 0 on. -/
import Derived.Test.YthhdpjkmjebjhabTieSpec
import Derived.Test.YthhdpjkmjebjhabTieSteps
namespace Go.Proofs.Ythhdpjkmjebjhab
open Go.RowKit

/-- What the program's test has seen: the first i ties ascend on both sides from 0 on; p is the last one. -/
structure SeeU (l : List Ti) (i : Nat) (p : Ti) : Prop where
  ok : ∀ k (hk : k < l.length), k < i → 0 ≤ l[k].1 ∧ l[k].1 ≤ p.1 ∧ 0 ≤ l[k].2 ∧ l[k].2 ≤ p.2
  up : ∀ k (hk : k + 1 < l.length), k + 1 < i → lt2 (l[k]'(by omega)) l[k + 1]
  low : -1 ≤ p.1 ∧ -1 ≤ p.2
  here : (i = 0 ∧ p = (-1, -1)) ∨ ∃ q, ∃ (h : q < l.length), i = q + 1 ∧ p = l[q]
theorem seeU_start (l : List Ti) : SeeU l 0 (-1, -1) := ⟨fun k _ h => by omega, fun k _ h => by omega, by simp, .inl ⟨rfl, rfl⟩⟩
theorem SeeU.next {l : List Ti} {i : Nat} {p : Ti} (h : SeeU l i p) (hi : i < l.length) (h1 : p.1 < l[i].1) (h2 : p.2 < l[i].2) : SeeU l (i + 1) l[i] := by
  obtain ⟨lo1, lo2⟩ := h.low
  refine ⟨fun k hk hki => ?_, fun k hk hki => ?_, by omega, .inr ⟨i, hi, rfl, rfl⟩⟩
  · by_cases e : k = i
    · subst e; omega
    · obtain ⟨a, b, c, d⟩ := h.ok k hk (by omega)
      omega
  · by_cases e : i = k + 1
    · subst e
      rcases h.here with ⟨h0, _⟩ | ⟨q, hq, hq1, hq2⟩
      · omega
      · obtain rfl : k = q := by omega
        rw [hq2] at h1 h2
        exact ⟨h1, h2⟩
    · exact h.up k hk (by omega)
theorem SeeU.flat {l : List Ti} {i : Nat} {p : Ti} (h : SeeU l i p) (hi : i < l.length) (h1 : l[i].1 ≤ p.1 ∨ l[i].2 ≤ p.2) : ordT l = false := by
  rcases h.here with ⟨h0, h2⟩ | ⟨q, hq, hq1, hq2⟩
  · subst h2
    refine ord_out hi ?_
    simp only at h1; omega
  · subst hq1
    refine ord_flat hi ?_
    rw [← hq2]; exact h1
theorem SeeU.all {l : List Ti} {p : Ti} (h : SeeU l l.length p) : ordT l = (decide (p.1 ≤ 30000) && decide (p.2 ≤ 30000)) := by
  rw [Bool.eq_iff_iff, ordT_iff, Bool.and_eq_true, decide_eq_true_eq, decide_eq_true_eq]
  constructor
  · intro k
    rcases h.here with ⟨h0, h2⟩ | ⟨q, hq, hq1, hq2⟩
    · subst h2; simp
    · have := tieOk_iff.1 (k.ok _ (List.getElem_mem hq)); rw [← hq2] at this; omega
  · intro k
    refine ⟨fun x hx => ?_, upT_pair.1 (upT_iff.2 fun i hi => h.up i hi (by omega))⟩
    obtain ⟨i, hi, rfl⟩ := List.getElem_of_mem hx
    have := h.ok i hi hi
    exact tieOk_iff.2 (by omega)
set_option maxRecDepth 100000 in
set_option maxHeartbeats 1600000 in
theorem ascend_any {w : World} {v : Value} {l : List Pc} (h : Row w v l) :
    Calls Try.prog 54 #[v] w fun e w' => Val w (.bool (ordT l)) e w' := by
  obtain ⟨a, c, rfl, h1, h2, hlie⟩ := h.parts
  have H := Lib.hid hlie
  unfold maxLen at h2
  clear h hlie
  go_enter Try.func54, Try.ntmps54
  go_wp2_with fail
  go_loopg [9] l.length (fun k x wr => ∃ (j : Nat) (p : Pc), x = .int .i64 j ∧ j + k = l.length ∧ SeeU l j p ∧ wr.cell? ⟨w.heap.size, 0, none⟩ = some (.int .i64 p.1) ∧ wr.cell? ⟨w.heap.size, 1, none⟩ = some (.int .i64 p.2) ∧
    wr.frozen? ⟨w.heap.size, 0, none⟩ = false ∧ wr.frozen? ⟨w.heap.size, 1, none⟩ = false ∧ w.heap.size + 1 ≤ wr.heap.size ∧ Below w.heap.size w wr)
  case atStart => exact ⟨0, (-1, -1), rfl, by omega, seeU_start l, by go_cell, by go_cell, by go_simp, by go_simp, by simp, by go_grown⟩
  case round =>
    obtain ⟨j, p, rfl, hk, hs, k0, k1, f0, f1, hsz, hb⟩ := hrel
    have K := Lib.hid hk; have S := Lib.hid hs; have B := Lib.hid hb
    have hjl : j ≤ l.length := by omega
    clear hk hs hb
    by_cases hlt : j < l.length
    · obtain ⟨g, o, rfl, d1, d2⟩ := lies_cell H.out j hlt
      have e1 := (B.out.cell (cell_below d1)).trans d1
      have e2 := (B.out.cell (cell_below d2)).trans d2
      have hsz1 : w.heap.size < wr.heap.size := hsz
      have i0 : (0 : Int) ≤ (j : Int) := by omega
      have i1 : (j : Int) < (l.length : Int) := by omega
      have k2 : (wr.alloc (.cells #[.int .i64 l[j].1, .int .i64 l[j].2] 39)).cell? ⟨w.heap.size, 0, none⟩ = some (.int .i64 p.1) := (World.cell?_alloc_lt _ _ _ hsz1).trans k0
      have k3 : (wr.alloc (.cells #[.int .i64 l[j].1, .int .i64 l[j].2] 39)).cell? ⟨w.heap.size, 1, none⟩ = some (.int .i64 p.2) := (World.cell?_alloc_lt _ _ _ hsz1).trans k1
      clear d1 d2
      by_cases q1 : l[j].1 ≤ p.1
      · have R := Lib.hid (S.out.flat hlt (.inl q1))
        go_wp2_with fail
        go_ret
        exact ⟨by rw [R.out]; rfl, by have := B.out; go_grown⟩
      · by_cases q2 : l[j].2 ≤ p.2
        · have R := Lib.hid (S.out.flat hlt (.inr q2))
          go_wp2_with fail
          go_ret
          exact ⟨by rw [R.out]; rfl, by have := B.out; go_grown⟩
        · have S2 := Lib.hid (S.out.next hlt (by omega) (by omega))
          go_wp2_with fail
          go_roundg (gk - 1)
          case measure => have := K.out; omega
          case rel => exact ⟨j + 1, l[j], by go_num, by have := K.out; omega, S2.out, by go_cell, by go_cell, by go_simp, by go_simp, by go_size, by have := B.out; go_grown⟩
    · have hj : j = l.length := by omega
      have S1 : Hid (SeeU l l.length p) := Lib.hid (by have := S.out; rwa [hj] at this)
      have R := Lib.hid S1.out.all
      by_cases q1 : p.1 ≤ 30000
      · by_cases q2 : p.2 ≤ 30000
        · have d1 : decide (p.1 ≤ 30000) = true := by simpa using q1
          have d2 : decide (p.2 ≤ 30000) = true := by simpa using q2
          go_wp2_with fail
          go_ret
          exact ⟨by rw [R.out, d1, d2]; rfl, B.out⟩
        · have d1 : decide (p.1 ≤ 30000) = true := by simpa using q1
          have d2 : decide (p.2 ≤ 30000) = false := by simpa using q2
          go_wp2_with fail
          go_ret
          exact ⟨by rw [R.out, d1, d2]; rfl, B.out⟩
      · have d1 : decide (p.1 ≤ 30000) = false := by simpa using q1
        go_wp2_with fail
        go_ret
        exact ⟨by rw [R.out, d1]; rfl, B.out⟩
theorem ascI_is {w : World} {v : Value} {l : List Pc} {b : Bool} (h : Row w v l) (hb : ordT l = b) : Calls Try.prog 54 #[v] w fun e w' => Val w (.bool b) e w' := by
  have := ascend_any h; rwa [hb] at this
set_option maxHeartbeats 1600000 in
theorem implTies_any {w : World} {v : Value} {l : List Pc} (h : Row w v l) :
    Calls Try.prog 34 #[v] w fun e w' => Val w (.bool (isTies l)) e w' := by
  obtain ⟨a, c, rfl, h1, h2⟩ := h.len
  have H := Lib.hid h
  unfold maxLen at h2
  clear h
  by_cases h12 : l.length ≤ 12
  · have i12 : (l.length : Int) ≤ 12 := by omega
    have R : Hid (isTies l = ordT l) := Lib.hid (by rw [ties_ord, decide_eq_true h12, Bool.and_true])
    go_enter Try.func34, Try.ntmps34
    go_wp2_with fail
    refine (ascend_any H.out).mono ?_
    rintro e w1 ⟨rfl, b1⟩
    go_wp2_with fail
    go_ret
    exact ⟨by rw [R.out]; rfl, b1⟩
  · have i12 : ¬ (l.length : Int) ≤ 12 := by omega
    have R : Hid (isTies l = false) := Lib.hid (by rw [ties_ord, decide_eq_false h12, Bool.and_false])
    go_enter Try.func34, Try.ntmps34
    go_wp2_with fail
    go_ret
    exact ⟨by rw [R.out]; rfl, Below.refl _ _⟩
theorem tiesJ_is {w : World} {v : Value} {l : List Pc} {b : Bool} (h : Row w v l) (hb : isTies l = b) : Calls Try.prog 34 #[v] w fun e w' => Val w (.bool b) e w' := by
  have := implTies_any h; rwa [hb] at this
end Go.Proofs.Ythhdpjkmjebjhab
