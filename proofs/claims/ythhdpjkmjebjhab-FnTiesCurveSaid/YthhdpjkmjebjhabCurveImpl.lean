/- The contracts of the program's functions on curves: the test, the straight parts, the search. -/
import Derived.Test.YthhdpjkmjebjhabPair
import Derived.Test.YthhdpjkmjebjhabCurveIs
import Derived.Test.YthhdpjkmjebjhabFracOps
namespace Go.Proofs.Ythhdpjkmjebjhab
open Go.RowKit

theorem knotT : PairT 68 32 := ⟨by kernel_rfl, Try.underlying32⟩

def Seeing (l : List Pc) (last : Pc) (r : List Pc) : Prop := riB (-1, -1) l = riB last r ∧ lastK (-1, -1) l = lastK last r
theorem isCurve_seen {l : List Pc} {last : Pc} (h : Seeing l last []) (h2 : 2 ≤ l.length) (h12 : l.length ≤ 12) : isCurve l = (decide (last.1 ≤ 30000) && decide (last.2 ≤ 30000)) := by
  unfold isCurve
  rw [h.1, h.2, decide_eq_true h2, decide_eq_true h12]; rfl
theorem isCurve_off {l : List Pc} {last k : Pc} {r : List Pc} (h : Seeing l last (k :: r)) (hk : k.1 ≤ last.1 ∨ k.2 ≤ last.2) : isCurve l = false := by
  have : riB (-1, -1) l = false := by
    rw [h.1]; unfold riB
    rw [Bool.and_eq_false_iff, Bool.and_eq_false_iff]
    rcases hk with hk | hk
    · exact .inl (.inl (by simpa using hk))
    · exact .inl (.inr (by simpa using hk))
  unfold isCurve; rw [this]; simp
theorem Seeing.next {l : List Pc} {last k : Pc} {r : List Pc} (h : Seeing l last (k :: r)) (h1 : last.1 < k.1) (h2 : last.2 < k.2) : Seeing l k r := by
  refine ⟨?_, h.2⟩
  rw [h.1]; simp only [riB]; rw [decide_eq_true h1, decide_eq_true h2]; rfl
theorem isCurve_size {l : List Pc} (h : l.length < 2 ∨ 12 < l.length) : isCurve l = false := by
  unfold isCurve
  rcases h with h | h
  · rw [decide_eq_false (by omega)]; rfl
  · rw [decide_eq_false (show ¬ l.length ≤ 12 by omega)]; simp

set_option maxHeartbeats 800000 in
theorem implCurveValid_any {w : World} {v : Value} {l : List Pc} (h : Row w v l) :
    Calls Try.prog 22 #[v] w fun e w' => Val w (.bool (isCurve l)) e w' := by
  obtain ⟨a, c, rfl, h1, h2, hlie⟩ := h.parts
  unfold maxLen at h2
  have H := Lib.hid hlie
  clear h hlie
  by_cases c1 : l.length < 2
  · have R := Lib.hid (isCurve_size (.inl c1))
    have e1 : decide ((l.length : Int) < 2) = true := by simp; omega
    go_enter Try.func22, Try.ntmps22
    go_wp2_with fail
    go_ret
    exact ⟨by rw [R.out]; rfl, Below.refl _ _⟩
  by_cases c2 : 12 < l.length
  · have R := Lib.hid (isCurve_size (.inr c2))
    have e1 : decide ((l.length : Int) < 2) = false := by simp; omega
    have e2 : decide ((12 : Int) < (l.length : Int)) = true := by simp; omega
    go_enter Try.func22, Try.ntmps22
    go_wp2_with fail
    go_ret
    exact ⟨by rw [R.out]; rfl, Below.refl _ _⟩
  have e1 : decide ((l.length : Int) < 2) = false := by simp; omega
  have e2 : decide ((12 : Int) < (l.length : Int)) = false := by simp; omega
  go_enter Try.func22, Try.ntmps22
  go_wp2_with fail
  go_loopg [17] l.length (fun k x wr => ∃ (j : Nat) (p : Pc), x = .int .i64 j ∧ j + k = l.length ∧ Seeing l p (l.drop j) ∧ wr.cell? ⟨w.heap.size, 0, none⟩ = some (.int .i64 p.1) ∧ wr.cell? ⟨w.heap.size, 1, none⟩ = some (.int .i64 p.2) ∧
    wr.frozen? ⟨w.heap.size, 0, none⟩ = false ∧ wr.frozen? ⟨w.heap.size, 1, none⟩ = false ∧ w.heap.size + 1 ≤ wr.heap.size ∧ Below w.heap.size w wr)
  case atStart => exact ⟨0, (-1, -1), rfl, by omega, ⟨rfl, rfl⟩, by go_cell, by go_cell, by go_simp, by go_simp, by simp, by go_grown⟩
  case round =>
    obtain ⟨j, p, rfl, hk, hs, k0, k1, f0, f1, hsz, hb⟩ := hrel
    have K := Lib.hid hk; have S := Lib.hid hs; have B := Lib.hid hb
    have hjl : j ≤ l.length := by omega
    clear hk hs hb
    by_cases hlt : j < l.length
    · obtain ⟨g, o, rfl, d1, d2⟩ := lies_cell H.out j hlt
      have e1 := (B.out.cell (cell_below d1)).trans d1
      have e2 := (B.out.cell (cell_below d2)).trans d2
      have hd : l.drop j = l[j] :: l.drop (j + 1) := List.drop_eq_getElem_cons hlt
      have S1 : Hid (Seeing l p (l[j] :: l.drop (j + 1))) := Lib.hid (by have := S.out; rwa [hd] at this)
      have hsz1 : w.heap.size < wr.heap.size := hsz
      have k2 : (wr.alloc (.cells #[.int .i64 l[j].1, .int .i64 l[j].2] 68)).cell? ⟨w.heap.size, 0, none⟩ = some (.int .i64 p.1) := (World.cell?_alloc_lt _ _ _ hsz1).trans k0
      have k3 : (wr.alloc (.cells #[.int .i64 l[j].1, .int .i64 l[j].2] 68)).cell? ⟨w.heap.size, 1, none⟩ = some (.int .i64 p.2) := (World.cell?_alloc_lt _ _ _ hsz1).trans k1
      clear d1 d2 hd
      by_cases q1 : l[j].1 ≤ p.1
      · have R := Lib.hid (isCurve_off S1.out (.inl q1))
        go_wp2_with fail
        go_ret
        exact ⟨by rw [R.out]; rfl, by have := B.out; go_grown⟩
      · by_cases q2 : l[j].2 ≤ p.2
        · have R := Lib.hid (isCurve_off S1.out (.inr q2))
          go_wp2_with fail
          go_ret
          exact ⟨by rw [R.out]; rfl, by have := B.out; go_grown⟩
        · have S2 := Lib.hid (S1.out.next (by omega) (by omega))
          go_wp2_with fail
          go_roundg (gk - 1)
          case measure => have := K.out; omega
          case rel => exact ⟨j + 1, l[j], by go_num, by have := K.out; omega, S2.out, by go_cell, by go_cell, by go_simp, by go_simp, by go_size, by have := B.out; go_grown⟩
    · have hj : j = l.length := by omega
      have S1 : Hid (Seeing l p []) := Lib.hid (by have := S.out; rwa [hj, List.drop_length] at this)
      have R := Lib.hid (isCurve_seen S1.out (by omega) (by omega))
      by_cases q1 : p.1 ≤ 30000
      · by_cases q2 : p.2 ≤ 30000
        · have d1 : decide (p.1 ≤ 30000) = true := by simpa using q1
          have d2 : decide (p.2 ≤ 30000) = true := by simpa using q2
          go_wp2_with fail
          go_ret
          exact ⟨by rw [R.out, d1, d2]; rfl, B.out⟩
        · have d1 : decide (p.1 ≤ 30000) = true := by simpa using q1
          have d2 : decide (p.2 ≤ 30000) = false := by simpa using q2
          go_wp2_with fail
          go_ret
          exact ⟨by rw [R.out, d1, d2]; rfl, B.out⟩
      · have d1 : decide (p.1 ≤ 30000) = false := by simpa using q1
        go_wp2_with fail
        go_ret
        exact ⟨by rw [R.out, d1]; rfl, B.out⟩
end Go.Proofs.Ythhdpjkmjebjhab
