/- The draw of two numbers for a division. -/
import Derived.Test.YtahiidepegdnmaaFracDraws
namespace Go.Proofs.Ytahiidepegdnmaa
open Go.RowKit

/-- What a draw of two numbers out of a code comes to. -/
def DrewInts (w w' : World) (e : Ending) : Prop :=
  ∃ x y : Int, e = .returned (.tuple #[.int .i64 x, .int .i64 y]) ∧ (-9223372036854775808 ≤ x ∧ x ≤ 4000000000000000001 ∧ -20 ≤ y ∧ y ≤ 2000000000000000000) ∧ Below w.heap.size w w'
theorem kept_at {b : Nat} {W w' : World} {k i : Nat} {C : Array Value} {t : TypeId} {v : Value} (h : Keep b W w') (hk : k ≠ b) (hW : W.heap[k]? = some (.cells C t)) (hv : C[i]? = some v) :
    w'.cell? ⟨k, i, none⟩ = some v ∧ w'.heap[k]? = some (.cells C t) ∧ k < w'.heap.size := by
  have hl : k < W.heap.size := by
    rcases Nat.lt_or_ge k W.heap.size with z | z
    · exact z
    · rw [Array.getElem?_eq_none z] at hW; cases hW
  have e := (h.block k hl hk).trans hW
  refine ⟨?_, e, Nat.lt_of_lt_of_le hl h.size⟩
  unfold World.cell?
  simp [e, hv]
theorem top_at (X : World) (o : Obj) : (X.alloc o).heap[X.heap.size]? = some o := by
  show (X.heap.push o)[X.heap.size]? = _
  simp
theorem under_at {X : World} {k : Nat} {o : Obj} (p : Obj) (h : X.heap[k]? = some o) : (X.alloc p).heap[k]? = some o := by
  have hl : k < X.heap.size := by
    rcases Nat.lt_or_ge k X.heap.size with z | z
    · exact z
    · rw [Array.getElem?_eq_none z] at h; cases h
  exact (Below.heap_alloc X p k hl).trans h
theorem top_at2 (X : World) (p o : Obj) : ((X.alloc p).alloc o).heap[X.heap.size + 1]? = some o := by
  have h := top_at (X.alloc p) o
  rwa [World.size_alloc] at h
theorem drew_at {X : World} {k : Nat} {o : Obj} (h : X.heap[k]? = some o) : X.drew.heap[k]? = some o := h
theorem three_cells (a b c : Int) (q : Int) (h0 : 0 ≤ q) (h1 : q < 3) : ∃ v : Int, Hid (v = a ∨ v = b ∨ v = c) ∧ (#[.int .i64 a, .int .i64 b, .int .i64 c] : Array Value)[q.toNat]? = some (.int .i64 v) := by
  have h : q = 0 ∨ q = 1 ∨ q = 2 := by omega
  rcases h with rfl | rfl | rfl
  · exact ⟨_, .inl rfl, rfl⟩
  · exact ⟨_, .inr (.inl rfl), rfl⟩
  · exact ⟨_, .inr (.inr rfl), rfl⟩
theorem three_list {q : Nat} {v a b c : Value} (h : q < [a, b, c].length) (hv : (#[a, b, c] : Array Value)[q]? = some v) : [a, b, c][q] = v := by simpa [List.getElem?_eq_getElem h] using hv
set_option maxHeartbeats 8000000 in
theorem DrawFracOf_any {w : World} {a : Option Addr} {len cap : Nat} (h : Bytes w a len cap) :
    Calls Try.prog 12 #[.slice a len cap] w fun e w' => DrewInts w w' e := by
  go_enter Try.func12, Try.ntmps12
  go_wp2_with fail
  refine (open_any h).mono ?_
  rintro e w1 ⟨rfl, a1, b1, s1⟩
  go_wp2_with fail
  refine (pick_at _ a1 (by omega)).mono ?_
  rintro e w2 ⟨r, rfl, r0, r1, _, a2, k2⟩
  replace r1 := r1 (by decide)
  replace b1 := k2.below b1 (Nat.le_refl _) (by omega)
  by_cases z : r = 0
  · subst z
    go_wp2_with fail
    refine (pick_at _ a2 (by omega)).mono ?_
    rintro e w3 ⟨q, rfl, q0, q1, _, a3, k3⟩
    replace q1 := q1 (by decide)
    go_wp2
    go_ret2
    exact ⟨_, _, rfl, by omega, k3.below b1 (Nat.le_refl _) b1.size⟩
  · have z0 : (r == 0) = false := by simpa using z
    by_cases z1 : r = 1
    · subst z1
      go_wp2
      have s2 := b1.size
      have lt2 := a2.lt
      have tok : True := trivial
      go_region_with (first
        | (have _t := tok; clear tok _t; go_at_call 33; refine (pick_at (m := 9) (b := w.heap.size) _ ?_ (by decide)).mono ?_; (first | exact (a2.mono (by omega)).drew | exact ((a2.mono (by omega)).alloc _).drew | exact (((a2.mono (by omega)).alloc _).alloc _).drew); rintro e w3 ⟨q, rfl, q0, q1, _, a3, k3⟩; replace q1 := q1 (by decide); obtain ⟨x, hx, hv⟩ := three_cells 4000000000000000000 4000000000000000001 (-9223372036854775808) q q0 q1; have hl := three_list (by simp; omega) hv; have B3 : Below w.heap.size w w3 := k3.below (by go_grown) (Nat.le_refl _) (by go_size); have s3 := B3.size; have lt3 := a3.lt; (try ((first | (have f1 := kept_at (C := #[.int .i64 4000000000000000000, .int .i64 4000000000000000001, .int .i64 (-9223372036854775808)]) k3 (by omega) (drew_at (top_at w2 _)) hv) | (have f1 := kept_at (C := #[.int .i64 4000000000000000000, .int .i64 4000000000000000001, .int .i64 (-9223372036854775808)]) k3 (by omega) (drew_at (under_at _ (top_at w2 _))) hv) | (have f1 := kept_at (C := #[.int .i64 4000000000000000000, .int .i64 4000000000000000001, .int .i64 (-9223372036854775808)]) k3 (by omega) (drew_at (top_at2 w2 _ _)) hv)); obtain ⟨f1, g1, l1⟩ := f1)); (try ((first | (have f2 := kept_at (C := #[.int .i64 2000000000000000000, .int .i64 1, .int .i64 8000000000]) k3 (by omega) (drew_at (top_at w2 _)) (i := 0) (v := .int .i64 2000000000000000000) rfl) | (have f2 := kept_at (C := #[.int .i64 2000000000000000000, .int .i64 1, .int .i64 8000000000]) k3 (by omega) (drew_at (under_at _ (top_at w2 _))) (i := 0) (v := .int .i64 2000000000000000000) rfl) | (have f2 := kept_at (C := #[.int .i64 2000000000000000000, .int .i64 1, .int .i64 8000000000]) k3 (by omega) (drew_at (top_at2 w2 _ _)) (i := 0) (v := .int .i64 2000000000000000000) rfl)); obtain ⟨_, g2, l2⟩ := f2)))
        | (go_at_call 33; refine (pick_at (m := 10) (b := w.heap.size) _ ?_ (by decide)).mono ?_; (first | exact a3 | exact a3.alloc _ | exact (a3.alloc _).alloc _); rintro e w4 ⟨p, rfl, p0, p1, _, a4, k4⟩; replace p1 := p1 (by decide); obtain ⟨y, hy, hu⟩ := three_cells 2000000000000000000 1 8000000000 p p0 p1; have hk := three_list (by simp; omega) hu; have B4 : Below w.heap.size w w4 := k4.below (by go_grown) (Nat.le_refl _) (by go_size); have s4 := B4.size; (try ((first | (have f3 := kept_at (C := #[.int .i64 4000000000000000000, .int .i64 4000000000000000001, .int .i64 (-9223372036854775808)]) k4 (by omega) (top_at w3 _) hv) | (have f3 := kept_at (C := #[.int .i64 4000000000000000000, .int .i64 4000000000000000001, .int .i64 (-9223372036854775808)]) k4 (by omega) (under_at _ (top_at w3 _)) hv) | (have f3 := kept_at (C := #[.int .i64 4000000000000000000, .int .i64 4000000000000000001, .int .i64 (-9223372036854775808)]) k4 (by omega) (top_at2 w3 _ _) hv) | (have f3 := kept_at (C := #[.int .i64 4000000000000000000, .int .i64 4000000000000000001, .int .i64 (-9223372036854775808)]) k4 (by omega) (g1) hv) | (have f3 := kept_at (C := #[.int .i64 4000000000000000000, .int .i64 4000000000000000001, .int .i64 (-9223372036854775808)]) k4 (by omega) (under_at _ g1) hv)); obtain ⟨f3, g3, l3⟩ := f3)); (try ((first | (have f4 := kept_at (C := #[.int .i64 2000000000000000000, .int .i64 1, .int .i64 8000000000]) k4 (by omega) (top_at w3 _) hu) | (have f4 := kept_at (C := #[.int .i64 2000000000000000000, .int .i64 1, .int .i64 8000000000]) k4 (by omega) (under_at _ (top_at w3 _)) hu) | (have f4 := kept_at (C := #[.int .i64 2000000000000000000, .int .i64 1, .int .i64 8000000000]) k4 (by omega) (top_at2 w3 _ _) hu) | (have f4 := kept_at (C := #[.int .i64 2000000000000000000, .int .i64 1, .int .i64 8000000000]) k4 (by omega) (g2) hu) | (have f4 := kept_at (C := #[.int .i64 2000000000000000000, .int .i64 1, .int .i64 8000000000]) k4 (by omega) (under_at _ g2) hu)); obtain ⟨f4, g4, l4⟩ := f4))))
      all_goals
        go_wp2
        go_ret2
        exact ⟨x, y, rfl, by have e1 := hx.out; have e2 := hy.out; omega, by go_grown⟩
    · have z2 : (r == 1) = false := by simpa using z1
      go_wp2_with fail
      refine (pick_at _ a2 (by omega)).mono ?_
      rintro e w3 ⟨q, rfl, q0, q1, _, a3, k3⟩
      replace q1 := q1 (by decide)
      replace b1 := k3.below b1 (Nat.le_refl _) b1.size
      go_wp2_with fail
      refine (pick_at _ a3 (by omega)).mono ?_
      rintro e w4 ⟨p, rfl, p0, p1, _, a4, k4⟩
      replace p1 := p1 (by decide)
      go_wp2
      go_ret2
      exact ⟨_, _, rfl, by omega, k4.below b1 (Nat.le_refl _) b1.size⟩
end Go.Proofs.Ytahiidepegdnmaa
