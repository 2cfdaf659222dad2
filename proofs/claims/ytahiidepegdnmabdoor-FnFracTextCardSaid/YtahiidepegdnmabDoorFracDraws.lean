/- The draws of fractions, out of a code. -/
import Derived.Test.YtahiidepegdnmabDoorFracDraw
namespace Go.Proofs.YtahiidepegdnmabDoor
open Go.RowKit

/-- At a return of two fractions. -/
theorem back_fracs {fn : Func} (hf : fn.results = #[.cell 2 24, .cell 3 24]) {a : Act} {w : World} {k l : Nat} {x y u v : Value} {R : Ending → World → Prop}
    (h4 : a.tmps.getD 2 undef = .pointer (some ⟨k, 0, none⟩)) (h5 : a.tmps.getD 3 undef = .pointer (some ⟨l, 0, none⟩)) (c0 : w.cell? ⟨k, 0, none⟩ = some x) (c1 : w.cell? ⟨k, 1, none⟩ = some y)
    (e0 : w.cell? ⟨l, 0, none⟩ = some u) (e1 : w.cell? ⟨l, 1, none⟩ = some v)
    (hd : a.defers = []) (hR : R (.returned (.tuple #[.agg #[x, y], .agg #[u, v]])) w) : bodyPost Tryd.prog fn R .ret a w := by
  rw [Array.getD_eq_getD_getElem?] at h4 h5
  refine bodyPost_ret (v := .tuple #[.agg #[x, y], .agg #[u, v]]) ?_ hd hR
  simp [results, hf, go_sem, h4, h5, c0, c1, e0, e1]
theorem set_past {w : World} {k l : Nat} {i : Nat} {x y u : Value} (h : k < l ∨ l < k) (c : w.cell? ⟨k, i, none⟩ = some u) : ((w.setCell ⟨l, 0, none⟩ x).setCell ⟨l, 1, none⟩ y).cell? ⟨k, i, none⟩ = some u := by
  rw [World.cell?_setCell_other _ _ _ _ (by simp <;> omega), World.cell?_setCell_other _ _ _ _ (by simp <;> omega)]; exact c
def small (n d : Int) : Prop := -1000000000 ≤ n ∧ n ≤ 1000000000 ∧ -1000000000 ≤ d ∧ d ≤ 1000000000
/-- What a draw of two fractions comes to. -/
def DrawnFracs (w w' : World) (b m : Nat) (e : Ending) : Prop :=
  ∃ n d n' d' : Int, e = .returned (.tuple #[.agg #[.int .i64 n, .int .i64 d], .agg #[.int .i64 n', .int .i64 d']]) ∧ small n d ∧ small n' d' ∧ At w' b m ∧ Keep b w w'
theorem Bytes.below {w w' : World} {a : Option Addr} {len cap : Nat} (h : Bytes w a len cap) (b : Below w.heap.size w w') : Bytes w' a len cap := by
  rcases h with h | ⟨x, h1, h2, h3, h4, h5⟩
  · exact .inl h
  · refine .inr ⟨x, h1, h2, h3, ?_, fun i hi => ?_⟩
    · rcases h4 with h4 | h4
      · exact .inl h4
      · exact .inr (Nat.lt_of_lt_of_le h4 b.size)
    · obtain ⟨z, hz, hz'⟩ := h5 i hi
      exact ⟨z, (b.cell (lt_of_cell hz)).trans hz, hz'⟩
/-- What a draw of two fractions out of a code comes to. -/
def DrewFracs (w w' : World) (e : Ending) : Prop :=
  ∃ n d n' d' : Int, e = .returned (.tuple #[.agg #[.int .i64 n, .int .i64 d], .agg #[.int .i64 n', .int .i64 d']]) ∧ small n d ∧ small n' d' ∧ Below w.heap.size w w'
/-- What a draw of a fraction out of a code comes to. -/
def DrewFrac (w w' : World) (e : Ending) : Prop := ∃ n d : Int, e = .returned (.agg #[.int .i64 n, .int .i64 d]) ∧ (-1000000000 ≤ n ∧ n ≤ 1000000000 ∧ -2000000000 ≤ d ∧ d ≤ 2000000000) ∧ Below w.heap.size w w'
end Go.Proofs.YtahiidepegdnmabDoor
