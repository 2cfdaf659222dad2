/- The contracts of the program's functions on curves: the straight parts, as functions. -/
import Derived.Test.YthpfehjjaamkkadCurveImpl
import Derived.Laws.NewBlocks
namespace Go.Proofs.Ythpfehjjaamkkad
open Go.RowKit

/-- At a return of a fraction that lies in a result's block (slot s) and of a word (slot s + 1). -/
theorem back_at (s : Nat) {fn : Func} (hf : fn.results = #[.cell s 25, .tmp (s + 1)]) {a : Act} {w : World} {k : Nat} {x y b : Value} {R : Ending → World → Prop}
    (h4 : a.tmps.getD s undef = .pointer (some ⟨k, 0, none⟩)) (h5 : a.tmps.getD (s + 1) undef = b) (c0 : w.cell? ⟨k, 0, none⟩ = some x) (c1 : w.cell? ⟨k, 1, none⟩ = some y)
    (hd : a.defers = []) (hR : R (.returned (.tuple #[.agg #[x, y], b])) w) : bodyPost Try.prog fn R .ret a w := by
  rw [Array.getD_eq_getD_getElem?] at h4 h5
  refine bodyPost_ret (v := .tuple #[.agg #[x, y], b]) ?_ hd hR
  simp [results, hf, go_sem, h4, h5, c0, c1]
theorem seg_div {p q : Pc} {n d : Int} (h : p.1 < q.1) (hd : 0 < d) :
    seg p q (fq n d) = Rat.divInt (p.2 * (q.1 - p.1) * d + (n - p.1 * d) * (q.2 - p.2)) ((q.1 - p.1) * d) := by
  have a := rat_lt h
  have b := rat_lt hd
  have h3 : (q.1 : Rat) - (p.1 : Rat) ≠ 0 := by grind
  have h4 : (d : Rat) ≠ 0 := by have : ((0 : Int) : Rat) = 0 := rfl; grind
  have e : fq n d = (n : Rat) / (d : Rat) := Rat.divInt_eq_div n d
  rw [Rat.divInt_eq_div, e]
  simp only [Rat.intCast_add, Rat.intCast_mul, Rat.intCast_sub]
  unfold seg; grind
theorem prod_le {a b A B : Int} (h0 : 0 ≤ a) (h1 : a ≤ A) (k0 : 0 ≤ b) (k1 : b ≤ B) : 0 ≤ a * b ∧ a * b ≤ A * B :=
  ⟨Int.mul_nonneg h0 k0, Int.mul_le_mul h1 k1 k0 (by omega)⟩

end Go.Proofs.Ythpfehjjaamkkad
