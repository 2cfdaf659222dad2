/- Fractions that lie in blocks of the law's own. -/
import Derived.Test.YthhdpjkmjebjhabFracIn
import Derived.Deep.RegionHeld3
namespace Go.Proofs.Ythhdpjkmjebjhab
open Go.RowKit

/-- Each block of the list holds its fraction. -/
def Holds (w : World) : List (Nat × Int × Int) → Prop
  | [] => True
  | (k, n, d) :: l => (w.cell? ⟨k, 0, none⟩ = some (.int .i64 n) ∧ w.cell? ⟨k, 1, none⟩ = some (.int .i64 d) ∧ w.frozen? ⟨k, 0, none⟩ = false ∧ w.frozen? ⟨k, 1, none⟩ = false ∧ k < w.heap.size) ∧ Holds w l
theorem Holds.next {w w' : World} (b : Below w.heap.size w w') : ∀ {l : List (Nat × Int × Int)}, Holds w l → Holds w' l
  | [], _ => trivial
  | (_, _, _) :: _, ⟨⟨c0, c1, f0, f1, hk⟩, h⟩ => ⟨⟨(b.cell hk).trans c0, (b.cell hk).trans c1, (b.frozen hk).trans f0, (b.frozen hk).trans f1, Nat.lt_of_lt_of_le hk b.size⟩, Holds.next b h⟩
theorem Holds.alloc {w : World} {l : List (Nat × Int × Int)} (h : Holds w l) (n d : Int) (t : TypeId) : Holds (w.alloc (.cells #[.int .i64 n, .int .i64 d] t)) ((w.heap.size, n, d) :: l) :=
  ⟨⟨by go_cell, by go_cell, by go_simp, by go_simp, by simp⟩, h.next ((Below.refl _ _).alloc (Nat.le_refl _) _)⟩
theorem Holds.nil (w : World) : Holds w [] := trivial
theorem Holds.drew {w : World} {l : List (Nat × Int × Int)} (h : Holds w l) : Holds w.drew l := h.next ((Below.refl _ _).drew)
/-- A law's own state: what was there when it began is there, and its blocks hold their fractions. -/
structure St (w0 w : World) (l : List (Nat × Int × Int)) : Prop where
  below : Below w0.heap.size w0 w
  holds : Holds w l
theorem St.start {w0 w : World} (h : Below w0.heap.size w0 w) : St w0 w [] := ⟨h, trivial⟩
theorem St.alloc {w0 w : World} {l : List (Nat × Int × Int)} (h : St w0 w l) (n d : Int) : St w0 (w.alloc (.cells #[.int .i64 n, .int .i64 d] 41)) ((w.heap.size, n, d) :: l) :=
  ⟨h.below.alloc h.below.size _, h.holds.alloc n d _⟩
theorem St.next {w0 w w' : World} {l : List (Nat × Int × Int)} (h : St w0 w l) (b : Below w.heap.size w w') : St w0 w' l :=
  ⟨h.below.trans (b.mono h.below.size), h.holds.next b⟩
/-- A block of another make. -/
theorem St.alloc1 {w0 w : World} {l : List (Nat × Int × Int)} (h : St w0 w l) (c : Array Value) (t : TypeId) : St w0 (w.alloc (.cells c t)) l :=
  ⟨h.below.alloc h.below.size _, h.holds.next ((Below.refl _ _).alloc (Nat.le_refl _) _)⟩
theorem St.drew {w0 w : World} {l : List (Nat × Int × Int)} (h : St w0 w l) : St w0 w.drew l := ⟨h.below.drew, h.holds.drew⟩
theorem fits_yes {n d : Int} {r : Rat} (h : fv n d = true) (e : fq n d = r) : fits r = true := by rw [← e]; exact fq_fits h
theorem frac_any (n : Int) (w : World) :
    Calls Try.prog 24 #[.int .i64 n] w fun e w' => e = .returned (.agg #[.int .i64 n, .int .i64 1]) ∧ Below w.heap.size w w' := by
  go_enter Try.func24, Try.ntmps24
  go_wp2
  go_returns
  exact ⟨rfl, by go_grown⟩
theorem fq_none : fq 0 1 = 0 := Rat.zero_divInt 1
theorem fq_unit : fq 1 1 = 1 := by rw [fq_whole]; rfl
theorem fv_none : fv 0 1 = true := by decide
theorem fv_unit : fv 1 1 = true := by decide
theorem fq_below {n d : Int} (h : fv n d = true) : n < 0 ↔ fq n d < 0 := by
  have := fq_lt h fv_none
  rw [fq_none] at this
  rw [← this]; omega
theorem fv_neg' {a b : Int} (h : fv a b = true) : fv (-a) b = true ∧ fq (-a) b = - fq a b := by
  have := fv_neg h
  rwa [Int.zero_sub] at this
theorem fv_double {a b : Int} (h : fv a b = true) : fv (2 * a) (2 * b) = false := by
  cases k : fv (2 * a) (2 * b)
  · rfl
  · have e1 := (fv_iff.1 k).2.2.2.2
    rw [Int.gcd_mul_left, (fv_iff.1 h).2.2.2.2] at e1
    exact absurd e1 (by decide)
/-- A fraction that has the value of a quotient, multiplied crosswise. -/
theorem of_cross {n d a b : Int} (h : fv n d = true) (e : fq n d = Rat.divInt a b) (hb : b ≠ 0) : n * b = a * d := by
  have p := fv_part h
  unfold fq at e
  exact (Rat.divInt_eq_divInt_iff (by omega) hb).1 e
end Go.Proofs.Ythhdpjkmjebjhab
