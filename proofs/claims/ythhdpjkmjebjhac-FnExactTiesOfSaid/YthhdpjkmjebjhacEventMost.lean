/- The contracts of the model's functions on events: the number of pairs, the table of the most pairs. -/
import Derived.Test.YthhdpjkmjebjhacEvent
import Derived.Test.YthhdpjkmjebjhacGrid
import Derived.Test.YthhdpjkmjebjhacLate
namespace Go.Proofs.Ythhdpjkmjebjhac
open Go.RowKit

theorem okS_is {w : World} {v u x : Value} {a b : List Ev} {m : List Int} {tol : Int} {c : Bool} (h : Row w v a) (k : Row w u b) (hm : IRow w x m) (hc : okB a b tol m = c) :
    Calls Try.prog 36 #[v, u, .int .i64 tol, x] w fun e w' => Val w (.bool c) e w' := by
  have := specOk_any tol h k hm
  rwa [hc] at this
theorem pairs_step {m : List Int} {j : Nat} (h : j < m.length) : pairs (m.take (j + 1)) = pairs (m.take j) + one (decide (0 ≤ m[j])) := by
  rw [List.take_succ_eq_append_getElem h, pairs_append, pairs_cons]; simp [pairs]
theorem pairs_le (m : List Int) : pairs m ≤ m.length := List.countP_le_length
/-- The most pairs of what is left from two places on. -/
def mf (tol : Int) (s t : List Int) (i k : Nat) : Int := ((most tol (s.drop i) (t.drop k) : Nat) : Int)
theorem mf_end (tol : Int) (s t : List Int) (k : Nat) : mf tol s t s.length k = 0 := by
  unfold mf; rw [List.drop_length, most_nil]; rfl
theorem mf_end' (tol : Int) (s t : List Int) (i : Nat) : mf tol s t i t.length = 0 := by
  unfold mf; rw [List.drop_length, most_nil']; rfl
theorem mf_step {tol : Int} {s t : List Int} {i k : Nat} (hi : i < s.length) (hk : k < t.length) :
    mf tol s t i k = max (max (mf tol s t (i + 1) k) (mf tol s t i (k + 1))) (if like tol s[i] t[k] then mf tol s t (i + 1) (k + 1) + 1 else 0) := by
  unfold mf
  rw [List.drop_eq_getElem_cons hi, List.drop_eq_getElem_cons hk, most_cons]
  split <;> omega
theorem mf_nonneg (tol : Int) (s t : List Int) (i k : Nat) : 0 ≤ mf tol s t i k := Int.natCast_nonneg _
theorem mf_le (tol : Int) (s t : List Int) (i k : Nat) : mf tol s t i k ≤ s.length := by
  have := most_le tol (s.drop i) (t.drop k)
  rw [List.length_drop] at this
  unfold mf; omega
/-- What the table holds while it is filled: the rows from p on are done, and of the row before them the places from q on. -/
def tf (tol : Int) (s t : List Int) (p q i k : Nat) : Int := if p ≤ i ∨ (p = i + 1 ∧ q ≤ k) then mf tol s t i k else 0
theorem tf_start {tol : Int} {s t : List Int} {i k : Nat} (hi : i ≤ s.length) (hk : k ≤ t.length) : tf tol s t s.length t.length i k = 0 := by
  unfold tf
  split
  · rename_i h
    rcases h with h | ⟨_, h⟩
    · rw [show i = s.length by omega]; exact mf_end _ _ _ _
    · rw [show k = t.length by omega]; exact mf_end' _ _ _ _
  · rfl
theorem tf_next {tol : Int} {s t : List Int} {p i k : Nat} (hk : k ≤ t.length) : tf tol s t (p + 1) 0 i k = tf tol s t p t.length i k := by
  unfold tf
  by_cases h : p ≤ i
  · rw [if_pos (by omega), if_pos (.inl h)]
  · rw [if_neg (by omega)]
    split
    · rw [show k = t.length by omega]; exact (mf_end' _ _ _ _).symm
    · rfl
theorem tf_below (tol : Int) (s t : List Int) (p q k : Nat) : tf tol s t (p + 1) q (p + 1) k = mf tol s t (p + 1) k := by
  unfold tf; rw [if_pos (.inl (Nat.le_refl _))]
theorem tf_right (tol : Int) (s t : List Int) (p q : Nat) : tf tol s t (p + 1) (q + 1) p (q + 1) = mf tol s t p (q + 1) := by
  unfold tf; rw [if_pos (.inr ⟨rfl, Nat.le_refl _⟩)]
theorem tf_put {tol : Int} {s t : List Int} {p q : Nat} {x : Int} (hx : x = mf tol s t p q) (i k : Nat) : (if i = p ∧ k = q then x else tf tol s t (p + 1) (q + 1) i k) = tf tol s t (p + 1) q i k := by
  by_cases h : i = p ∧ k = q
  · rw [if_pos h]; obtain ⟨rfl, rfl⟩ := h
    unfold tf; rw [if_pos (.inr ⟨rfl, Nat.le_refl _⟩)]; exact hx
  · rw [if_neg h]
    unfold tf
    by_cases c : p + 1 ≤ i ∨ p + 1 = i + 1 ∧ q + 1 ≤ k
    · rw [if_pos c, if_pos (by omega)]
    · rw [if_neg c, if_neg (by omega)]
theorem tf_put2 {tol : Int} {s t : List Int} {p q : Nat} {x y : Int} (hx : x = mf tol s t p q) (i k : Nat) : (if i = p ∧ k = q then x else (if i = p ∧ k = q then y else tf tol s t (p + 1) (q + 1) i k)) = tf tol s t (p + 1) q i k := by
  rw [← tf_put hx i k]
  by_cases h : i = p ∧ k = q
  · rw [if_pos h, if_pos h]
  · rw [if_neg h, if_neg h, if_neg h]
theorem made_zero {w w1 : World} {B n : Nat} (hown : w1.ownsRow B 3 1 (.slice (some ⟨w.heap.size, 0, none⟩) n n) n (madeCells #[Value.int .i64 0] (n * 1)).toList) : IB 3 w1 w.heap.size ((List.range n).map fun _ => 0) := by
  have e : cells1 ((List.range n).map fun _ => (0 : Int)) = (madeCells #[Value.int .i64 0] (n * 1)).toList := by
    rw [Nat.mul_one, toList_madeCells_one]; simp only [cells1, List.map_map]; exact List.map_const' .. |>.trans (by simp)
  suffices r : IOwn w1 B (.slice (some ⟨w.heap.size, 0, none⟩) n n) ((List.range n).map fun _ => 0) from (own_block r (by simp)).1
  show w1.ownsRow _ _ 1 _ ((List.range n).map fun _ => (0 : Int)).length (cells1 ((List.range n).map fun _ => 0))
  rw [e, List.length_map, List.length_range]; exact hown
/-- The table of the most pairs. -/
def TabE (w : World) (a b : List Ev) (tol : Int) (e : Ending) (w' : World) : Prop :=
  ∃ v gs, e = .returned v ∧ Grid w' w.heap.size v (b.length + 1) gs (mf tol (sizes a) (sizes b)) ∧ gs.length = a.length + 1 ∧ Below w.heap.size w w'
end Go.Proofs.Ythhdpjkmjebjhac
