/- What the walks of the laws on events name. -/
import Derived.Test.YthhdpjkmjebjhabEventI
import Derived.Test.YthhdpjkmjebjhabEventDraws
import Derived.Test.YthhdpjkmjebjhabSameI
namespace Go.Proofs.Ythhdpjkmjebjhab
open Go.RowKit

/-- A list of numbers of the call's own. -/
def GotL (w : World) (m : List Int) (e : Ending) (w' : World) : Prop := ∃ v, e = .returned (.tuple #[v, .bool true]) ∧ IOwn w' w.heap.size v m ∧ Below w.heap.size w w'
/-- .. none. -/
def NoL (w : World) (e : Ending) (w' : World) : Prop := ∃ v, e = .returned (.tuple #[v, .bool false]) ∧ IOwn w' w.heap.size v [] ∧ Below w.heap.size w w'
def ValB (w : World) (v : Value) (e : Ending) (w' : World) : Prop := e = .returned v ∧ Below w.heap.size w w'
variable {w : World} {v u x : Value} {a b : List Ev} {m : List Int} {tol z : Int} {c : Bool}
theorem evI_is (h : Row w v a) (hc : isEv a = c) : Calls Try.prog 85 #[v] w fun e w' => ValB w (.bool c) e w' := by
  have := implEv_any h; rw [hc] at this; exact this
theorem evSB (h : Row w v a) (hc : isEv a = c) : Calls Try.prog 86 #[v] w fun e w' => ValB w (.bool c) e w' := evS_is h hc
theorem okI_is (h : Row w v a) (k : Row w u b) (hm : IRow w x m) (hc : okB a b tol m = c) : Calls Try.prog 48 #[v, u, .int .i64 tol, x] w fun e w' => ValB w (.bool c) e w' := by
  have := implOk_any tol h k hm; rw [hc] at this; exact this
theorem okSB (h : Row w v a) (k : Row w u b) (hm : IRow w x m) (hc : okB a b tol m = c) : Calls Try.prog 49 #[v, u, .int .i64 tol, x] w fun e w' => ValB w (.bool c) e w' := okS_is h k hm hc
theorem bestS_yes (h : Row w v a) (k : Row w u b) (hx : bestEB a b tol = some m) : Calls Try.prog 68 #[v, u, .int .i64 tol] w fun e w' => GotL w m e w' := by
  have := specBest_any tol h k; rw [hx] at this; exact this
theorem bestS_no (h : Row w v a) (k : Row w u b) (hx : bestEB a b tol = none) : Calls Try.prog 68 #[v, u, .int .i64 tol] w fun e w' => NoL w e w' := by
  have := specBest_any tol h k; rw [hx] at this; exact this
theorem elen_n {l : List Ev} (h : Row w v l) : ∃ a c, v = .slice a l.length c ∧ l.length ≤ c ∧ c ≤ 9223372036854775807 := by
  obtain ⟨a, c, e, h1, h2⟩ := h.len
  unfold maxLen at h2
  exact ⟨a, c, e, h1, by omega⟩
theorem len_n {l : List Int} (h : IRow w v l) : ∃ a c, v = .slice a l.length c ∧ l.length ≤ c ∧ c ≤ 9223372036854775807 := by
  obtain ⟨a, c, e, h1, h2⟩ := h.len
  unfold maxLen at h2
  exact ⟨a, c, e, h1, by omega⟩
theorem eknown_n {l : List Ev} (h : Row w v l) (h0 : 0 < l.length) : ∃ g o c, v = .slice (some ⟨g, o, none⟩) l.length c ∧ l.length ≤ c ∧ c ≤ 9223372036854775807 := by
  obtain ⟨g, o, c, e, h1, h2⟩ := h.known h0
  unfold maxLen at h2
  exact ⟨g, o, c, e, h1, by omega⟩
/-- What a matching's number is: none, or a place of the second list. -/
theorem ok_at (h : okB a b tol m = true) {j : Nat} (hj : j < m.length) : m[j] = -1 ∨ (0 ≤ m[j] ∧ m[j] < b.length) := by
  have M := (okB_iff.1 h).2
  have hl := okB_len h
  rcases M.each j hj (by rw [sizes_length]; omega) with k | ⟨k1, k2, _⟩
  · exact .inl k
  · rw [sizes_length] at k2; exact .inr ⟨k1, k2⟩
theorem turned_next {n j : Nat} {l : List Int} (hj : j < l.length) : turned n l (j + 1) = if 0 ≤ l[j] then (turned n l j).set l[j].toNat (j : Int) else turned n l j := by
  simp only [turned, getD_one hj]
end Go.Proofs.Ythhdpjkmjebjhab
