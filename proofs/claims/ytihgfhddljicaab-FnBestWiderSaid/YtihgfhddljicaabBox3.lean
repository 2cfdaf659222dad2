/- Blocks of entries of three cells (a bool and two integers). -/
import Derived.Test.YtihgfhddljicaabBox
import Derived.Test.YtihgfhddljicaabTab
namespace Go.Proofs.Ytihgfhddljicaab
open Go.RowKit

abbrev V3 := Bool × Int × Int
def cells3 : List V3 → List Value
  | [] => []
  | p :: l => .bool p.1 :: .int .i64 p.2.1 :: .int .i64 p.2.2 :: cells3 l
theorem cells3_length (l : List V3) : (cells3 l).length = l.length * 3 := by
  induction l with
  | nil => rfl
  | cons p l ih => simp only [cells3, List.length_cons, ih]; omega
theorem cells3_get (l : List V3) (i : Nat) (hi : i < l.length) : (cells3 l)[i * 3]? = some (.bool l[i].1) ∧ (cells3 l)[i * 3 + 1]? = some (.int .i64 l[i].2.1) ∧ (cells3 l)[i * 3 + 2]? = some (.int .i64 l[i].2.2) := by
  induction l generalizing i with
  | nil => simp at hi
  | cons p l ih =>
    cases i with
    | zero => exact ⟨rfl, rfl, rfl⟩
    | succ i =>
      have := ih i (by simpa using hi)
      simp only [cells3, show (i + 1) * 3 = i * 3 + 1 + 1 + 1 by omega, show i * 3 + 1 + 1 + 1 + 1 = (i * 3 + 1) + 1 + 1 + 1 by omega, show i * 3 + 1 + 1 + 1 + 2 = (i * 3 + 2) + 1 + 1 + 1 by omega, List.getElem?_cons_succ, List.getElem_cons_succ]
      exact this
theorem cells3_set {l : List V3} {i : Nat} (hi : i < l.length) (p : V3) : (((cells3 l).set (i * 3) (.bool p.1)).set (i * 3 + 1) (.int .i64 p.2.1)).set (i * 3 + 2) (.int .i64 p.2.2) = cells3 (l.set i p) := by
  induction l generalizing i with
  | nil => simp at hi
  | cons x l ih =>
    cases i with
    | zero => rfl
    | succ i =>
      have := ih (i := i) (by simpa using hi)
      simp only [cells3, List.set_cons_succ, show (i + 1) * 3 = i * 3 + 1 + 1 + 1 by omega, show i * 3 + 1 + 1 + 1 + 1 = (i * 3 + 1) + 1 + 1 + 1 by omega, show i * 3 + 1 + 1 + 1 + 2 = (i * 3 + 2) + 1 + 1 + 1 by omega]
      rw [this]
theorem made3 (n : Nat) : (madeCells #[Value.bool false, Value.int .i64 0, Value.int .i64 0] (n * 3)).toList = cells3 (List.replicate n (false, 0, 0)) := by
  apply List.ext_getElem?
  intro j
  by_cases hj : j < n * 3
  · obtain ⟨c1, c2, c3⟩ := cells3_get (List.replicate n ((false, 0, 0) : V3)) (j / 3) (by simp; omega)
    have h : j % 3 = 0 ∨ j % 3 = 1 ∨ j % 3 = 2 := by omega
    rcases h with h | h | h
    · rw [show j / 3 * 3 = j by omega] at c1
      rw [c1]; simp [madeCells, hj, h]
    · rw [show j / 3 * 3 + 1 = j by omega] at c2
      rw [c2]; simp [madeCells, hj, h]
    · rw [show j / 3 * 3 + 2 = j by omega] at c3
      rw [c3]; simp [madeCells, hj, h]
  · rw [List.getElem?_eq_none (l := cells3 _) (by rw [cells3_length]; simp; omega)]
    simp [madeCells, hj]
/-- Block b holds these cells. -/
def CB (T : TypeId) (w : World) (b : Nat) (cs : List Value) : Prop := w.heap[b]? = some (.cells cs.toArray T (0, 0))
variable {T : TypeId} {w w' : World} {b : Nat} {cs : List Value}
theorem CB.lt (h : CB T w b cs) : b < w.heap.size := (Array.getElem?_eq_some_iff.1 h).1
theorem CB.cell (h : CB T w b cs) (i : Nat) : w.cell? ⟨b, i, none⟩ = cs[i]? := by
  rw [cell_of_row w b i _ _ _ h]; simp
theorem CB.froz (h : CB T w b cs) (i : Nat) : w.frozen? ⟨b, i, none⟩ = false := by
  have h' : w.heap[b]? = some (.cells cs.toArray T (0, 0)) := h
  simp [World.frozen?, h']
theorem CB.set (h : CB T w b cs) (i : Nat) (x : Value) : CB T (w.setCell ⟨b, i, none⟩ x) b (cs.set i x) := by
  unfold CB
  rw [setCell_eq_setRow w b i _ _ _ _ h, List.setIfInBounds_toArray]
  exact setRow_heap w b _ _ T _ h
theorem CB.grow {B : Nat} (h : CB T w b cs) (k : Below B w w') (hb : b < B) : CB T w' b cs := (k.block b hb).trans h
/-- Block b holds these entries. -/
def B3 (T : TypeId) (w : World) (b : Nat) (L : List V3) : Prop := CB T w b (cells3 L)
theorem B3.lt {L : List V3} (h : B3 T w b L) : b < w.heap.size := CB.lt h
theorem B3.cells {L : List V3} (h : B3 T w b L) (i : Nat) (hi : i < L.length) : w.cell? ⟨b, i * 3, none⟩ = some (.bool L[i].1) ∧ w.cell? ⟨b, i * 3 + 1, none⟩ = some (.int .i64 L[i].2.1) ∧ w.cell? ⟨b, i * 3 + 2, none⟩ = some (.int .i64 L[i].2.2) := by
  rw [CB.cell h, CB.cell h, CB.cell h]; exact cells3_get L i hi
theorem B3.froz {L : List V3} (h : B3 T w b L) (i : Nat) : w.frozen? ⟨b, i, none⟩ = false := CB.froz h i
theorem B3.grow {B : Nat} {L : List V3} (h : B3 T w b L) (k : Below B w w') (hb : b < B) : B3 T w' b L := CB.grow h k hb
theorem B3.set {L : List V3} (h : B3 T w b L) (i : Nat) (hi : i < L.length) (p : V3) :
    B3 T (((w.setCell ⟨b, i * 3, none⟩ (.bool p.1)).setCell ⟨b, i * 3 + 1, none⟩ (.int .i64 p.2.1)).setCell ⟨b, i * 3 + 2, none⟩ (.int .i64 p.2.2)) b (L.set i p) := by
  have := ((CB.set h (i * 3) (.bool p.1)).set (i * 3 + 1) (.int .i64 p.2.1)).set (i * 3 + 2) (.int .i64 p.2.2)
  rw [cells3_set hi] at this
  exact this
theorem below3 {B : Nat} {W : World} (h : Below B W w) (hB : B ≤ b) (i j k : Nat) (x y z : Value) : Below B W (((w.setCell ⟨b, i, none⟩ x).setCell ⟨b, j, none⟩ y).setCell ⟨b, k, none⟩ z) :=
  ((h.setCell (p := ⟨b, i, none⟩) hB _).setCell (p := ⟨b, j, none⟩) hB _).setCell (p := ⟨b, k, none⟩) hB _
/-- A slice of the call's own, out of its block. -/
theorem own_block3 {B g n : Nat} {L : List Value} (h : w.ownsRow B T 3 (.slice (some ⟨g, 0, none⟩) n n) n L) : CB T w g L ∧ B ≤ g := by
  obtain ⟨h1, h2⟩ := h
  rcases h2 with ⟨h2, _⟩ | ⟨g', cap, cur, hv, hB, hg, _, _, hs, ht⟩
  · cases h2
  · simp only [Value.slice.injEq, Option.some.injEq, Addr.mk.injEq, and_true] at hv
    obtain ⟨rfl, _, rfl⟩ := hv
    refine ⟨?_, hB⟩
    have e : cur = L.toArray := by
      rw [List.take_of_length_le (by simp [hs])] at ht
      rw [← ht]
    rw [e] at hg
    exact hg
/-- How an entry is written: whether there are allowed cuts, the first of the best ones, their cost. -/
def vEnt (k : Nat) : Ent → V3
  | none => (false, 0, 0)
  | some (0, m) => (true, 0, m)
  | some (d + 1, m) => (true, (k : Int) + (d : Int), m)
/-- One more first cut is looked at. -/
def gathV (x : V3) (first cost : Int) (y : V3) : V3 := if y.1 = false ∨ (x.1 = true ∧ x.2.2 ≤ cost + y.2.2) then x else (true, first, cost + y.2.2)
theorem vEnt_allowed (k : Nat) (e : Ent) : (vEnt k e).1 = e.isSome := by
  match e with
  | none => rfl
  | some (0, _) => rfl
  | some (_ + 1, _) => rfl
theorem vEnt_cost (k : Nat) (p : Nat × Int) : (vEnt k (some p)).2.2 = p.2 := by
  match p with
  | (0, _) => rfl
  | (_ + 1, _) => rfl
theorem vEnt_none (k : Nat) : vEnt k none = (false, 0, 0) := rfl
theorem vEnt_first (k : Nat) {p : Nat × Int} (h : 1 ≤ p.1) : vEnt k (some p) = (true, ((k + p.1 - 1 : Nat) : Int), p.2) := by
  match p, h with
  | (d + 1, m), _ => simp only [vEnt]; congr 2
theorem gathV_is (k j d : Nat) (c : Int) (acc beh : Ent) (hd : 1 ≤ d) : gathV (vEnt k acc) ((k + d - 1 : Nat) : Int) c (vEnt j beh) = vEnt k (gath acc d c beh) := by
  unfold gathV
  cases beh with
  | none => rw [if_pos (.inl (by rw [vEnt_allowed]; rfl))]; rfl
  | some r =>
    cases acc with
    | none =>
      rw [if_neg (by rw [vEnt_allowed, vEnt_allowed]; simp)]
      simp only [gath, vEnt_cost]
      rw [vEnt_first k (p := (d, c + r.2)) hd]
    | some m =>
      simp only [gath, vEnt_cost, vEnt_allowed]
      by_cases h : m.2 ≤ c + r.2
      · rw [if_pos (.inr ⟨rfl, h⟩), if_pos h]
      · rw [if_neg (by simp [h]), if_neg h, vEnt_first k (p := (d, c + r.2)) hd]
end Go.Proofs.Ytihgfhddljicaab
