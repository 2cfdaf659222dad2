/- What the exact laws on slices of pairs share. No program in it. -/
import Derived.Test.YtanfalkpmmkklacPair
import Derived.Test.YtanfalkpmmkklacRegion
import Derived.Test.YtanfalkpmmkklacIntE
import Derived.Test.YtanfalkpmmkklacIntM
import Derived.Deep.Slices
import Derived.Deep.Fields
import Derived.Deep.SlicePairs
import Derived.ChangeArms
namespace Go.Proofs.Ytanfalkpmmkklac
open Go.RowKit Go.Deep Go.ChangeShapes Go.WideShapes

theorem made2 (n : Nat) : (madeCells #[Value.int .i64 0, Value.int .i64 0] (n * 2)).toList = cells2 (List.replicate n (0, 0)) := by
  have h1 : (madeCells #[Value.int .i64 0, Value.int .i64 0] (n * 2)).toList = List.replicate (n * 2) (Value.int .i64 0) := by
    apply List.ext_getElem?
    intro j
    by_cases hj : j < n * 2
    · have h : j % 2 = 0 ∨ j % 2 = 1 := by omega
      rcases h with h | h <;> simp [madeCells, hj, h]
    · simp [madeCells, hj]
  rw [h1]
  induction n with
  | zero => rfl
  | succ n ih =>
    rw [show (n + 1) * 2 = n * 2 + 1 + 1 by omega, List.replicate_succ, List.replicate_succ, List.replicate_succ]
    simp only [cells2]
    rw [← ih]
    exact (by
      have h2 : (madeCells #[Value.int .i64 0, Value.int .i64 0] (n * 2)).toList = List.replicate (n * 2) (Value.int .i64 0) := by
        apply List.ext_getElem?
        intro j
        by_cases hj : j < n * 2
        · have h : j % 2 = 0 ∨ j % 2 = 1 := by omega
          rcases h with h | h <;> simp [madeCells, hj, h]
        · simp [madeCells, hj]
      exact h2)
theorem fill_next {l : List Pc} {i n : Nat} (hl : l.length = n) (hi : i < n) : (l.take i ++ List.replicate (n - i) ((0, 0) : Pc)).set i l[i] = l.take (i + 1) ++ List.replicate (n - (i + 1)) (0, 0) := by
  have h1 : (l.take i).length = i := by rw [List.length_take]; omega
  rw [List.set_append_right _ _ (by omega), h1, Nat.sub_self, show n - i = (n - (i + 1)) + 1 by omega, List.replicate_succ, List.set_cons_zero, List.take_succ_eq_append_getElem (i := i) (by omega), List.append_assoc]
  rfl
theorem take_eq {l m : List Pc} {j : Nat} (h : l.take j = m.take j) (hl : j < l.length) (hm : j < m.length) (e : l[j] = m[j]) : l.take (j + 1) = m.take (j + 1) := by
  rw [List.take_succ_eq_append_getElem hl, List.take_succ_eq_append_getElem hm, h, e]
theorem open_pieces {H : Type} {enc : TypeId × Value → H} {P : Program} {w : World} {base : Nat} {spare : Nat → Bool} {held : Bool} {t e : TypeId} {f0 f1 : Field} {a : Option Addr} {len cap : Nat} {d : DataW H} {ps : List MemPlace}
    (ht : P.underlying t = some (.slice e)) (he : P.underlying e = some (.struct #[f0, f1])) (ce : P.cellsOf e = 2) (o0 : f0.offset = 0) (o1 : f1.offset = 1) (c0 : P.cellsOf f0.type = 1) (c1 : P.cellsOf f1.type = 1)
    (i0 : P.underlying f0.type = some (.int .i64)) (i1 : P.underlying f1.type = some (.int .i64))
    (h : DataW.Trod enc P w base spare held t (.slice a len cap) d ps) : ∃ l, Row w (.slice a len cap) l := by
  obtain ⟨fuel, hf⟩ := h
  rcases open_slice_pairs ht he ce o0 o1 c0 c1 hf with ⟨hcs, _⟩ | ⟨x, n, c, m, k, V0, V1, D0, D1, P0, P1, hcs, _, hl, hm, hmm, _, hx⟩
  · simp [Value.cells] at hcs
    obtain ⟨rfl, rfl, rfl⟩ := hcs
    exact ⟨[], none, 0, 0, rfl, rfl, Nat.le_refl _, Nat.zero_le _, .inl rfl⟩
  · simp [Value.cells] at hcs
    obtain ⟨rfl, rfl, rfl⟩ := hcs
    have hlm : len ≤ m := by rw [hmm]; split <;> omega
    have each : ∀ i, i < len → ∃ q : Pc, w.cell? (x.add (i * 2)) = some (.int .i64 q.1) ∧ w.cell? (x.add (i * 2 + 1)) = some (.int .i64 q.2) := by
      intro i hi
      obtain ⟨g0, g1, t0, t1⟩ := hx i (by omega)
      obtain ⟨n0, e0, _, _⟩ := DataW.trod_int i0 t0
      obtain ⟨n1, e1, _, _⟩ := DataW.trod_int i1 t1
      simp at e0 e1
      exact ⟨(n0, n1), by rw [g0, e0], by rw [g1, e1]⟩
    obtain ⟨q, hq⟩ := choose_lt each
    refine ⟨(List.range len).map q, some x, len, cap, rfl, by simp, hl, hm, ?_⟩
    by_cases h0 : len = 0
    · left; simp [h0]
    · have hs := spot_none (hq 0 (by omega)).1
      obtain ⟨b, o, s⟩ := x
      simp [Addr.add] at hs
      subst hs
      right
      refine ⟨b, o, rfl, fun i hi => ?_⟩
      have hi' : i < len := by simpa using hi
      have := hq i hi'
      have ha : ∀ k : Nat, (⟨b, o, none⟩ : Addr).add k = ⟨b, o + k, none⟩ := by
        intro k
        unfold Addr.add
        split
        · rename_i hz; simp_all
        · rfl
      rw [ha, ha] at this
      simpa [Nat.add_assoc] using this
def marks (z : Int) (n : Nat) : List Pc := (List.range n).map fun (i : Nat) => ((z + 2 * (i : Int), z + 1 + 2 * (i : Int)) : Pc)
theorem marks_length (z : Int) (n : Nat) : (marks z n).length = n := by simp [marks]
theorem mark_next {z : Int} {l : List Pc} {j : Nat} (hj : j < l.length) : (marks z j ++ l.drop j).set j (z + 2 * (j : Int), z + 1 + 2 * (j : Int)) = marks z (j + 1) ++ l.drop (j + 1) := by
  rw [List.set_append_right _ _ (by rw [marks_length]; omega), marks_length, Nat.sub_self, List.drop_eq_getElem_cons hj, List.set_cons_zero]
  simp [marks, List.range_succ]
theorem Own.lies {T : TypeId} {w : World} {B : Nat} {v : Value} {l : List Pc} (h : Own T w B v l) : In B w.heap.size v := h.lt
theorem Own.chg {T : TypeId} {w w' : World} {B : Nat} {v u : Value} {l : List Pc} (h : Own T w B v l) (k : Chg u w w') (hne : ∀ b, v.ownBlock = some b → u.ownBlock ≠ some b) : Own T w' B v l :=
  h.same fun b hb => k.block b (hne b hb)
theorem marks_get (z : Int) {n i : Nat} (h : i < (marks z n).length) : (marks z n)[i] = (z + 2 * (i : Int), z + 1 + 2 * (i : Int)) := by simp [marks]
theorem val_gen {P : Program} {f : FuncId} {a : Array Value} {w : World} {r x : Value} (h : Calls P f a w fun e w' => Val w r e w') (h1 : r = x) : Calls P f a w fun e w' => e = .returned x ∧ Below w.heap.size w w' := by
  subst h1; exact h
theorem lstb_gen {T : TypeId} {P : Program} {f : FuncId} {a : Array Value} {w : World} {b : Bool} {o : Option (List Pc)} {m : List Pc} (h : Calls P f a w fun e w' => LstB T w o e w') (h1 : o.getD [] = m) (h2 : o.isSome = b) :
    Calls P f a w fun e w' => ∃ v, e = .returned (.tuple #[v, .bool b]) ∧ Own T w' w.heap.size v m ∧ Below w.heap.size w w' := by
  subst h1 h2; exact h
end Go.Proofs.Ytanfalkpmmkklac
