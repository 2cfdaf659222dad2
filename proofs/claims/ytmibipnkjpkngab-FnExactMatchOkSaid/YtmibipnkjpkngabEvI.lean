/- How an argument of the exact laws that is a slice of events is opened: it is a row of events. -/
import Derived.Test.YtmibipnkjpkngabEvP
import Derived.Test.YtmibipnkjpkngabIntE
import Derived.Deep.SlicePairs
import Derived.ChangeArms
namespace Go.Proofs.Ytmibipnkjpkngab
open Go.RowKit Go.Deep Go.ChangeShapes Go.WideShapes

theorem open_pieces {H : Type} {enc : TypeId × Value → H} {P : Program} {w : World} {base : Nat} {spare : Nat → Bool} {held : Bool} {t e : TypeId} {f0 f1 : Field} {a : Option Addr} {len cap : Nat} {d : DataW H} {ps : List MemPlace}
    (ht : P.underlying t = some (.slice e)) (he : P.underlying e = some (.struct #[f0, f1])) (ce : P.cellsOf e = 2) (o0 : f0.offset = 0) (o1 : f1.offset = 1) (c0 : P.cellsOf f0.type = 1) (c1 : P.cellsOf f1.type = 1)
    (i0 : P.underlying f0.type = some (.int .i64)) (i1 : P.underlying f1.type = some (.int .i64))
    (h : DataW.Trod enc P w base spare held t (.slice a len cap) d ps) : ∃ l, Row w (.slice a len cap) l := by
  obtain ⟨fuel, hf⟩ := h
  rcases open_slice_pairs ht he ce o0 o1 c0 c1 hf with ⟨hcs, _⟩ | ⟨x, n, c, m, k, V0, V1, D0, D1, P0, P1, hcs, _, hl, hm, hmm, _, hx⟩
  · simp [Value.cells] at hcs
    obtain ⟨rfl, rfl, rfl⟩ := hcs
    exact ⟨[], none, 0, 0, rfl, rfl, Nat.le_refl _, Nat.zero_le _, .inl rfl⟩
  · simp [Value.cells] at hcs
    obtain ⟨rfl, rfl, rfl⟩ := hcs
    have hlm : len ≤ m := by rw [hmm]; split <;> omega
    have each : ∀ i, i < len → ∃ q : Pc, w.cell? (x.add (i * 2)) = some (.int .i64 q.1) ∧ w.cell? (x.add (i * 2 + 1)) = some (.int .i64 q.2) := by
      intro i hi
      obtain ⟨g0, g1, t0, t1⟩ := hx i (by omega)
      obtain ⟨n0, e0, _, _⟩ := DataW.trod_int i0 t0
      obtain ⟨n1, e1, _, _⟩ := DataW.trod_int i1 t1
      simp at e0 e1
      exact ⟨(n0, n1), by rw [g0, e0], by rw [g1, e1]⟩
    obtain ⟨q, hq⟩ := choose_lt each
    refine ⟨(List.range len).map q, some x, len, cap, rfl, by simp, hl, hm, ?_⟩
    by_cases h0 : len = 0
    · left; simp [h0]
    · have hs := spot_none (hq 0 (by omega)).1
      obtain ⟨b, o, s⟩ := x
      simp [Addr.add] at hs
      subst hs
      right
      refine ⟨b, o, rfl, fun i hi => ?_⟩
      have hi' : i < len := by simpa using hi
      have := hq i hi'
      have ha : ∀ k : Nat, (⟨b, o, none⟩ : Addr).add k = ⟨b, o + k, none⟩ := by
        intro k
        unfold Addr.add
        split
        · rename_i hz; simp_all
        · rfl
      rw [ha, ha] at this
      simpa [Nat.add_assoc] using this
theorem eqs_yes {w : World} {v u : Value} {l m : List Pc} (h : Row w v l) (k : Row w u m) (e : l = m) : Calls Try.prog 27 #[v, u] w fun e w' => Val w (.bool true) e w' :=
  val_is (eqEventS_any h k) (by rw [decide_eq_true e])
end Go.Proofs.Ytmibipnkjpkngab
