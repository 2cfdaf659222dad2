/- Slices of slices of pieces. -/
import Derived.Test.YtdljfikgmhdedaaLive
namespace Go.Proofs.Ytdljfikgmhdedaa
open Go.RowKit

theorem Lies.at {w : World} {a : Option Addr} {l : List Pc} (h : Lies w a l) (h0 : 0 < l.length) : ∃ g o, a = some ⟨g, o, none⟩ := by
  obtain ⟨g, o, e, _⟩ := lies_cell h 0 h0
  exact ⟨g, o, e⟩
/-- All but the first and the last. -/
theorem Row.mid {w : World} {v : Value} {l : List Pc} (h : Row w v l) (h2 : 2 ≤ l.length) :
    ∃ g o c, v = .slice (some ⟨g, o, none⟩) l.length c ∧ l.length ≤ c ∧ c ≤ maxLen ∧ Row w (.slice (some ⟨g, o + 2, none⟩) (l.length - 1 - 1) (c - 1)) l.tail.dropLast := by
  obtain ⟨a, c, rfl, h3, h4, h5⟩ := h.parts
  obtain ⟨g, o, rfl⟩ := h5.at (by omega)
  refine ⟨g, o, c, rfl, h3, h4, some ⟨g, o + 2, none⟩, _, _, rfl, by simp, by omega, by omega, .inr ⟨g, o + 2, rfl, fun i hi => ?_⟩⟩
  simp at hi
  have := h5.all (i + 1) (by omega)
  simp only [List.getElem_dropLast, List.getElem_tail]
  rwa [show o + (i + 1) * 2 = o + 2 + i * 2 by omega] at this
/-- A slice whose address is known: its cells. -/
theorem Row.cells {w : World} {g o n c : Nat} {l : List Pc} (h : Row w (.slice (some ⟨g, o, none⟩) n c) l) (k : Nat) (hk : k < l.length) :
    w.cell? ⟨g, o + k * 2, none⟩ = some (.int .i64 l[k].1) ∧ w.cell? ⟨g, o + k * 2 + 1, none⟩ = some (.int .i64 l[k].2) := by
  obtain ⟨a, n', c', e, h1, h2, h3, h4⟩ := h
  simp only [Value.slice.injEq] at e
  obtain ⟨rfl, _, _⟩ := e
  exact h4.all k hk
theorem Row.known {w : World} {v : Value} {l : List Pc} (h : Row w v l) (h0 : 0 < l.length) : ∃ g o c, v = .slice (some ⟨g, o, none⟩) l.length c ∧ l.length ≤ c ∧ c ≤ maxLen := by
  obtain ⟨a, c, rfl, h3, h4, h5⟩ := h.parts
  obtain ⟨g, o, rfl⟩ := h5.at h0
  exact ⟨g, o, c, rfl, h3, h4⟩
theorem ix_on {e d : Int} {l : List Pc} (h : V e l) (k : Nat) (hk : k < l.length) (h1 : l[k].1 ≤ d) (h2 : d < l[k].2) : ix d l = k := ((ix_spec h k hk).1 ⟨h1, h2⟩).symm
theorem ix_bot {e : Int} {l : List Pc} (h : V e l) (k : Nat) (hk : k < l.length) : ix l[k].2 l = (k : Int) + 1 ∨ ix l[k].2 l = -1 := by
  have hr := ix_range l[k].2 l
  by_cases c : ix l[k].2 l < 0
  · exact .inr (by omega)
  · left
    obtain ⟨j, hj⟩ : ∃ j : Nat, ix l[k].2 l = (j : Int) := ⟨(ix l[k].2 l).toNat, by omega⟩
    have hjl : j < l.length := by omega
    obtain ⟨c1, c2⟩ := (ix_spec h j hjl).2 hj.symm
    rw [hj]
    by_cases e1 : j = k
    · subst e1; omega
    · by_cases e2 : j < k
      · have := h.step j k e2 hk
        have := h.get k hk
        omega
      · by_cases e3 : j = k + 1
        · subst e3; rfl
        · have s1 := h.step k (k + 1) (by omega) (by omega)
          have s2 := h.step (k + 1) j (by omega) hjl
          have := h.get (k + 1) (by omega)
          omega
theorem bt_more {t u : Int} {p : Pc} {m : List Pc} (h : bt t u m ≠ []) : bt t u (p :: m) ≠ [] := by
  simp only [bt]
  split
  · simp
  · exact h
theorem ct_halves {d e : Int} {l m : List Pc} (h : ct d l = some m) (hv : V e l) (he : 0 ≤ e) : bt 0 d m ≠ [] ∧ bt d 30000 m ≠ [] := by
  refine ct_ind (P := fun l m => ∀ e, 0 ≤ e → V e l → bt 0 d m ≠ [] ∧ bt d 30000 m ≠ []) ?_ ?_ h e he hv
  · intro p l h1 h2 e he hv
    have a1 := hv.1; have a3 := hv.2.2.1
    refine ⟨?_, bt_more ?_⟩
    · simp only [bt]; rw [if_pos (by omega)]; simp
    · simp only [bt]; rw [if_pos (by omega)]; simp
  · intro p l m _ _ ih e he hv
    obtain ⟨i1, i2⟩ := ih p.2 (by have := hv.1; have := hv.2.1; omega) hv.2.2.2
    exact ⟨bt_more i1, bt_more i2⟩
theorem V.self {e : Int} {p : Pc} {l : List Pc} (h : V e (p :: l)) : V p.1 (p :: l) := ⟨Int.le_refl _, h.2⟩
theorem bt_span {l : List Pc} (h : V 0 l) (h0 : 0 < l.length) : bt l[0].1 (l[l.length - 1]'(by omega)).2 l = l := by
  cases l with
  | nil => simp at h0
  | cons p l =>
    refine bt_all h.self (Int.le_refl _) ?_
    rw [lastB_get (by simp)]
    exact Int.le_refl _
end Go.Proofs.Ytdljfikgmhdedaa
