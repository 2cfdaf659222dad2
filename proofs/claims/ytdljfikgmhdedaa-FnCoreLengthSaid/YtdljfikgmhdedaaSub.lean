/- Slices of slices of pieces. -/
import Derived.Test.YtdljfikgmhdedaaLive
import Derived.Laws.AppendOwnNone
namespace Go.Proofs.Ytdljfikgmhdedaa
open Go.RowKit

theorem Lies.at {w : World} {a : Option Addr} {l : List Pc} (h : Lies w a l) (h0 : 0 < l.length) : ∃ g o, a = some ⟨g, o, none⟩ := by
  obtain ⟨g, o, e, _⟩ := lies_cell h 0 h0
  exact ⟨g, o, e⟩
/-- All but the first and the last. -/
theorem Row.mid {w : World} {v : Value} {l : List Pc} (h : Row w v l) (h2 : 2 ≤ l.length) :
    ∃ g o c, v = .slice (some ⟨g, o, none⟩) l.length c ∧ l.length ≤ c ∧ c ≤ maxLen ∧ Row w (.slice (some ⟨g, o + 2, none⟩) (l.length - 1 - 1) (c - 1)) l.tail.dropLast := by
  obtain ⟨a, c, rfl, h3, h4, h5⟩ := h.parts
  obtain ⟨g, o, rfl⟩ := h5.at (by omega)
  refine ⟨g, o, c, rfl, h3, h4, some ⟨g, o + 2, none⟩, _, _, rfl, by simp, by omega, by omega, .inr ⟨g, o + 2, rfl, fun i hi => ?_⟩⟩
  simp at hi
  have := h5.all (i + 1) (by omega)
  simp only [List.getElem_dropLast, List.getElem_tail]
  rwa [show o + (i + 1) * 2 = o + 2 + i * 2 by omega] at this
/-- A slice whose address is known: its cells. -/
theorem Row.cells {w : World} {g o n c : Nat} {l : List Pc} (h : Row w (.slice (some ⟨g, o, none⟩) n c) l) (k : Nat) (hk : k < l.length) :
    w.cell? ⟨g, o + k * 2, none⟩ = some (.int .i64 l[k].1) ∧ w.cell? ⟨g, o + k * 2 + 1, none⟩ = some (.int .i64 l[k].2) := by
  obtain ⟨a, n', c', e, h1, h2, h3, h4⟩ := h
  simp only [Value.slice.injEq] at e
  obtain ⟨rfl, _, _⟩ := e
  exact h4.all k hk
theorem Row.known {w : World} {v : Value} {l : List Pc} (h : Row w v l) (h0 : 0 < l.length) : ∃ g o c, v = .slice (some ⟨g, o, none⟩) l.length c ∧ l.length ≤ c ∧ c ≤ maxLen := by
  obtain ⟨a, c, rfl, h3, h4, h5⟩ := h.parts
  obtain ⟨g, o, rfl⟩ := h5.at h0
  exact ⟨g, o, c, rfl, h3, h4⟩
theorem ix_on {e d : Int} {l : List Pc} (h : V e l) (k : Nat) (hk : k < l.length) (h1 : l[k].1 ≤ d) (h2 : d < l[k].2) : ix d l = k := ((ix_spec h k hk).1 ⟨h1, h2⟩).symm
theorem ix_bot {e : Int} {l : List Pc} (h : V e l) (k : Nat) (hk : k < l.length) : ix l[k].2 l = (k : Int) + 1 ∨ ix l[k].2 l = -1 := by
  have hr := ix_range l[k].2 l
  by_cases c : ix l[k].2 l < 0
  · exact .inr (by omega)
  · left
    obtain ⟨j, hj⟩ : ∃ j : Nat, ix l[k].2 l = (j : Int) := ⟨(ix l[k].2 l).toNat, by omega⟩
    have hjl : j < l.length := by omega
    obtain ⟨c1, c2⟩ := (ix_spec h j hjl).2 hj.symm
    rw [hj]
    by_cases e1 : j = k
    · subst e1; omega
    · by_cases e2 : j < k
      · have := h.step j k e2 hk
        have := h.get k hk
        omega
      · by_cases e3 : j = k + 1
        · subst e3; rfl
        · have s1 := h.step k (k + 1) (by omega) (by omega)
          have s2 := h.step (k + 1) j (by omega) hjl
          have := h.get (k + 1) (by omega)
          omega
theorem bt_more {t u : Int} {p : Pc} {m : List Pc} (h : bt t u m ≠ []) : bt t u (p :: m) ≠ [] := by
  simp only [bt]
  split
  · simp
  · exact h
theorem ct_halves {d e : Int} {l m : List Pc} (h : ct d l = some m) (hv : V e l) (he : 0 ≤ e) : bt 0 d m ≠ [] ∧ bt d 30000 m ≠ [] := by
  refine ct_ind (P := fun l m => ∀ e, 0 ≤ e → V e l → bt 0 d m ≠ [] ∧ bt d 30000 m ≠ []) ?_ ?_ h e he hv
  · intro p l h1 h2 e he hv
    have a1 := hv.1; have a3 := hv.2.2.1
    refine ⟨?_, bt_more ?_⟩
    · simp only [bt]; rw [if_pos (by omega)]; simp
    · simp only [bt]; rw [if_pos (by omega)]; simp
  · intro p l m _ _ ih e he hv
    obtain ⟨i1, i2⟩ := ih p.2 (by have := hv.1; have := hv.2.1; omega) hv.2.2.2
    exact ⟨bt_more i1, bt_more i2⟩
/-- A list more behind a slice of the call's own, at an operation with a guard that holds. -/
theorem append_list_g {w : World} {ops : Array Oper} {rest : List Oper} {o : Oper} {a : Act} {Q : Exit → Act → World → Prop} (hw : Region.wanted o (yielded ops a.tmps) = true) (s x : Operand)
    (ho : o.op = .call { callee := .builtin .append, args := #[s, x], argTypes := #[23, 23] }) {B : Nat} (v : Value) (m : List Pc) (hs : a.eval s = v) (hown : Own w B v m)
    (ad : Addr) (n c : Nat) (ms : List Pc) (hx : a.eval x = .slice (some ad) n c) (hn : ms.length = n) (hnews : ∀ j u, (cells2 ms)[j]? = some u → w.cell? (ad.add j) = some u) (hm : m.length + n ≤ 1100000) (hB : B ≤ w.heap.size)
    (h : ∀ v' w', Own w' B v' (m ++ ms) → w.grownBy w' v.ownBlock → wpList Try.prog ops Q rest (a.put o.dst v') w') : wpList Try.prog ops Q (o :: rest) a w := by
  obtain ⟨i0, hi, hz0, hz1, hz2⟩ := info_parts info_piece
  refine wpList_step fun K hK => ?_
  rw [if_pos hw]
  refine wp_append_own w s x 23 ho B 27 i0 (.agg #[.int .i64 0, .int .i64 0]) 2 16 Try.underlying23 hi hz0 hz1 hz2 rfl (by decide) v m.length (cells2 m) hs hown
    ad n c (cells2 ms) hx (by rw [cells2_length, hn]) hnews (cells2_one ms) (by unfold maxLen; omega) (by omega) hB ?_
  intro v' w' h2 h3 _
  refine hK _ _ (h v' w' ?_ h3)
  show w'.ownsRow B _ 2 v' (m ++ ms).length (cells2 (m ++ ms))
  rw [cells2_append, List.length_append, hn]
  exact h2
theorem keep_new {w w' : World} {c : Array Value} {t : TypeId} (h : (w.alloc (.cells c t)).grownBy w' (Value.ownBlock (.slice (some ⟨w.heap.size, 0, none⟩) 0 0))) : Below w.heap.size w w' :=
  ((Below.refl w.heap.size w).alloc (Nat.le_refl _) _).trans ⟨h.os, h.tape, h.output, h.size, fun k hk => h.block k (by simp; omega) (fun e => by simp [Value.ownBlock] at e; omega)⟩
theorem first_last {e : Int} {l : List Pc} (h : V e l) (h0 : 0 < l.length) : l[0].1 ≤ (l[l.length - 1]'(by omega)).2 := by
  have a := h.get 0 h0
  by_cases hh : l.length - 1 = 0
  · simp only [hh]; omega
  · have b := h.step 0 (l.length - 1) (by omega) (by omega)
    have c := h.get (l.length - 1) (by omega)
    omega
theorem Row.take {w : World} {g o n c : Nat} {l : List Pc} (h : Row w (.slice (some ⟨g, o, none⟩) n c) l) (k : Nat) (hk : k ≤ l.length) : Row w (.slice (some ⟨g, o, none⟩) k c) (l.take k) := by
  obtain ⟨a, n', c', e, h1, h2, h3, h4⟩ := h
  simp only [Value.slice.injEq] at e
  obtain ⟨rfl, rfl, rfl⟩ := e
  exact ⟨_, k, c, rfl, by rw [List.length_take]; omega, by omega, h3, h4.take k⟩
theorem Row.drop {w : World} {g o n c : Nat} {l : List Pc} (h : Row w (.slice (some ⟨g, o, none⟩) n c) l) (k : Nat) (hk : k ≤ l.length) : Row w (.slice (some ⟨g, o + k * 2, none⟩) (n - k) (c - k)) (l.drop k) := by
  obtain ⟨a, n', c', e, h1, h2, h3, h4⟩ := h
  simp only [Value.slice.injEq] at e
  obtain ⟨rfl, rfl, rfl⟩ := e
  exact ⟨_, n - k, c - k, rfl, by rw [List.length_drop]; omega, by omega, by omega, h4.drop k⟩
theorem row_empty {w : World} (a : Option Addr) {c : Nat} (h : c ≤ maxLen) : Row w (.slice a 0 c) [] := ⟨a, 0, c, rfl, rfl, Nat.zero_le _, h, .inl rfl⟩
theorem isCore_take {l : List Pc} (h : isCore l = true) (k : Nat) : isCore (l.take k) = true := by
  obtain ⟨h1, h2⟩ := isCore_iff.1 h
  exact isCore_iff.2 ⟨by rw [List.length_take]; omega, h2.take k⟩
theorem isCore_drop {l : List Pc} (h : isCore l = true) (k : Nat) : isCore (l.drop k) = true := by
  obtain ⟨h1, h2⟩ := isCore_iff.1 h
  exact isCore_iff.2 ⟨by rw [List.length_drop]; omega, h2.drop k⟩
theorem isCore_twice {l : List Pc} (h0 : 0 < l.length) : isCore (l ++ [l[l.length - 1]'(by omega)]) = false := by
  cases hc : isCore (l ++ [l[l.length - 1]'(by omega)])
  · rfl
  · exfalso
    have h := (isCore_iff.1 hc).2
    have h1 := h.step (l.length - 1) l.length (by omega) (by simp)
    have h2 := h.get (l.length - 1) (by simp; omega)
    rw [List.getElem_append_left (by omega)] at h1 h2
    simp at h1
    omega
theorem append_none {w : World} {ops : Array Oper} {rest : List Oper} {o : Oper} {a : Act} {Q : Exit → Act → World → Prop} (hgd : o.guard = none) (s x : Operand)
    (ho : o.op = .call { callee := .builtin .append, args := #[s, x], argTypes := #[23, 23] }) {B : Nat} (v : Value) (m : List Pc) (hs : a.eval s = v) (hown : Own w B v m) (hx : a.eval x = .slice none 0 0)
    (h : wpList Try.prog ops Q rest (a.put o.dst v) w) : wpList Try.prog ops Q (o :: rest) a w := by
  obtain ⟨i0, hi, hz0, hz1, hz2⟩ := info_parts info_piece
  exact wpList_append_own_none hgd s x 23 ho B 27 i0 2 Try.underlying23 hi v m.length (cells2 m) hs hown hx h
theorem Own.none_or {w : World} {B : Nat} {v : Value} (h : Own w B v []) : v = .slice none 0 0 ∨ ∃ g c, v = .slice (some ⟨g, 0, none⟩) 0 c ∧ c ≤ maxLen := by
  rcases h.2 with ⟨e, _⟩ | ⟨g, cap, cur, e, _, _, _, hm, _⟩
  · exact .inl e
  · exact .inr ⟨g, cap, e, hm⟩
theorem V.self {e : Int} {p : Pc} {l : List Pc} (h : V e (p :: l)) : V p.1 (p :: l) := ⟨Int.le_refl _, h.2⟩
theorem bt_span {l : List Pc} (h : V 0 l) (h0 : 0 < l.length) : bt l[0].1 (l[l.length - 1]'(by omega)).2 l = l := by
  cases l with
  | nil => simp at h0
  | cons p l =>
    refine bt_all h.self (Int.le_refl _) ?_
    rw [lastB_get (by simp)]
    exact Int.le_refl _
end Go.Proofs.Ytdljfikgmhdedaa
