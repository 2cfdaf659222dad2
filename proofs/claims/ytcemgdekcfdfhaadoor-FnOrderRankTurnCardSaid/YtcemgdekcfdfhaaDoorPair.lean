/- Slices of pairs of integers (structs of two integer fields), whatever their type: those that can be read, and those of the call's own, to which it appends. -/
import Derived.Test.YtcemgdekcfdfhaaDoorRows
import Derived.WalkKit
import Derived.ProofKit
import Derived.OpenShut
import Derived.Below
import Derived.Lib.Hide
import Derived.Deep.QuietTactic
import Derived.BigQuiet
import Derived.Outline
import Derived.Handy
import Derived.WalkSmall
import Derived.Deep.LoopGhost
import Derived.Laws.AppendOwn
import Derived.Laws.AppendOwnNone
import Derived.Laws.OwnMore
import Derived.RegionTactic
import Derived.ChangeAlike
import Derived.OwnWalk
import Derived.Deep.DeepCutAuto
import Derived.Deep.RegionHeld3
namespace Go.Proofs.YtcemgdekcfdfhaaDoor
open Go.RowKit

abbrev Pc := Int × Int
theorem below_drews {B : Nat} {a w : World} (h : Below B a w) (n : Nat) : Below B a (w.drewN n) := ⟨h.os, h.tape, h.output, h.size, h.block⟩
theorem cell_below {w : World} {a : Addr} {v : Value} (h : w.cell? a = some v) : a.block < w.heap.size := by
  unfold World.cell? at h
  rcases Nat.lt_or_ge a.block w.heap.size with k | k
  · exact k
  · simp [Array.getElem?_eq_none k] at h
/-- The cells of a list of pairs. -/
def cells2 : List Pc → List Value
  | [] => []
  | p :: l => .int .i64 p.1 :: .int .i64 p.2 :: cells2 l
theorem cells2_length (l : List Pc) : (cells2 l).length = l.length * 2 := by
  induction l with
  | nil => rfl
  | cons p l ih => simp only [cells2, List.length_cons, ih]; omega
theorem cells2_append (l m : List Pc) : cells2 (l ++ m) = cells2 l ++ cells2 m := by
  induction l with
  | nil => rfl
  | cons p l ih => simp only [List.cons_append, cells2, ih]
theorem cells2_get (l : List Pc) (i : Nat) (hi : i < l.length) : (cells2 l)[i * 2]? = some (.int .i64 l[i].1) ∧ (cells2 l)[i * 2 + 1]? = some (.int .i64 l[i].2) := by
  induction l generalizing i with
  | nil => simp at hi
  | cons p l ih =>
    cases i with
    | zero => exact ⟨rfl, rfl⟩
    | succ i =>
      have := ih i (by simpa using hi)
      simp only [cells2, show (i + 1) * 2 = i * 2 + 1 + 1 by omega, List.getElem?_cons_succ, List.getElem_cons_succ]
      exact this
theorem cells2_one (l : List Pc) : ∀ u ∈ cells2 l, u.oneCell' = true := by
  induction l with
  | nil => intro u hu; simp [cells2] at hu
  | cons p l ih =>
    intro u hu
    simp only [cells2, List.mem_cons] at hu
    rcases hu with rfl | rfl | hu
    · rfl
    · rfl
    · exact ih u hu
theorem cells2_setTop {l : List Pc} {i : Nat} (hi : i < l.length) (x : Int) : (cells2 l).set (i * 2) (.int .i64 x) = cells2 (l.set i (x, l[i].2)) := by
  induction l generalizing i with
  | nil => simp at hi
  | cons p l ih =>
    cases i with
    | zero => rfl
    | succ i => simp only [cells2, List.set_cons_succ, show (i + 1) * 2 = i * 2 + 1 + 1 by omega, List.getElem_cons_succ]; rw [ih (by simpa using hi)]
theorem cells2_setBot {l : List Pc} {i : Nat} (hi : i < l.length) (x : Int) : (cells2 l).set (i * 2 + 1) (.int .i64 x) = cells2 (l.set i (l[i].1, x)) := by
  induction l generalizing i with
  | nil => simp at hi
  | cons p l ih =>
    cases i with
    | zero => rfl
    | succ i => simp only [cells2, List.set_cons_succ, show (i + 1) * 2 + 1 = (i * 2 + 1) + 1 + 1 by omega, List.getElem_cons_succ]; rw [ih (by simpa using hi)]

/-- A slice of the call's own, of elements of the type T, that holds a list of pairs. -/
def Own (T : TypeId) (w : World) (B : Nat) (v : Value) (l : List Pc) : Prop := w.ownsRow B T 2 v l.length (cells2 l)
/-- What the walk asks of a type of pairs and of the type of its slices. -/
structure PairT (T S : TypeId) : Prop where
  info : (Tryd.prog.info? T).map (fun i => (i.zero, i.size, i.bytes)) = some (some (.agg #[.int .i64 0, .int .i64 0]), 2, 16)
  slice : Tryd.prog.underlying S = some (.slice T)
variable {T S : TypeId}
theorem Own.lt {w : World} {B : Nat} {v : Value} {l : List Pc} (h : Own T w B v l) : ∀ k, v.ownBlock = some k → B ≤ k ∧ k < w.heap.size := World.ownsRow.lt h
theorem Own.same {w w' : World} {B : Nat} {v : Value} {l : List Pc} (h : Own T w B v l) (k : ∀ b, v.ownBlock = some b → w'.heap[b]? = w.heap[b]?) : Own T w' B v l := by
  refine ⟨h.1, ?_⟩
  rcases h.2 with hn | ⟨g, cap, cur, rfl, hb, hgg, rest⟩
  · exact .inl hn
  · exact .inr ⟨g, cap, cur, rfl, hb, (k g rfl).trans hgg, rest⟩
theorem Own.grow {w w' : World} {B : Nat} {v : Value} {l : List Pc} (h : Own T w B v l) (k : Below w.heap.size w w') : Own T w' B v l :=
  h.same fun b hb => k.block b (h.lt b hb).2
theorem Own.mono {w : World} {B B' : Nat} {v : Value} {l : List Pc} (h : Own T w B v l) (k : B' ≤ B) : Own T w B' v l := by
  refine ⟨h.1, ?_⟩
  rcases h.2 with hn | ⟨g, cap, cur, rfl, hb, rest⟩
  · exact .inl hn
  · exact .inr ⟨g, cap, cur, rfl, Nat.le_trans k hb, rest⟩
theorem own_new (T : TypeId) {w : World} {B : Nat} (h : B ≤ w.heap.size) : Own T (w.alloc (.cells #[] T)) B (.slice (some ⟨w.heap.size, 0, none⟩) 0 0) [] :=
  World.ownsRow_made _ _ 0 h (by unfold maxLen; omega) rfl
theorem own_one (T : TypeId) {w : World} {B : Nat} (h : B ≤ w.heap.size) (p : Pc) : Own T (w.alloc (.cells #[.int .i64 p.1, .int .i64 p.2] T)) B (.slice (some ⟨w.heap.size, 0, none⟩) 1 1) [p] :=
  World.ownsRow_lit w #[.int .i64 p.1, .int .i64 p.2] 1 h (by unfold maxLen; omega) rfl
theorem own_two (T : TypeId) {w : World} {B : Nat} (h : B ≤ w.heap.size) (p q : Pc) : Own T (w.alloc (.cells #[.int .i64 p.1, .int .i64 p.2, .int .i64 q.1, .int .i64 q.2] T)) B (.slice (some ⟨w.heap.size, 0, none⟩) 2 2) [p, q] :=
  World.ownsRow_lit w #[.int .i64 p.1, .int .i64 p.2, .int .i64 q.1, .int .i64 q.2] 2 h (by unfold maxLen; omega) rfl
theorem own_nil (T : TypeId) (w : World) (B : Nat) : Own T w B (.slice none 0 0) [] := ⟨rfl, .inl ⟨rfl, rfl⟩⟩

/-- The cells of a list of pairs lie from an address on. -/
def Lies (w : World) (a : Option Addr) (l : List Pc) : Prop :=
  l = [] ∨ ∃ g o, a = some ⟨g, o, none⟩ ∧ ∀ i (_ : i < l.length), w.cell? ⟨g, o + i * 2, none⟩ = some (.int .i64 l[i].1) ∧ w.cell? ⟨g, o + i * 2 + 1, none⟩ = some (.int .i64 l[i].2)
/-- A slice that can be read: it holds a list of pairs. -/
def Row (w : World) (v : Value) (l : List Pc) : Prop :=
  ∃ (a : Option Addr) (len cap : Nat), v = .slice a len cap ∧ l.length = len ∧ len ≤ cap ∧ cap ≤ maxLen ∧ Lies w a l
theorem Own.row {w : World} {B : Nat} {v : Value} {l : List Pc} (h : Own T w B v l) : Row w v l := by
  rcases h.2 with ⟨rfl, hn⟩ | ⟨g, cap, cur, rfl, hb, hgg, hn, hm, hs, ht⟩
  · exact ⟨none, 0, 0, rfl, hn, Nat.le_refl _, Nat.zero_le _, .inl (List.eq_nil_of_length_eq_zero hn)⟩
  · refine ⟨some ⟨g, 0, none⟩, l.length, cap, rfl, rfl, hn, hm, .inr ⟨g, 0, rfl, fun i hi => ?_⟩⟩
    obtain ⟨h1, h2⟩ := cells2_get l i hi
    have e : ∀ j, ((⟨g, 0, none⟩ : Addr).add j) = ⟨g, 0 + j, none⟩ := fun j => Addr.add_lit g 0 j
    exact ⟨by rw [← e]; exact World.ownsRow.cells h rfl _ _ h1, by rw [Nat.add_assoc, ← e]; exact World.ownsRow.cells h rfl _ _ h2⟩
theorem Lies.grow {w w' : World} {a : Option Addr} {l : List Pc} (h : Lies w a l) (k : Below w.heap.size w w') : Lies w' a l := by
  rcases h with h | ⟨g, o, e, h4⟩
  · exact .inl h
  · refine .inr ⟨g, o, e, fun i hi => ?_⟩
    obtain ⟨a, b⟩ := h4 i hi
    exact ⟨(k.cell (cell_below a)).trans a, (k.cell (cell_below b)).trans b⟩
theorem Row.grow {w w' : World} {v : Value} {l : List Pc} (h : Row w v l) (k : Below w.heap.size w w') : Row w' v l := by
  obtain ⟨a, len, cap, e, h1, h2, h3, h4⟩ := h
  exact ⟨a, len, cap, e, h1, h2, h3, h4.grow k⟩
theorem lies_cell {w : World} {a : Option Addr} {l : List Pc} (h : Lies w a l) (k : Nat) (hk : k < l.length) :
    ∃ g o, a = some ⟨g, o, none⟩ ∧ w.cell? ⟨g, o + k * 2, none⟩ = some (.int .i64 l[k].1) ∧ w.cell? ⟨g, o + k * 2 + 1, none⟩ = some (.int .i64 l[k].2) := by
  rcases h with rfl | ⟨g, o, e, hc⟩
  · simp at hk
  · exact ⟨g, o, e, hc k hk⟩
/-- The news of an append: the cells of a list that lies in memory. -/
theorem lies_news {w : World} {g o : Nat} {ms : List Pc} (h : ∀ i (_ : i < ms.length), w.cell? ⟨g, o + i * 2, none⟩ = some (.int .i64 ms[i].1) ∧ w.cell? ⟨g, o + i * 2 + 1, none⟩ = some (.int .i64 ms[i].2)) :
    ∀ j u, (cells2 ms)[j]? = some u → w.cell? ((⟨g, o, none⟩ : Addr).add j) = some u := by
  intro j u hu
  rw [Addr.add_lit]
  have hj : j < ms.length * 2 := by have := (List.getElem?_eq_some_iff.1 hu).1; rwa [cells2_length] at this
  obtain ⟨c1, c2⟩ := cells2_get ms (j / 2) (by omega)
  obtain ⟨h1, h2⟩ := h (j / 2) (by omega)
  by_cases e : j % 2 = 0
  · rw [show j = j / 2 * 2 by omega] at hu ⊢
    rw [c1] at hu; rw [h1, hu]
  · rw [show j = j / 2 * 2 + 1 by omega] at hu ⊢
    rw [c2] at hu; rw [← Nat.add_assoc, h2, hu]
theorem Lies.all {w : World} {g o : Nat} {ms : List Pc} (h : Lies w (some ⟨g, o, none⟩) ms) : ∀ i (_ : i < ms.length), w.cell? ⟨g, o + i * 2, none⟩ = some (.int .i64 ms[i].1) ∧ w.cell? ⟨g, o + i * 2 + 1, none⟩ = some (.int .i64 ms[i].2) := by
  rcases h with rfl | ⟨g', o', e, hc⟩
  · intro i hi; simp at hi
  · simp only [Option.some.injEq, Addr.mk.injEq, and_true] at e
    obtain ⟨rfl, rfl⟩ := e
    exact hc
theorem Lies.take {w : World} {g o : Nat} {l : List Pc} (h : Lies w (some ⟨g, o, none⟩) l) (k : Nat) : Lies w (some ⟨g, o, none⟩) (l.take k) :=
  .inr ⟨g, o, rfl, fun i hi => by
    rw [List.getElem_take]
    exact h.all i (by simp at hi; omega)⟩
theorem Lies.drop {w : World} {g o : Nat} {l : List Pc} (h : Lies w (some ⟨g, o, none⟩) l) (k : Nat) : Lies w (some ⟨g, o + k * 2, none⟩) (l.drop k) :=
  .inr ⟨g, o + k * 2, rfl, fun i hi => by
    rw [List.getElem_drop]
    have := h.all (k + i) (by simp at hi; omega)
    rwa [Nat.add_mul, ← Nat.add_assoc] at this⟩
theorem Lies.at {w : World} {a : Option Addr} {l : List Pc} (h : Lies w a l) (h0 : 0 < l.length) : ∃ g o, a = some ⟨g, o, none⟩ := by
  obtain ⟨g, o, e, _⟩ := lies_cell h 0 h0
  exact ⟨g, o, e⟩
/-- A slice of a list, and its cells. -/
theorem Row.parts {w : World} {v : Value} {l : List Pc} (h : Row w v l) : ∃ a c, v = .slice a l.length c ∧ l.length ≤ c ∧ c ≤ maxLen ∧ Lies w a l := by
  obtain ⟨a, n, c, rfl, h1, h2, h3, h4⟩ := h
  subst h1
  exact ⟨a, c, rfl, h2, h3, h4⟩
theorem Row.len {w : World} {v : Value} {l : List Pc} (h : Row w v l) : ∃ a c, v = .slice a l.length c ∧ l.length ≤ c ∧ c ≤ maxLen := by
  obtain ⟨a, c, e, h1, h2, _⟩ := h.parts
  exact ⟨a, c, e, h1, h2⟩
/-- A slice whose address is known: its cells. -/
theorem Row.cells {w : World} {g o n c : Nat} {l : List Pc} (h : Row w (.slice (some ⟨g, o, none⟩) n c) l) (k : Nat) (hk : k < l.length) :
    w.cell? ⟨g, o + k * 2, none⟩ = some (.int .i64 l[k].1) ∧ w.cell? ⟨g, o + k * 2 + 1, none⟩ = some (.int .i64 l[k].2) := by
  obtain ⟨a, n', c', e, h1, h2, h3, h4⟩ := h
  simp only [Value.slice.injEq] at e
  obtain ⟨rfl, _, _⟩ := e
  exact h4.all k hk
theorem Row.known {w : World} {v : Value} {l : List Pc} (h : Row w v l) (h0 : 0 < l.length) : ∃ g o c, v = .slice (some ⟨g, o, none⟩) l.length c ∧ l.length ≤ c ∧ c ≤ maxLen := by
  obtain ⟨a, c, rfl, h3, h4, h5⟩ := h.parts
  obtain ⟨g, o, rfl⟩ := h5.at h0
  exact ⟨g, o, c, rfl, h3, h4⟩
theorem Row.take {w : World} {g o n c : Nat} {l : List Pc} (h : Row w (.slice (some ⟨g, o, none⟩) n c) l) (k : Nat) (hk : k ≤ l.length) : Row w (.slice (some ⟨g, o, none⟩) k c) (l.take k) := by
  obtain ⟨a, n', c', e, h1, h2, h3, h4⟩ := h
  simp only [Value.slice.injEq] at e
  obtain ⟨rfl, rfl, rfl⟩ := e
  exact ⟨_, k, c, rfl, by rw [List.length_take]; omega, by omega, h3, h4.take k⟩
theorem Row.drop {w : World} {g o n c : Nat} {l : List Pc} (h : Row w (.slice (some ⟨g, o, none⟩) n c) l) (k : Nat) (hk : k ≤ l.length) : Row w (.slice (some ⟨g, o + k * 2, none⟩) (n - k) (c - k)) (l.drop k) := by
  obtain ⟨a, n', c', e, h1, h2, h3, h4⟩ := h
  simp only [Value.slice.injEq] at e
  obtain ⟨rfl, rfl, rfl⟩ := e
  exact ⟨_, n - k, c - k, rfl, by rw [List.length_drop]; omega, by omega, by omega, h4.drop k⟩
theorem row_empty {w : World} (a : Option Addr) {c : Nat} (h : c ≤ maxLen) : Row w (.slice a 0 c) [] := ⟨a, 0, c, rfl, rfl, Nat.zero_le _, h, .inl rfl⟩

/-- A list more behind a slice of the call's own, at an operation whose guard holds. -/
theorem append_list_g (PT : PairT T S) {w : World} {ops : Array Oper} {rest : List Oper} {o : Oper} {a : Act} {Q : Exit → Act → World → Prop} (hw : Region.wanted o (yielded ops a.tmps) = true) (s x : Operand)
    (ho : o.op = .call { callee := .builtin .append, args := #[s, x], argTypes := #[S, S] }) {B : Nat} (v : Value) (m : List Pc) (hs : a.eval s = v) (hown : Own T w B v m)
    (ad : Addr) (n c : Nat) (ms : List Pc) (hx : a.eval x = .slice (some ad) n c) (hn : ms.length = n) (hnews : ∀ j u, (cells2 ms)[j]? = some u → w.cell? (ad.add j) = some u) (hm : m.length + n ≤ 1100000) (hB : B ≤ w.heap.size)
    (h : ∀ v' w', Own T w' B v' (m ++ ms) → w.grownBy w' v.ownBlock → wpList Tryd.prog ops Q rest (a.put o.dst v') w') : wpList Tryd.prog ops Q (o :: rest) a w := by
  obtain ⟨i0, hi, hz0, hz1, hz2⟩ := info_parts PT.info
  refine wpList_step fun K hK => ?_
  rw [if_pos hw]
  refine wp_append_own w s x S ho B T i0 (.agg #[.int .i64 0, .int .i64 0]) 2 16 PT.slice hi hz0 hz1 hz2 rfl (by decide) v m.length (cells2 m) hs hown
    ad n c (cells2 ms) hx (by rw [cells2_length, hn]) hnews (cells2_one ms) (by unfold maxLen; omega) (by omega) hB ?_
  intro v' w' h2 h3 _
  refine hK _ _ (h v' w' ?_ h3)
  show w'.ownsRow B _ 2 v' (m ++ ms).length (cells2 (m ++ ms))
  rw [cells2_append, List.length_append, hn]
  exact h2
theorem append_list (PT : PairT T S) {w : World} {ops : Array Oper} {rest : List Oper} {o : Oper} {a : Act} {Q : Exit → Act → World → Prop} (hgd : o.guard = none) (s x : Operand)
    (ho : o.op = .call { callee := .builtin .append, args := #[s, x], argTypes := #[S, S] }) {B : Nat} (v : Value) (m : List Pc) (hs : a.eval s = v) (hown : Own T w B v m)
    (ad : Addr) (n c : Nat) (ms : List Pc) (hx : a.eval x = .slice (some ad) n c) (hn : ms.length = n) (hnews : ∀ j u, (cells2 ms)[j]? = some u → w.cell? (ad.add j) = some u) (hm : m.length + n ≤ 1100000) (hB : B ≤ w.heap.size)
    (h : ∀ v' w', Own T w' B v' (m ++ ms) → w.grownBy w' v.ownBlock → wpList Tryd.prog ops Q rest (a.put o.dst v') w') : wpList Tryd.prog ops Q (o :: rest) a w := by
  obtain ⟨i0, hi, hz0, hz1, hz2⟩ := info_parts PT.info
  refine wpList_append_own w hgd s x S ho B T i0 (.agg #[.int .i64 0, .int .i64 0]) 2 16 PT.slice hi hz0 hz1 hz2 rfl (by decide) v m.length (cells2 m) hs hown
    ad n c (cells2 ms) hx (by rw [cells2_length, hn]) hnews (cells2_one ms) (by unfold maxLen; omega) (by omega) hB ?_
  intro v' w' h2 h3 _
  refine h v' w' ?_ h3
  show w'.ownsRow B _ 2 v' (m ++ ms).length (cells2 (m ++ ms))
  rw [cells2_append, List.length_append, hn]
  exact h2
/-- One pair more behind a slice of the call's own. -/
theorem append_pair (PT : PairT T S) {w : World} {ops : Array Oper} {rest : List Oper} {o : Oper} {a : Act} {Q : Exit → Act → World → Prop} (hgd : o.guard = none) (s x : Operand)
    (ho : o.op = .call { callee := .builtin .append, args := #[s, x], argTypes := #[S, S] }) {B : Nat} (v : Value) (m : List Pc) (hs : a.eval s = v) (hown : Own T w B v m)
    (ad : Addr) (p : Pc) (hx : a.eval x = .slice (some ad) 1 1) (h0 : w.cell? (ad.add 0) = some (.int .i64 p.1)) (h1 : w.cell? (ad.add 1) = some (.int .i64 p.2)) (hm : m.length ≤ 1000000) (hB : B ≤ w.heap.size)
    (h : ∀ v' w', Own T w' B v' (m ++ [p]) → w.grownBy w' v.ownBlock → wpList Tryd.prog ops Q rest (a.put o.dst v') w') : wpList Tryd.prog ops Q (o :: rest) a w :=
  append_list PT hgd s x ho v m hs hown ad 1 1 [p] hx rfl (fun j u hj => by
    match j, hj with
    | 0, hj => cases hj; exact h0
    | 1, hj => cases hj; exact h1) (by omega) hB h
/-- Nothing more behind a slice of the call's own. -/
theorem append_none (PT : PairT T S) {w : World} {ops : Array Oper} {rest : List Oper} {o : Oper} {a : Act} {Q : Exit → Act → World → Prop} (hgd : o.guard = none) (s x : Operand)
    (ho : o.op = .call { callee := .builtin .append, args := #[s, x], argTypes := #[S, S] }) {B : Nat} (v : Value) (m : List Pc) (hs : a.eval s = v) (hown : Own T w B v m) (hx : a.eval x = .slice none 0 0)
    (h : wpList Tryd.prog ops Q rest (a.put o.dst v) w) : wpList Tryd.prog ops Q (o :: rest) a w := by
  obtain ⟨i0, hi, hz0, hz1, hz2⟩ := info_parts PT.info
  exact wpList_append_own_none hgd s x S ho B T i0 2 PT.slice hi v m.length (cells2 m) hs hown hx h
theorem Own.below {w w' : World} {B : Nat} {v : Value} {m : List Pc} (h : Own T w B v m) (hg : w.grownBy w' v.ownBlock) (hB : B ≤ w.heap.size) : Below B w w' :=
  (Below.refl _ _).grown hg hB fun k hk => (h.lt k hk).1
theorem new_two (w : World) (u v : Value) (t : TypeId) : (w.alloc (.cells #[u, v] t)).cell? ((⟨w.heap.size, 0, none⟩ : Addr).add 0) = some u ∧ (w.alloc (.cells #[u, v] t)).cell? ((⟨w.heap.size, 0, none⟩ : Addr).add 1) = some v := by
  constructor <;> (rw [show ∀ j, ((⟨w.heap.size, 0, none⟩ : Addr).add j) = ⟨w.heap.size, j, none⟩ from fun j => by unfold Addr.add; split <;> simp_all]; rw [World.cell?_alloc_new]; rfl)
theorem Own.none_or {w : World} {B : Nat} {v : Value} (h : Own T w B v []) : v = .slice none 0 0 ∨ ∃ g c, v = .slice (some ⟨g, 0, none⟩) 0 c ∧ c ≤ maxLen := by
  rcases h.2 with ⟨e, _⟩ | ⟨g, cap, cur, e, _, _, _, hm, _⟩
  · exact .inl e
  · exact .inr ⟨g, cap, e, hm⟩

/-- What can be done with a pair of a slice of the call's own. -/
structure Pair2 (T : TypeId) (w : World) (B : Nat) (v : Value) (l : List Pc) (g : Nat) (i : Nat) (p : Pc) : Prop where
  top : w.cell? ⟨g, i * 2, none⟩ = some (.int .i64 p.1)
  bot : w.cell? ⟨g, i * 2 + 1, none⟩ = some (.int .i64 p.2)
  f0 : w.frozen? ⟨g, i * 2, none⟩ = false
  f1 : w.frozen? ⟨g, i * 2 + 1, none⟩ = false
  setTop : ∀ x, Own T (w.setCell ⟨g, i * 2, none⟩ (.int .i64 x)) B v (l.set i (x, p.2))
  setBot : ∀ x, Own T (w.setCell ⟨g, i * 2 + 1, none⟩ (.int .i64 x)) B v (l.set i (p.1, x))
theorem Own.at {w : World} {B : Nat} {v : Value} {l : List Pc} (h : Own T w B v l) (h0 : 0 < l.length) :
    ∃ g cap, v = .slice (some ⟨g, 0, none⟩) l.length cap ∧ l.length ≤ cap ∧ cap ≤ maxLen ∧ B ≤ g ∧ g < w.heap.size ∧ ∀ i (hi : i < l.length), Pair2 T w B v l g i l[i] := by
  have hlt := h.lt
  have h' := h
  rcases h.2 with ⟨_, hn⟩ | ⟨g, cap, cur, rfl, hb, hgg, hn, hm, hs, ht⟩
  · omega
  · refine ⟨g, cap, rfl, hn, hm, hb, (hlt g rfl).2, fun i hi => ?_⟩
    obtain ⟨c1, c2⟩ := cells2_get l i hi
    refine ⟨(World.ownsRow.cellAt h' (i * 2) (by omega)).trans c1, (World.ownsRow.cellAt h' (i * 2 + 1) (by omega)).trans c2, World.ownsRow.frozenAt h' _, World.ownsRow.frozenAt h' _, fun x => ?_, fun x => ?_⟩
    · have k := (World.ownsRow.stored h' (i * 2) (.int .i64 x)).1
      rw [cells2_setTop hi] at k
      show World.ownsRow _ _ _ 2 _ (l.set i (x, l[i].2)).length _
      rw [List.length_set]; exact k
    · have k := (World.ownsRow.stored h' (i * 2 + 1) (.int .i64 x)).1
      rw [cells2_setBot hi] at k
      show World.ownsRow _ _ _ 2 _ (l.set i (l[i].1, x)).length _
      rw [List.length_set]; exact k
theorem Own.set2 {w : World} {B : Nat} {v : Value} {l : List Pc} (h : Own T w B v l) (i : Nat) (hi : i < l.length) (p : Pc) :
    ∃ g cap, v = .slice (some ⟨g, 0, none⟩) l.length cap ∧ l.length ≤ cap ∧ cap ≤ maxLen ∧ B ≤ g ∧ g < w.heap.size ∧ Pair2 T w B v l g i l[i] ∧
      Own T ((w.setCell ⟨g, i * 2, none⟩ (.int .i64 p.1)).setCell ⟨g, i * 2 + 1, none⟩ (.int .i64 p.2)) B v (l.set i p) := by
  obtain ⟨g, cap, e, h1, h2, h3, h4, h5⟩ := h.at (by omega)
  refine ⟨g, cap, e, h1, h2, h3, h4, h5 i hi, ?_⟩
  have k := (h5 i hi).setTop p.1
  obtain ⟨g', cap', e', _, _, _, _, k5⟩ := k.at (by rw [List.length_set]; omega)
  rw [e] at e'
  simp only [Value.slice.injEq, Option.some.injEq, Addr.mk.injEq, and_true] at e'
  obtain ⟨rfl, _, _⟩ := e'
  have k6 := (k5 i (by rw [List.length_set]; omega)).setBot p.2
  rw [List.getElem_set_self, List.set_set] at k6
  exact k6

/-- A value, and new memory. -/
def Val (w : World) (v : Value) (e : Ending) (w' : World) : Prop := e = .returned v ∧ Below w.heap.size w w'
/-- A slice of the call's own that holds a list. -/
def Lst (T : TypeId) (w : World) (m : List Pc) (e : Ending) (w' : World) : Prop := ∃ v, e = .returned v ∧ Own T w' w.heap.size v m ∧ Below w.heap.size w w'
/-- .. and whether there is one. -/
def LstB (T : TypeId) (w : World) (m : Option (List Pc)) (e : Ending) (w' : World) : Prop :=
  ∃ v, e = .returned (.tuple #[v, .bool m.isSome]) ∧ Own T w' w.heap.size v (m.getD []) ∧ Below w.heap.size w w'
def No (w : World) (e : Ending) (w' : World) : Prop := ∃ v, e = .returned (.tuple #[v, .bool false]) ∧ Row w' v [] ∧ Below w.heap.size w w'
def Yes (w : World) (m : List Pc) (e : Ending) (w' : World) : Prop := ∃ v, e = .returned (.tuple #[v, .bool true]) ∧ Row w' v m ∧ Below w.heap.size w w'
def Ls (w : World) (m : List Pc) (e : Ending) (w' : World) : Prop := ∃ v, e = .returned v ∧ Row w' v m ∧ Below w.heap.size w w'
theorem val_is {P : Program} {f : FuncId} {a : Array Value} {w : World} {v v' : Value} (h : Calls P f a w fun e w' => Val w v e w') (e : v = v') : Calls P f a w fun e w' => Val w v' e w' := by subst e; exact h
theorem lst_is {P : Program} {f : FuncId} {a : Array Value} {w : World} {m m' : List Pc} (h : Calls P f a w fun e w' => Lst T w m e w') (e : m = m') : Calls P f a w fun e w' => Ls w m' e w' := by
  subst e; exact h.mono fun e w' ⟨v, h1, h2, h3⟩ => ⟨v, h1, h2.row, h3⟩
theorem lstb_no {P : Program} {f : FuncId} {a : Array Value} {w : World} {o : Option (List Pc)} (h : Calls P f a w fun e w' => LstB T w o e w') (e : o = none) : Calls P f a w fun e w' => No w e w' := by
  subst e; exact h.mono fun e w' ⟨v, h1, h2, h3⟩ => ⟨v, h1, h2.row, h3⟩
theorem lstb_yes {P : Program} {f : FuncId} {a : Array Value} {w : World} {o : Option (List Pc)} {m : List Pc} (h : Calls P f a w fun e w' => LstB T w o e w') (e : o = some m) : Calls P f a w fun e w' => Yes w m e w' := by
  subst e; exact h.mono fun e w' ⟨v, h1, h2, h3⟩ => ⟨v, h1, h2.row, h3⟩

/-- A pair whose numbers are at most c. -/
def Sm (c : Int) (p : Pc) : Prop := (-c ≤ p.1 ∧ p.1 ≤ c) ∧ -c ≤ p.2 ∧ p.2 ≤ c
/-- A list of at most n pairs, whose numbers are at most c. -/
def Bd (c : Int) (n : Nat) (l : List Pc) : Prop := l.length ≤ n ∧ ∀ p ∈ l, Sm c p
theorem Bd.get {c : Int} {n : Nat} {l : List Pc} (h : Bd c n l) (i : Nat) (hi : i < l.length) : (-c ≤ l[i].1 ∧ l[i].1 ≤ c) ∧ -c ≤ l[i].2 ∧ l[i].2 ≤ c := h.2 _ (List.getElem_mem hi)
theorem Bd.set {c : Int} {n : Nat} {l : List Pc} (h : Bd c n l) (i : Nat) (p : Pc) (hp : Sm c p) : Bd c n (l.set i p) :=
  ⟨by rw [List.length_set]; exact h.1, fun q hq => by
    rcases List.mem_or_eq_of_mem_set hq with hq | rfl
    · exact h.2 q hq
    · exact hp⟩
theorem Bd.snoc {c : Int} {n : Nat} {l : List Pc} (h : Bd c n l) (p : Pc) (hp : Sm c p) : Bd c (n + 1) (l ++ [p]) :=
  ⟨by simp; exact h.1, fun q hq => by
    rcases List.mem_append.1 hq with hq | hq
    · exact h.2 q hq
    · simp only [List.mem_singleton] at hq; subst hq; exact hp⟩
theorem Bd.mono {c c' : Int} {n n' : Nat} {l : List Pc} (h : Bd c n l) (k : n ≤ n') (kc : c ≤ c') : Bd c' n' l :=
  ⟨Nat.le_trans h.1 k, fun p hp => by have := h.2 p hp; unfold Sm at this ⊢; omega⟩
end Go.Proofs.YtcemgdekcfdfhaaDoor
