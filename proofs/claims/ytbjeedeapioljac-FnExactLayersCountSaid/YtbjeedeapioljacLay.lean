/- Slices of layers (structs of an integer and a truth value), whatever their type: those that can be read, and those of the call's own, to which it appends. Made of XPair by tools/genlay.py. -/
import Derived.Test.YtbjeedeapioljacPair
namespace Go.Proofs.Ytbjeedeapioljac
open Go.RowKit

abbrev Ly := Int × Bool
/-- The cells of a list of layers. -/
def cellsL : List Ly → List Value
  | [] => []
  | p :: l => .int .i64 p.1 :: .bool p.2 :: cellsL l
theorem cellsL_length (l : List Ly) : (cellsL l).length = l.length * 2 := by
  induction l with
  | nil => rfl
  | cons p l ih => simp only [cellsL, List.length_cons, ih]; omega
theorem cellsL_append (l m : List Ly) : cellsL (l ++ m) = cellsL l ++ cellsL m := by
  induction l with
  | nil => rfl
  | cons p l ih => simp only [List.cons_append, cellsL, ih]
theorem cellsL_get (l : List Ly) (i : Nat) (hi : i < l.length) : (cellsL l)[i * 2]? = some (.int .i64 l[i].1) ∧ (cellsL l)[i * 2 + 1]? = some (.bool l[i].2) := by
  induction l generalizing i with
  | nil => simp at hi
  | cons p l ih =>
    cases i with
    | zero => exact ⟨rfl, rfl⟩
    | succ i =>
      have := ih i (by simpa using hi)
      simp only [cellsL, show (i + 1) * 2 = i * 2 + 1 + 1 by omega, List.getElem?_cons_succ, List.getElem_cons_succ]
      exact this
theorem cellsL_one (l : List Ly) : ∀ u ∈ cellsL l, u.oneCell' = true := by
  induction l with
  | nil => intro u hu; simp [cellsL] at hu
  | cons p l ih =>
    intro u hu
    simp only [cellsL, List.mem_cons] at hu
    rcases hu with rfl | rfl | hu
    · rfl
    · rfl
    · exact ih u hu
theorem cellsL_setTop {l : List Ly} {i : Nat} (hi : i < l.length) (x : Int) : (cellsL l).set (i * 2) (.int .i64 x) = cellsL (l.set i (x, l[i].2)) := by
  induction l generalizing i with
  | nil => simp at hi
  | cons p l ih =>
    cases i with
    | zero => rfl
    | succ i => simp only [cellsL, List.set_cons_succ, show (i + 1) * 2 = i * 2 + 1 + 1 by omega, List.getElem_cons_succ]; rw [ih (by simpa using hi)]
theorem cellsL_setBot {l : List Ly} {i : Nat} (hi : i < l.length) (x : Bool) : (cellsL l).set (i * 2 + 1) (.bool x) = cellsL (l.set i (l[i].1, x)) := by
  induction l generalizing i with
  | nil => simp at hi
  | cons p l ih =>
    cases i with
    | zero => rfl
    | succ i => simp only [cellsL, List.set_cons_succ, show (i + 1) * 2 + 1 = (i * 2 + 1) + 1 + 1 by omega, List.getElem_cons_succ]; rw [ih (by simpa using hi)]

/-- A slice of the call's own, of elements of the type T, that holds a list of layers. -/
def LOwn (T : TypeId) (w : World) (B : Nat) (v : Value) (l : List Ly) : Prop := w.ownsRow B T 2 v l.length (cellsL l)
/-- What the walk asks of a type of layers and of the type of its slices. -/
structure LayT (T S : TypeId) : Prop where
  info : (Try.prog.info? T).map (fun i => (i.zero, i.size, i.bytes)) = some (some (.agg #[.int .i64 0, .bool false]), 2, 16)
  slice : Try.prog.underlying S = some (.slice T)
variable {T S : TypeId}
theorem LOwn.lt {w : World} {B : Nat} {v : Value} {l : List Ly} (h : LOwn T w B v l) : ∀ k, v.ownBlock = some k → B ≤ k ∧ k < w.heap.size := World.ownsRow.lt h
theorem LOwn.same {w w' : World} {B : Nat} {v : Value} {l : List Ly} (h : LOwn T w B v l) (k : ∀ b, v.ownBlock = some b → w'.heap[b]? = w.heap[b]?) : LOwn T w' B v l := by
  refine ⟨h.1, ?_⟩
  rcases h.2 with hn | ⟨g, cap, cur, rfl, hb, hgg, rest⟩
  · exact .inl hn
  · exact .inr ⟨g, cap, cur, rfl, hb, (k g rfl).trans hgg, rest⟩
theorem LOwn.grow {w w' : World} {B : Nat} {v : Value} {l : List Ly} (h : LOwn T w B v l) (k : Below w.heap.size w w') : LOwn T w' B v l :=
  h.same fun b hb => k.block b (h.lt b hb).2
theorem LOwn.mono {w : World} {B B' : Nat} {v : Value} {l : List Ly} (h : LOwn T w B v l) (k : B' ≤ B) : LOwn T w B' v l := by
  refine ⟨h.1, ?_⟩
  rcases h.2 with hn | ⟨g, cap, cur, rfl, hb, rest⟩
  · exact .inl hn
  · exact .inr ⟨g, cap, cur, rfl, Nat.le_trans k hb, rest⟩
theorem lown_new (T : TypeId) {w : World} {B : Nat} (h : B ≤ w.heap.size) : LOwn T (w.alloc (.cells #[] T)) B (.slice (some ⟨w.heap.size, 0, none⟩) 0 0) [] :=
  World.ownsRow_made _ _ 0 h (by unfold maxLen; omega) rfl
theorem lown_one (T : TypeId) {w : World} {B : Nat} (h : B ≤ w.heap.size) (p : Ly) : LOwn T (w.alloc (.cells #[.int .i64 p.1, .bool p.2] T)) B (.slice (some ⟨w.heap.size, 0, none⟩) 1 1) [p] :=
  World.ownsRow_lit w #[.int .i64 p.1, .bool p.2] 1 h (by unfold maxLen; omega) rfl
theorem lown_two (T : TypeId) {w : World} {B : Nat} (h : B ≤ w.heap.size) (p q : Ly) : LOwn T (w.alloc (.cells #[.int .i64 p.1, .bool p.2, .int .i64 q.1, .bool q.2] T)) B (.slice (some ⟨w.heap.size, 0, none⟩) 2 2) [p, q] :=
  World.ownsRow_lit w #[.int .i64 p.1, .bool p.2, .int .i64 q.1, .bool q.2] 2 h (by unfold maxLen; omega) rfl
theorem lown_nil (T : TypeId) (w : World) (B : Nat) : LOwn T w B (.slice none 0 0) [] := ⟨rfl, .inl ⟨rfl, rfl⟩⟩

/-- The cells of a list of layers lie from an address on. -/
def LLies (w : World) (a : Option Addr) (l : List Ly) : Prop :=
  l = [] ∨ ∃ g o, a = some ⟨g, o, none⟩ ∧ ∀ i (_ : i < l.length), w.cell? ⟨g, o + i * 2, none⟩ = some (.int .i64 l[i].1) ∧ w.cell? ⟨g, o + i * 2 + 1, none⟩ = some (.bool l[i].2)
/-- A slice that can be read: it holds a list of layers. -/
def LRow (w : World) (v : Value) (l : List Ly) : Prop :=
  ∃ (a : Option Addr) (len cap : Nat), v = .slice a len cap ∧ l.length = len ∧ len ≤ cap ∧ cap ≤ maxLen ∧ LLies w a l
theorem LOwn.row {w : World} {B : Nat} {v : Value} {l : List Ly} (h : LOwn T w B v l) : LRow w v l := by
  rcases h.2 with ⟨rfl, hn⟩ | ⟨g, cap, cur, rfl, hb, hgg, hn, hm, hs, ht⟩
  · exact ⟨none, 0, 0, rfl, hn, Nat.le_refl _, Nat.zero_le _, .inl (List.eq_nil_of_length_eq_zero hn)⟩
  · refine ⟨some ⟨g, 0, none⟩, l.length, cap, rfl, rfl, hn, hm, .inr ⟨g, 0, rfl, fun i hi => ?_⟩⟩
    obtain ⟨h1, h2⟩ := cellsL_get l i hi
    have e : ∀ j, ((⟨g, 0, none⟩ : Addr).add j) = ⟨g, 0 + j, none⟩ := fun j => Addr.add_lit g 0 j
    exact ⟨by rw [← e]; exact World.ownsRow.cells h rfl _ _ h1, by rw [Nat.add_assoc, ← e]; exact World.ownsRow.cells h rfl _ _ h2⟩
theorem LLies.grow {w w' : World} {a : Option Addr} {l : List Ly} (h : LLies w a l) (k : Below w.heap.size w w') : LLies w' a l := by
  rcases h with h | ⟨g, o, e, h4⟩
  · exact .inl h
  · refine .inr ⟨g, o, e, fun i hi => ?_⟩
    obtain ⟨a, b⟩ := h4 i hi
    exact ⟨(k.cell (cell_below a)).trans a, (k.cell (cell_below b)).trans b⟩
theorem LRow.grow {w w' : World} {v : Value} {l : List Ly} (h : LRow w v l) (k : Below w.heap.size w w') : LRow w' v l := by
  obtain ⟨a, len, cap, e, h1, h2, h3, h4⟩ := h
  exact ⟨a, len, cap, e, h1, h2, h3, h4.grow k⟩
theorem llies_cell {w : World} {a : Option Addr} {l : List Ly} (h : LLies w a l) (k : Nat) (hk : k < l.length) :
    ∃ g o, a = some ⟨g, o, none⟩ ∧ w.cell? ⟨g, o + k * 2, none⟩ = some (.int .i64 l[k].1) ∧ w.cell? ⟨g, o + k * 2 + 1, none⟩ = some (.bool l[k].2) := by
  rcases h with rfl | ⟨g, o, e, hc⟩
  · simp at hk
  · exact ⟨g, o, e, hc k hk⟩
/-- The news of an append: the cells of a list that lies in memory. -/
theorem llies_news {w : World} {g o : Nat} {ms : List Ly} (h : ∀ i (_ : i < ms.length), w.cell? ⟨g, o + i * 2, none⟩ = some (.int .i64 ms[i].1) ∧ w.cell? ⟨g, o + i * 2 + 1, none⟩ = some (.bool ms[i].2)) :
    ∀ j u, (cellsL ms)[j]? = some u → w.cell? ((⟨g, o, none⟩ : Addr).add j) = some u := by
  intro j u hu
  rw [Addr.add_lit]
  have hj : j < ms.length * 2 := by have := (List.getElem?_eq_some_iff.1 hu).1; rwa [cellsL_length] at this
  obtain ⟨c1, c2⟩ := cellsL_get ms (j / 2) (by omega)
  obtain ⟨h1, h2⟩ := h (j / 2) (by omega)
  by_cases e : j % 2 = 0
  · rw [show j = j / 2 * 2 by omega] at hu ⊢
    rw [c1] at hu; rw [h1, hu]
  · rw [show j = j / 2 * 2 + 1 by omega] at hu ⊢
    rw [c2] at hu; rw [← Nat.add_assoc, h2, hu]
theorem LLies.all {w : World} {g o : Nat} {ms : List Ly} (h : LLies w (some ⟨g, o, none⟩) ms) : ∀ i (_ : i < ms.length), w.cell? ⟨g, o + i * 2, none⟩ = some (.int .i64 ms[i].1) ∧ w.cell? ⟨g, o + i * 2 + 1, none⟩ = some (.bool ms[i].2) := by
  rcases h with rfl | ⟨g', o', e, hc⟩
  · intro i hi; simp at hi
  · simp only [Option.some.injEq, Addr.mk.injEq, and_true] at e
    obtain ⟨rfl, rfl⟩ := e
    exact hc
theorem LLies.take {w : World} {g o : Nat} {l : List Ly} (h : LLies w (some ⟨g, o, none⟩) l) (k : Nat) : LLies w (some ⟨g, o, none⟩) (l.take k) :=
  .inr ⟨g, o, rfl, fun i hi => by
    rw [List.getElem_take]
    exact h.all i (by simp at hi; omega)⟩
theorem LLies.drop {w : World} {g o : Nat} {l : List Ly} (h : LLies w (some ⟨g, o, none⟩) l) (k : Nat) : LLies w (some ⟨g, o + k * 2, none⟩) (l.drop k) :=
  .inr ⟨g, o + k * 2, rfl, fun i hi => by
    rw [List.getElem_drop]
    have := h.all (k + i) (by simp at hi; omega)
    rwa [Nat.add_mul, ← Nat.add_assoc] at this⟩
theorem LLies.at {w : World} {a : Option Addr} {l : List Ly} (h : LLies w a l) (h0 : 0 < l.length) : ∃ g o, a = some ⟨g, o, none⟩ := by
  obtain ⟨g, o, e, _⟩ := llies_cell h 0 h0
  exact ⟨g, o, e⟩
/-- A slice of a list, and its cells. -/
theorem LRow.parts {w : World} {v : Value} {l : List Ly} (h : LRow w v l) : ∃ a c, v = .slice a l.length c ∧ l.length ≤ c ∧ c ≤ maxLen ∧ LLies w a l := by
  obtain ⟨a, n, c, rfl, h1, h2, h3, h4⟩ := h
  subst h1
  exact ⟨a, c, rfl, h2, h3, h4⟩
theorem LRow.len {w : World} {v : Value} {l : List Ly} (h : LRow w v l) : ∃ a c, v = .slice a l.length c ∧ l.length ≤ c ∧ c ≤ maxLen := by
  obtain ⟨a, c, e, h1, h2, _⟩ := h.parts
  exact ⟨a, c, e, h1, h2⟩
/-- A slice whose address is known: its cells. -/
theorem LRow.cells {w : World} {g o n c : Nat} {l : List Ly} (h : LRow w (.slice (some ⟨g, o, none⟩) n c) l) (k : Nat) (hk : k < l.length) :
    w.cell? ⟨g, o + k * 2, none⟩ = some (.int .i64 l[k].1) ∧ w.cell? ⟨g, o + k * 2 + 1, none⟩ = some (.bool l[k].2) := by
  obtain ⟨a, n', c', e, h1, h2, h3, h4⟩ := h
  simp only [Value.slice.injEq] at e
  obtain ⟨rfl, _, _⟩ := e
  exact h4.all k hk
theorem LRow.known {w : World} {v : Value} {l : List Ly} (h : LRow w v l) (h0 : 0 < l.length) : ∃ g o c, v = .slice (some ⟨g, o, none⟩) l.length c ∧ l.length ≤ c ∧ c ≤ maxLen := by
  obtain ⟨a, c, rfl, h3, h4, h5⟩ := h.parts
  obtain ⟨g, o, rfl⟩ := h5.at h0
  exact ⟨g, o, c, rfl, h3, h4⟩
theorem LRow.take {w : World} {g o n c : Nat} {l : List Ly} (h : LRow w (.slice (some ⟨g, o, none⟩) n c) l) (k : Nat) (hk : k ≤ l.length) : LRow w (.slice (some ⟨g, o, none⟩) k c) (l.take k) := by
  obtain ⟨a, n', c', e, h1, h2, h3, h4⟩ := h
  simp only [Value.slice.injEq] at e
  obtain ⟨rfl, rfl, rfl⟩ := e
  exact ⟨_, k, c, rfl, by rw [List.length_take]; omega, by omega, h3, h4.take k⟩
theorem LRow.drop {w : World} {g o n c : Nat} {l : List Ly} (h : LRow w (.slice (some ⟨g, o, none⟩) n c) l) (k : Nat) (hk : k ≤ l.length) : LRow w (.slice (some ⟨g, o + k * 2, none⟩) (n - k) (c - k)) (l.drop k) := by
  obtain ⟨a, n', c', e, h1, h2, h3, h4⟩ := h
  simp only [Value.slice.injEq] at e
  obtain ⟨rfl, rfl, rfl⟩ := e
  exact ⟨_, n - k, c - k, rfl, by rw [List.length_drop]; omega, by omega, by omega, h4.drop k⟩
theorem lrow_empty {w : World} (a : Option Addr) {c : Nat} (h : c ≤ maxLen) : LRow w (.slice a 0 c) [] := ⟨a, 0, c, rfl, rfl, Nat.zero_le _, h, .inl rfl⟩

/-- A list more behind a slice of the call's own, at an operation whose guard holds. -/
theorem lappend_list_g (PT : LayT T S) {w : World} {ops : Array Oper} {rest : List Oper} {o : Oper} {a : Act} {Q : Exit → Act → World → Prop} (hw : Region.wanted o (yielded ops a.tmps) = true) (s x : Operand)
    (ho : o.op = .call { callee := .builtin .append, args := #[s, x], argTypes := #[S, S] }) {B : Nat} (v : Value) (m : List Ly) (hs : a.eval s = v) (hown : LOwn T w B v m)
    (ad : Addr) (n c : Nat) (ms : List Ly) (hx : a.eval x = .slice (some ad) n c) (hn : ms.length = n) (hnews : ∀ j u, (cellsL ms)[j]? = some u → w.cell? (ad.add j) = some u) (hm : m.length + n ≤ 1100000) (hB : B ≤ w.heap.size)
    (h : ∀ v' w', LOwn T w' B v' (m ++ ms) → w.grownBy w' v.ownBlock → wpList Try.prog ops Q rest (a.put o.dst v') w') : wpList Try.prog ops Q (o :: rest) a w := by
  obtain ⟨i0, hi, hz0, hz1, hz2⟩ := info_parts PT.info
  refine wpList_step fun K hK => ?_
  rw [if_pos hw]
  refine wp_append_own w s x S ho B T i0 (.agg #[.int .i64 0, .bool false]) 2 16 PT.slice hi hz0 hz1 hz2 rfl (by decide) v m.length (cellsL m) hs hown
    ad n c (cellsL ms) hx (by rw [cellsL_length, hn]) hnews (cellsL_one ms) (by unfold maxLen; omega) (by omega) hB ?_
  intro v' w' h2 h3 _
  refine hK _ _ (h v' w' ?_ h3)
  show w'.ownsRow B _ 2 v' (m ++ ms).length (cellsL (m ++ ms))
  rw [cellsL_append, List.length_append, hn]
  exact h2
theorem lappend_list (PT : LayT T S) {w : World} {ops : Array Oper} {rest : List Oper} {o : Oper} {a : Act} {Q : Exit → Act → World → Prop} (hgd : o.guard = none) (s x : Operand)
    (ho : o.op = .call { callee := .builtin .append, args := #[s, x], argTypes := #[S, S] }) {B : Nat} (v : Value) (m : List Ly) (hs : a.eval s = v) (hown : LOwn T w B v m)
    (ad : Addr) (n c : Nat) (ms : List Ly) (hx : a.eval x = .slice (some ad) n c) (hn : ms.length = n) (hnews : ∀ j u, (cellsL ms)[j]? = some u → w.cell? (ad.add j) = some u) (hm : m.length + n ≤ 1100000) (hB : B ≤ w.heap.size)
    (h : ∀ v' w', LOwn T w' B v' (m ++ ms) → w.grownBy w' v.ownBlock → wpList Try.prog ops Q rest (a.put o.dst v') w') : wpList Try.prog ops Q (o :: rest) a w := by
  obtain ⟨i0, hi, hz0, hz1, hz2⟩ := info_parts PT.info
  refine wpList_append_own w hgd s x S ho B T i0 (.agg #[.int .i64 0, .bool false]) 2 16 PT.slice hi hz0 hz1 hz2 rfl (by decide) v m.length (cellsL m) hs hown
    ad n c (cellsL ms) hx (by rw [cellsL_length, hn]) hnews (cellsL_one ms) (by unfold maxLen; omega) (by omega) hB ?_
  intro v' w' h2 h3 _
  refine h v' w' ?_ h3
  show w'.ownsRow B _ 2 v' (m ++ ms).length (cellsL (m ++ ms))
  rw [cellsL_append, List.length_append, hn]
  exact h2
/-- One layer more behind a slice of the call's own. -/
theorem lappend_lay (PT : LayT T S) {w : World} {ops : Array Oper} {rest : List Oper} {o : Oper} {a : Act} {Q : Exit → Act → World → Prop} (hgd : o.guard = none) (s x : Operand)
    (ho : o.op = .call { callee := .builtin .append, args := #[s, x], argTypes := #[S, S] }) {B : Nat} (v : Value) (m : List Ly) (hs : a.eval s = v) (hown : LOwn T w B v m)
    (ad : Addr) (p : Ly) (hx : a.eval x = .slice (some ad) 1 1) (h0 : w.cell? (ad.add 0) = some (.int .i64 p.1)) (h1 : w.cell? (ad.add 1) = some (.bool p.2)) (hm : m.length ≤ 1000000) (hB : B ≤ w.heap.size)
    (h : ∀ v' w', LOwn T w' B v' (m ++ [p]) → w.grownBy w' v.ownBlock → wpList Try.prog ops Q rest (a.put o.dst v') w') : wpList Try.prog ops Q (o :: rest) a w :=
  lappend_list PT hgd s x ho v m hs hown ad 1 1 [p] hx rfl (fun j u hj => by
    match j, hj with
    | 0, hj => cases hj; exact h0
    | 1, hj => cases hj; exact h1) (by omega) hB h
/-- Nothing more behind a slice of the call's own. -/
theorem lappend_none (PT : LayT T S) {w : World} {ops : Array Oper} {rest : List Oper} {o : Oper} {a : Act} {Q : Exit → Act → World → Prop} (hgd : o.guard = none) (s x : Operand)
    (ho : o.op = .call { callee := .builtin .append, args := #[s, x], argTypes := #[S, S] }) {B : Nat} (v : Value) (m : List Ly) (hs : a.eval s = v) (hown : LOwn T w B v m) (hx : a.eval x = .slice none 0 0)
    (h : wpList Try.prog ops Q rest (a.put o.dst v) w) : wpList Try.prog ops Q (o :: rest) a w := by
  obtain ⟨i0, hi, hz0, hz1, hz2⟩ := info_parts PT.info
  exact wpList_append_own_none hgd s x S ho B T i0 2 PT.slice hi v m.length (cellsL m) hs hown hx h
theorem LOwn.below {w w' : World} {B : Nat} {v : Value} {m : List Ly} (h : LOwn T w B v m) (hg : w.grownBy w' v.ownBlock) (hB : B ≤ w.heap.size) : Below B w w' :=
  (Below.refl _ _).grown hg hB fun k hk => (h.lt k hk).1
theorem LOwn.none_or {w : World} {B : Nat} {v : Value} (h : LOwn T w B v []) : v = .slice none 0 0 ∨ ∃ g c, v = .slice (some ⟨g, 0, none⟩) 0 c ∧ c ≤ maxLen := by
  rcases h.2 with ⟨e, _⟩ | ⟨g, cap, cur, e, _, _, _, hm, _⟩
  · exact .inl e
  · exact .inr ⟨g, cap, e, hm⟩

/-- What can be done with a layer of a slice of the call's own. -/
structure Lay2 (T : TypeId) (w : World) (B : Nat) (v : Value) (l : List Ly) (g : Nat) (i : Nat) (p : Ly) : Prop where
  top : w.cell? ⟨g, i * 2, none⟩ = some (.int .i64 p.1)
  bot : w.cell? ⟨g, i * 2 + 1, none⟩ = some (.bool p.2)
  f0 : w.frozen? ⟨g, i * 2, none⟩ = false
  f1 : w.frozen? ⟨g, i * 2 + 1, none⟩ = false
  setTop : ∀ x, LOwn T (w.setCell ⟨g, i * 2, none⟩ (.int .i64 x)) B v (l.set i (x, p.2))
  setBot : ∀ x, LOwn T (w.setCell ⟨g, i * 2 + 1, none⟩ (.bool x)) B v (l.set i (p.1, x))
theorem LOwn.at {w : World} {B : Nat} {v : Value} {l : List Ly} (h : LOwn T w B v l) (h0 : 0 < l.length) :
    ∃ g cap, v = .slice (some ⟨g, 0, none⟩) l.length cap ∧ l.length ≤ cap ∧ cap ≤ maxLen ∧ B ≤ g ∧ g < w.heap.size ∧ ∀ i (hi : i < l.length), Lay2 T w B v l g i l[i] := by
  have hlt := h.lt
  have h' := h
  rcases h.2 with ⟨_, hn⟩ | ⟨g, cap, cur, rfl, hb, hgg, hn, hm, hs, ht⟩
  · omega
  · refine ⟨g, cap, rfl, hn, hm, hb, (hlt g rfl).2, fun i hi => ?_⟩
    obtain ⟨c1, c2⟩ := cellsL_get l i hi
    refine ⟨(World.ownsRow.cellAt h' (i * 2) (by omega)).trans c1, (World.ownsRow.cellAt h' (i * 2 + 1) (by omega)).trans c2, World.ownsRow.frozenAt h' _, World.ownsRow.frozenAt h' _, fun x => ?_, fun x => ?_⟩
    · have k := (World.ownsRow.stored h' (i * 2) (.int .i64 x)).1
      rw [cellsL_setTop hi] at k
      show World.ownsRow _ _ _ 2 _ (l.set i (x, l[i].2)).length _
      rw [List.length_set]; exact k
    · have k := (World.ownsRow.stored h' (i * 2 + 1) (.bool x)).1
      rw [cellsL_setBot hi] at k
      show World.ownsRow _ _ _ 2 _ (l.set i (l[i].1, x)).length _
      rw [List.length_set]; exact k
theorem LOwn.set2 {w : World} {B : Nat} {v : Value} {l : List Ly} (h : LOwn T w B v l) (i : Nat) (hi : i < l.length) (p : Ly) :
    ∃ g cap, v = .slice (some ⟨g, 0, none⟩) l.length cap ∧ l.length ≤ cap ∧ cap ≤ maxLen ∧ B ≤ g ∧ g < w.heap.size ∧ Lay2 T w B v l g i l[i] ∧
      LOwn T ((w.setCell ⟨g, i * 2, none⟩ (.int .i64 p.1)).setCell ⟨g, i * 2 + 1, none⟩ (.bool p.2)) B v (l.set i p) := by
  obtain ⟨g, cap, e, h1, h2, h3, h4, h5⟩ := h.at (by omega)
  refine ⟨g, cap, e, h1, h2, h3, h4, h5 i hi, ?_⟩
  have k := (h5 i hi).setTop p.1
  obtain ⟨g', cap', e', _, _, _, _, k5⟩ := k.at (by rw [List.length_set]; omega)
  rw [e] at e'
  simp only [Value.slice.injEq, Option.some.injEq, Addr.mk.injEq, and_true] at e'
  obtain ⟨rfl, _, _⟩ := e'
  have k6 := (k5 i (by rw [List.length_set]; omega)).setBot p.2
  rw [List.getElem_set_self, List.set_set] at k6
  exact k6

/-- A slice of the call's own that holds a list. -/
def LLst (T : TypeId) (w : World) (m : List Ly) (e : Ending) (w' : World) : Prop := ∃ v, e = .returned v ∧ LOwn T w' w.heap.size v m ∧ Below w.heap.size w w'
/-- .. and whether there is one. -/
def LLstB (T : TypeId) (w : World) (m : Option (List Ly)) (e : Ending) (w' : World) : Prop :=
  ∃ v, e = .returned (.tuple #[v, .bool m.isSome]) ∧ LOwn T w' w.heap.size v (m.getD []) ∧ Below w.heap.size w w'
def LNo (w : World) (e : Ending) (w' : World) : Prop := ∃ v, e = .returned (.tuple #[v, .bool false]) ∧ LRow w' v [] ∧ Below w.heap.size w w'
def LYes (w : World) (m : List Ly) (e : Ending) (w' : World) : Prop := ∃ v, e = .returned (.tuple #[v, .bool true]) ∧ LRow w' v m ∧ Below w.heap.size w w'
def LLs (w : World) (m : List Ly) (e : Ending) (w' : World) : Prop := ∃ v, e = .returned v ∧ LRow w' v m ∧ Below w.heap.size w w'
theorem llst_is {P : Program} {f : FuncId} {a : Array Value} {w : World} {m m' : List Ly} (h : Calls P f a w fun e w' => LLst T w m e w') (e : m = m') : Calls P f a w fun e w' => LLs w m' e w' := by
  subst e; exact h.mono fun e w' ⟨v, h1, h2, h3⟩ => ⟨v, h1, h2.row, h3⟩
theorem llstb_no {P : Program} {f : FuncId} {a : Array Value} {w : World} {o : Option (List Ly)} (h : Calls P f a w fun e w' => LLstB T w o e w') (e : o = none) : Calls P f a w fun e w' => LNo w e w' := by
  subst e; exact h.mono fun e w' ⟨v, h1, h2, h3⟩ => ⟨v, h1, h2.row, h3⟩
theorem llstb_yes {P : Program} {f : FuncId} {a : Array Value} {w : World} {o : Option (List Ly)} {m : List Ly} (h : Calls P f a w fun e w' => LLstB T w o e w') (e : o = some m) : Calls P f a w fun e w' => LYes w m e w' := by
  subst e; exact h.mono fun e w' ⟨v, h1, h2, h3⟩ => ⟨v, h1, h2.row, h3⟩

/-- A layer whose numbers are at most c. -/
def LSm (c : Int) (p : Ly) : Prop := -c ≤ p.1 ∧ p.1 ≤ c
/-- A list of at most n layers, whose numbers are at most c. -/
def LBd (c : Int) (n : Nat) (l : List Ly) : Prop := l.length ≤ n ∧ ∀ p ∈ l, LSm c p
theorem LBd.get {c : Int} {n : Nat} {l : List Ly} (h : LBd c n l) (i : Nat) (hi : i < l.length) : -c ≤ l[i].1 ∧ l[i].1 ≤ c := h.2 _ (List.getElem_mem hi)
theorem LBd.set {c : Int} {n : Nat} {l : List Ly} (h : LBd c n l) (i : Nat) (p : Ly) (hp : LSm c p) : LBd c n (l.set i p) :=
  ⟨by rw [List.length_set]; exact h.1, fun q hq => by
    rcases List.mem_or_eq_of_mem_set hq with hq | rfl
    · exact h.2 q hq
    · exact hp⟩
theorem LBd.snoc {c : Int} {n : Nat} {l : List Ly} (h : LBd c n l) (p : Ly) (hp : LSm c p) : LBd c (n + 1) (l ++ [p]) :=
  ⟨by simp; exact h.1, fun q hq => by
    rcases List.mem_append.1 hq with hq | hq
    · exact h.2 q hq
    · simp only [List.mem_singleton] at hq; subst hq; exact hp⟩
theorem LBd.mono {c c' : Int} {n n' : Nat} {l : List Ly} (h : LBd c n l) (k : n ≤ n') (kc : c ≤ c') : LBd c' n' l :=
  ⟨Nat.le_trans h.1 k, fun p hp => by have := h.2 p hp; unfold LSm at this ⊢; omega⟩
end Go.Proofs.Ytbjeedeapioljac
