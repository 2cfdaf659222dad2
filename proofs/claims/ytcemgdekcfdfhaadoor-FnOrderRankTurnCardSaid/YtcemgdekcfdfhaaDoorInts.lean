/- Slices of integers, whatever the slice's own type: those that can be read, and those of the call's own, to which it appends. -/
import Derived.Test.YtcemgdekcfdfhaaDoorPair
namespace Go.Proofs.YtcemgdekcfdfhaaDoor
open Go.RowKit

/-- The cells of a list of integers. -/
def cells1 (l : List Int) : List Value := l.map (.int .i64)
theorem cells1_length (l : List Int) : (cells1 l).length = l.length * 1 := by simp [cells1]
theorem cells1_append (l m : List Int) : cells1 (l ++ m) = cells1 l ++ cells1 m := by simp [cells1]
theorem cells1_get (l : List Int) (i : Nat) (hi : i < l.length) : (cells1 l)[i]? = some (.int .i64 l[i]) := by simp [cells1, hi]
theorem cells1_one (l : List Int) : ∀ u ∈ cells1 l, u.oneCell' = true := by
  intro u hu
  simp only [cells1, List.mem_map] at hu
  obtain ⟨x, _, rfl⟩ := hu
  rfl
theorem cells1_set {l : List Int} {i : Nat} (x : Int) : (cells1 l).set i (.int .i64 x) = cells1 (l.set i x) := by
  simp [cells1, List.map_set]
/-- A slice of the call's own that holds a list of integers. -/
def IOwn (w : World) (B : Nat) (v : Value) (l : List Int) : Prop := w.ownsRow B 3 1 v l.length (cells1 l)
/-- What the walk asks of a slice type of integers. -/
def IntT (S : TypeId) : Prop := Tryd.prog.underlying S = some (.slice 3)
theorem intInfo : (Tryd.prog.info? 3).map (fun i => (i.zero, i.size, i.bytes)) = some (some (.int .i64 0), 1, 8) := by kernel_rfl
variable {S : TypeId}
theorem IOwn.lt {w : World} {B : Nat} {v : Value} {l : List Int} (h : IOwn w B v l) : ∀ k, v.ownBlock = some k → B ≤ k ∧ k < w.heap.size := World.ownsRow.lt h
theorem IOwn.same {w w' : World} {B : Nat} {v : Value} {l : List Int} (h : IOwn w B v l) (k : ∀ b, v.ownBlock = some b → w'.heap[b]? = w.heap[b]?) : IOwn w' B v l := by
  refine ⟨h.1, ?_⟩
  rcases h.2 with hn | ⟨g, cap, cur, rfl, hb, hgg, rest⟩
  · exact .inl hn
  · exact .inr ⟨g, cap, cur, rfl, hb, (k g rfl).trans hgg, rest⟩
theorem IOwn.grow {w w' : World} {B : Nat} {v : Value} {l : List Int} (h : IOwn w B v l) (k : Below w.heap.size w w') : IOwn w' B v l :=
  h.same fun b hb => k.block b (h.lt b hb).2
theorem IOwn.mono {w : World} {B B' : Nat} {v : Value} {l : List Int} (h : IOwn w B v l) (k : B' ≤ B) : IOwn w B' v l := by
  refine ⟨h.1, ?_⟩
  rcases h.2 with hn | ⟨g, cap, cur, rfl, hb, rest⟩
  · exact .inl hn
  · exact .inr ⟨g, cap, cur, rfl, Nat.le_trans k hb, rest⟩
theorem iown_new {w : World} {B : Nat} (h : B ≤ w.heap.size) : IOwn (w.alloc (.cells #[] 3)) B (.slice (some ⟨w.heap.size, 0, none⟩) 0 0) [] :=
  World.ownsRow_made _ _ 0 h (by unfold maxLen; omega) rfl
theorem iown_one {w : World} {B : Nat} (h : B ≤ w.heap.size) (p : Int) : IOwn (w.alloc (.cells #[.int .i64 p] 3)) B (.slice (some ⟨w.heap.size, 0, none⟩) 1 1) [p] :=
  World.ownsRow_lit w #[.int .i64 p] 1 h (by unfold maxLen; omega) rfl
theorem iown_two {w : World} {B : Nat} (h : B ≤ w.heap.size) (p q : Int) : IOwn (w.alloc (.cells #[.int .i64 p, .int .i64 q] 3)) B (.slice (some ⟨w.heap.size, 0, none⟩) 2 2) [p, q] :=
  World.ownsRow_lit w #[.int .i64 p, .int .i64 q] 2 h (by unfold maxLen; omega) rfl
theorem iown_nil (w : World) (B : Nat) : IOwn w B (.slice none 0 0) [] := ⟨rfl, .inl ⟨rfl, rfl⟩⟩

/-- The cells of a list of integers lie from an address on. -/
def ILies (w : World) (a : Option Addr) (l : List Int) : Prop :=
  l = [] ∨ ∃ g o, a = some ⟨g, o, none⟩ ∧ ∀ i (_ : i < l.length), w.cell? ⟨g, o + i, none⟩ = some (.int .i64 l[i])
/-- A slice that can be read: it holds a list of integers. -/
def IRow (w : World) (v : Value) (l : List Int) : Prop :=
  ∃ (a : Option Addr) (len cap : Nat), v = .slice a len cap ∧ l.length = len ∧ len ≤ cap ∧ cap ≤ maxLen ∧ ILies w a l
theorem IOwn.row {w : World} {B : Nat} {v : Value} {l : List Int} (h : IOwn w B v l) : IRow w v l := by
  rcases h.2 with ⟨rfl, hn⟩ | ⟨g, cap, cur, rfl, hb, hgg, hn, hm, hs, ht⟩
  · exact ⟨none, 0, 0, rfl, hn, Nat.le_refl _, Nat.zero_le _, .inl (List.eq_nil_of_length_eq_zero hn)⟩
  · refine ⟨some ⟨g, 0, none⟩, l.length, cap, rfl, rfl, hn, hm, .inr ⟨g, 0, rfl, fun i hi => ?_⟩⟩
    have e : ∀ j, ((⟨g, 0, none⟩ : Addr).add j) = ⟨g, 0 + j, none⟩ := fun j => Addr.add_lit g 0 j
    rw [← e]; exact World.ownsRow.cells h rfl _ _ (cells1_get l i hi)
theorem ILies.grow {w w' : World} {a : Option Addr} {l : List Int} (h : ILies w a l) (k : Below w.heap.size w w') : ILies w' a l := by
  rcases h with h | ⟨g, o, e, h4⟩
  · exact .inl h
  · exact .inr ⟨g, o, e, fun i hi => (k.cell (cell_below (h4 i hi))).trans (h4 i hi)⟩
theorem IRow.grow {w w' : World} {v : Value} {l : List Int} (h : IRow w v l) (k : Below w.heap.size w w') : IRow w' v l := by
  obtain ⟨a, len, cap, e, h1, h2, h3, h4⟩ := h
  exact ⟨a, len, cap, e, h1, h2, h3, h4.grow k⟩
theorem ilies_cell {w : World} {a : Option Addr} {l : List Int} (h : ILies w a l) (k : Nat) (hk : k < l.length) :
    ∃ g o, a = some ⟨g, o, none⟩ ∧ w.cell? ⟨g, o + k, none⟩ = some (.int .i64 l[k]) := by
  rcases h with rfl | ⟨g, o, e, hc⟩
  · simp at hk
  · exact ⟨g, o, e, hc k hk⟩
/-- The news of an append: the cells of a list that lies in memory. -/
theorem ilies_news {w : World} {g o : Nat} {ms : List Int} (h : ∀ i (_ : i < ms.length), w.cell? ⟨g, o + i, none⟩ = some (.int .i64 ms[i])) :
    ∀ j u, (cells1 ms)[j]? = some u → w.cell? ((⟨g, o, none⟩ : Addr).add j) = some u := by
  intro j u hu
  rw [Addr.add_lit]
  have hj : j < ms.length := by have := (List.getElem?_eq_some_iff.1 hu).1; rwa [cells1_length, Nat.mul_one] at this
  rw [cells1_get ms j hj] at hu
  rw [h j hj, hu]
theorem ILies.all {w : World} {g o : Nat} {ms : List Int} (h : ILies w (some ⟨g, o, none⟩) ms) : ∀ i (_ : i < ms.length), w.cell? ⟨g, o + i, none⟩ = some (.int .i64 ms[i]) := by
  rcases h with rfl | ⟨g', o', e, hc⟩
  · intro i hi; simp at hi
  · simp only [Option.some.injEq, Addr.mk.injEq, and_true] at e
    obtain ⟨rfl, rfl⟩ := e
    exact hc
theorem ILies.take {w : World} {g o : Nat} {l : List Int} (h : ILies w (some ⟨g, o, none⟩) l) (k : Nat) : ILies w (some ⟨g, o, none⟩) (l.take k) :=
  .inr ⟨g, o, rfl, fun i hi => by
    rw [List.getElem_take]
    exact h.all i (by simp at hi; omega)⟩
theorem ILies.drop {w : World} {g o : Nat} {l : List Int} (h : ILies w (some ⟨g, o, none⟩) l) (k : Nat) : ILies w (some ⟨g, o + k, none⟩) (l.drop k) :=
  .inr ⟨g, o + k, rfl, fun i hi => by
    rw [List.getElem_drop]
    have := h.all (k + i) (by simp at hi; omega)
    rwa [← Nat.add_assoc] at this⟩
theorem ILies.at {w : World} {a : Option Addr} {l : List Int} (h : ILies w a l) (h0 : 0 < l.length) : ∃ g o, a = some ⟨g, o, none⟩ := by
  obtain ⟨g, o, e, _⟩ := ilies_cell h 0 h0
  exact ⟨g, o, e⟩
/-- A slice of a list, and its cells. -/
theorem IRow.parts {w : World} {v : Value} {l : List Int} (h : IRow w v l) : ∃ a c, v = .slice a l.length c ∧ l.length ≤ c ∧ c ≤ maxLen ∧ ILies w a l := by
  obtain ⟨a, n, c, rfl, h1, h2, h3, h4⟩ := h
  subst h1
  exact ⟨a, c, rfl, h2, h3, h4⟩
theorem IRow.len {w : World} {v : Value} {l : List Int} (h : IRow w v l) : ∃ a c, v = .slice a l.length c ∧ l.length ≤ c ∧ c ≤ maxLen := by
  obtain ⟨a, c, e, h1, h2, _⟩ := h.parts
  exact ⟨a, c, e, h1, h2⟩
/-- A slice whose address is known: its cells. -/
theorem IRow.cells {w : World} {g o n c : Nat} {l : List Int} (h : IRow w (.slice (some ⟨g, o, none⟩) n c) l) (k : Nat) (hk : k < l.length) :
    w.cell? ⟨g, o + k, none⟩ = some (.int .i64 l[k]) := by
  obtain ⟨a, n', c', e, h1, h2, h3, h4⟩ := h
  simp only [Value.slice.injEq] at e
  obtain ⟨rfl, _, _⟩ := e
  exact h4.all k hk
theorem IRow.known {w : World} {v : Value} {l : List Int} (h : IRow w v l) (h0 : 0 < l.length) : ∃ g o c, v = .slice (some ⟨g, o, none⟩) l.length c ∧ l.length ≤ c ∧ c ≤ maxLen := by
  obtain ⟨a, c, rfl, h3, h4, h5⟩ := h.parts
  obtain ⟨g, o, rfl⟩ := h5.at h0
  exact ⟨g, o, c, rfl, h3, h4⟩
theorem IRow.take {w : World} {g o n c : Nat} {l : List Int} (h : IRow w (.slice (some ⟨g, o, none⟩) n c) l) (k : Nat) (hk : k ≤ l.length) : IRow w (.slice (some ⟨g, o, none⟩) k c) (l.take k) := by
  obtain ⟨a, n', c', e, h1, h2, h3, h4⟩ := h
  simp only [Value.slice.injEq] at e
  obtain ⟨rfl, rfl, rfl⟩ := e
  exact ⟨_, k, c, rfl, by rw [List.length_take]; omega, by omega, h3, h4.take k⟩
theorem IRow.drop {w : World} {g o n c : Nat} {l : List Int} (h : IRow w (.slice (some ⟨g, o, none⟩) n c) l) (k : Nat) (hk : k ≤ l.length) : IRow w (.slice (some ⟨g, o + k, none⟩) (n - k) (c - k)) (l.drop k) := by
  obtain ⟨a, n', c', e, h1, h2, h3, h4⟩ := h
  simp only [Value.slice.injEq] at e
  obtain ⟨rfl, rfl, rfl⟩ := e
  exact ⟨_, n - k, c - k, rfl, by rw [List.length_drop]; omega, by omega, by omega, h4.drop k⟩
theorem irow_empty {w : World} (a : Option Addr) {c : Nat} (h : c ≤ maxLen) : IRow w (.slice a 0 c) [] := ⟨a, 0, c, rfl, rfl, Nat.zero_le _, h, .inl rfl⟩

/-- A list more behind a slice of the call's own, at an operation whose guard holds. -/
theorem iappend_list_g (PT : IntT S) {w : World} {ops : Array Oper} {rest : List Oper} {o : Oper} {a : Act} {Q : Exit → Act → World → Prop} (hw : Region.wanted o (yielded ops a.tmps) = true) (s x : Operand)
    (ho : o.op = .call { callee := .builtin .append, args := #[s, x], argTypes := #[S, S] }) {B : Nat} (v : Value) (m : List Int) (hs : a.eval s = v) (hown : IOwn w B v m)
    (ad : Addr) (n c : Nat) (ms : List Int) (hx : a.eval x = .slice (some ad) n c) (hn : ms.length = n) (hnews : ∀ j u, (cells1 ms)[j]? = some u → w.cell? (ad.add j) = some u) (hm : m.length + n ≤ 1100000) (hB : B ≤ w.heap.size)
    (h : ∀ v' w', IOwn w' B v' (m ++ ms) → w.grownBy w' v.ownBlock → wpList Tryd.prog ops Q rest (a.put o.dst v') w') : wpList Tryd.prog ops Q (o :: rest) a w := by
  obtain ⟨i0, hi, hz0, hz1, hz2⟩ := info_parts intInfo
  refine wpList_step fun K hK => ?_
  rw [if_pos hw]
  refine wp_append_own w s x S ho B 3 i0 (.int .i64 0) 1 8 PT hi hz0 hz1 hz2 rfl (by decide) v m.length (cells1 m) hs hown
    ad n c (cells1 ms) hx (by rw [cells1_length, hn]) hnews (cells1_one ms) (by unfold maxLen; omega) (by omega) hB ?_
  intro v' w' h2 h3 _
  refine hK _ _ (h v' w' ?_ h3)
  show w'.ownsRow B _ 1 v' (m ++ ms).length (cells1 (m ++ ms))
  rw [cells1_append, List.length_append, hn]
  exact h2
theorem iappend_list (PT : IntT S) {w : World} {ops : Array Oper} {rest : List Oper} {o : Oper} {a : Act} {Q : Exit → Act → World → Prop} (hgd : o.guard = none) (s x : Operand)
    (ho : o.op = .call { callee := .builtin .append, args := #[s, x], argTypes := #[S, S] }) {B : Nat} (v : Value) (m : List Int) (hs : a.eval s = v) (hown : IOwn w B v m)
    (ad : Addr) (n c : Nat) (ms : List Int) (hx : a.eval x = .slice (some ad) n c) (hn : ms.length = n) (hnews : ∀ j u, (cells1 ms)[j]? = some u → w.cell? (ad.add j) = some u) (hm : m.length + n ≤ 1100000) (hB : B ≤ w.heap.size)
    (h : ∀ v' w', IOwn w' B v' (m ++ ms) → w.grownBy w' v.ownBlock → wpList Tryd.prog ops Q rest (a.put o.dst v') w') : wpList Tryd.prog ops Q (o :: rest) a w := by
  obtain ⟨i0, hi, hz0, hz1, hz2⟩ := info_parts intInfo
  refine wpList_append_own w hgd s x S ho B 3 i0 (.int .i64 0) 1 8 PT hi hz0 hz1 hz2 rfl (by decide) v m.length (cells1 m) hs hown
    ad n c (cells1 ms) hx (by rw [cells1_length, hn]) hnews (cells1_one ms) (by unfold maxLen; omega) (by omega) hB ?_
  intro v' w' h2 h3 _
  refine h v' w' ?_ h3
  show w'.ownsRow B _ 1 v' (m ++ ms).length (cells1 (m ++ ms))
  rw [cells1_append, List.length_append, hn]
  exact h2
/-- One number more behind a slice of the call's own. -/
theorem iappend_one (PT : IntT S) {w : World} {ops : Array Oper} {rest : List Oper} {o : Oper} {a : Act} {Q : Exit → Act → World → Prop} (hgd : o.guard = none) (s x : Operand)
    (ho : o.op = .call { callee := .builtin .append, args := #[s, x], argTypes := #[S, S] }) {B : Nat} (v : Value) (m : List Int) (hs : a.eval s = v) (hown : IOwn w B v m)
    (ad : Addr) (p : Int) (hx : a.eval x = .slice (some ad) 1 1) (h0 : w.cell? (ad.add 0) = some (.int .i64 p)) (hm : m.length ≤ 1000000) (hB : B ≤ w.heap.size)
    (h : ∀ v' w', IOwn w' B v' (m ++ [p]) → w.grownBy w' v.ownBlock → wpList Tryd.prog ops Q rest (a.put o.dst v') w') : wpList Tryd.prog ops Q (o :: rest) a w :=
  iappend_list PT hgd s x ho v m hs hown ad 1 1 [p] hx rfl (fun j u hj => by
    match j, hj with
    | 0, hj => cases hj; exact h0) (by omega) hB h
/-- Nothing more behind a slice of the call's own. -/
theorem iappend_none (PT : IntT S) {w : World} {ops : Array Oper} {rest : List Oper} {o : Oper} {a : Act} {Q : Exit → Act → World → Prop} (hgd : o.guard = none) (s x : Operand)
    (ho : o.op = .call { callee := .builtin .append, args := #[s, x], argTypes := #[S, S] }) {B : Nat} (v : Value) (m : List Int) (hs : a.eval s = v) (hown : IOwn w B v m) (hx : a.eval x = .slice none 0 0)
    (h : wpList Tryd.prog ops Q rest (a.put o.dst v) w) : wpList Tryd.prog ops Q (o :: rest) a w := by
  obtain ⟨i0, hi, hz0, hz1, hz2⟩ := info_parts intInfo
  exact wpList_append_own_none hgd s x S ho B 3 i0 1 PT hi v m.length (cells1 m) hs hown hx h
theorem IOwn.below {w w' : World} {B : Nat} {v : Value} {m : List Int} (h : IOwn w B v m) (hg : w.grownBy w' v.ownBlock) (hB : B ≤ w.heap.size) : Below B w w' :=
  (Below.refl _ _).grown hg hB fun k hk => (h.lt k hk).1
theorem new_one (w : World) (u : Value) (t : TypeId) : (w.alloc (.cells #[u] t)).cell? ((⟨w.heap.size, 0, none⟩ : Addr).add 0) = some u := by
  rw [show ∀ j, ((⟨w.heap.size, 0, none⟩ : Addr).add j) = ⟨w.heap.size, j, none⟩ from fun j => by unfold Addr.add; split <;> simp_all]; rw [World.cell?_alloc_new]; rfl

/-- What can be done with a number of a slice of the call's own. -/
structure Int1 (w : World) (B : Nat) (v : Value) (l : List Int) (g : Nat) (i : Nat) (x : Int) : Prop where
  cell : w.cell? ⟨g, i, none⟩ = some (.int .i64 x)
  froz : w.frozen? ⟨g, i, none⟩ = false
  set : ∀ y, IOwn (w.setCell ⟨g, i, none⟩ (.int .i64 y)) B v (l.set i y)
theorem IOwn.at {w : World} {B : Nat} {v : Value} {l : List Int} (h : IOwn w B v l) (h0 : 0 < l.length) :
    ∃ g cap, v = .slice (some ⟨g, 0, none⟩) l.length cap ∧ l.length ≤ cap ∧ cap ≤ maxLen ∧ B ≤ g ∧ g < w.heap.size ∧ ∀ i (hi : i < l.length), Int1 w B v l g i l[i] := by
  have hlt := h.lt
  have h' := h
  rcases h.2 with ⟨_, hn⟩ | ⟨g, cap, cur, rfl, hb, hgg, hn, hm, hs, ht⟩
  · omega
  · refine ⟨g, cap, rfl, hn, hm, hb, (hlt g rfl).2, fun i hi => ?_⟩
    refine ⟨(World.ownsRow.cellAt h' i (by omega)).trans (cells1_get l i hi), World.ownsRow.frozenAt h' _, fun x => ?_⟩
    have k := (World.ownsRow.stored h' i (.int .i64 x)).1
    rw [cells1_set] at k
    show World.ownsRow _ _ _ 1 _ (l.set i x).length _
    rw [List.length_set]; exact k

/-- A slice of the call's own that holds a list. -/
def ILst (w : World) (m : List Int) (e : Ending) (w' : World) : Prop := ∃ v, e = .returned v ∧ IOwn w' w.heap.size v m ∧ Below w.heap.size w w'

/-- A list of at most n numbers, each of which is at most c. -/
def IBd (c : Int) (n : Nat) (l : List Int) : Prop := l.length ≤ n ∧ ∀ p ∈ l, -c ≤ p ∧ p ≤ c
theorem IBd.get {c : Int} {n : Nat} {l : List Int} (h : IBd c n l) (i : Nat) (hi : i < l.length) : -c ≤ l[i] ∧ l[i] ≤ c := h.2 _ (List.getElem_mem hi)
theorem IBd.set {c : Int} {n : Nat} {l : List Int} (h : IBd c n l) (i : Nat) (p : Int) (hp : -c ≤ p ∧ p ≤ c) : IBd c n (l.set i p) :=
  ⟨by rw [List.length_set]; exact h.1, fun q hq => by
    rcases List.mem_or_eq_of_mem_set hq with hq | rfl
    · exact h.2 q hq
    · exact hp⟩
theorem IBd.snoc {c : Int} {n : Nat} {l : List Int} (h : IBd c n l) (p : Int) (hp : -c ≤ p ∧ p ≤ c) : IBd c (n + 1) (l ++ [p]) :=
  ⟨by simp; exact h.1, fun q hq => by
    rcases List.mem_append.1 hq with hq | hq
    · exact h.2 q hq
    · simp only [List.mem_singleton] at hq; subst hq; exact hp⟩
theorem IBd.mono {c c' : Int} {n n' : Nat} {l : List Int} (h : IBd c n l) (k : n ≤ n') (kc : c ≤ c') : IBd c' n' l :=
  ⟨Nat.le_trans h.1 k, fun p hp => by have := h.2 p hp; omega⟩
end Go.Proofs.YtcemgdekcfdfhaaDoor
