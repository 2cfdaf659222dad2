/- Slices of pieces: those that can be read, and those of the call's own, to which it appends. -/
import Derived.Test.YtdljfikgmhdedaaChain
import Derived.Laws.AppendOwn
import Derived.Laws.OwnMore
import Derived.RegionTactic
import Derived.ChangeAlike
import Derived.OwnWalk
namespace Go.Proofs.Ytdljfikgmhdedaa
open Go.RowKit

/-- The cells of a list of pieces. -/
def cells2 : List Pc → List Value
  | [] => []
  | p :: l => .int .i64 p.1 :: .int .i64 p.2 :: cells2 l
theorem cells2_length (l : List Pc) : (cells2 l).length = l.length * 2 := by
  induction l with
  | nil => rfl
  | cons p l ih => simp only [cells2, List.length_cons, ih]; omega
theorem cells2_append (l m : List Pc) : cells2 (l ++ m) = cells2 l ++ cells2 m := by
  induction l with
  | nil => rfl
  | cons p l ih => simp only [List.cons_append, cells2, ih]
theorem cells2_get (l : List Pc) (i : Nat) (hi : i < l.length) : (cells2 l)[i * 2]? = some (.int .i64 l[i].1) ∧ (cells2 l)[i * 2 + 1]? = some (.int .i64 l[i].2) := by
  induction l generalizing i with
  | nil => simp at hi
  | cons p l ih =>
    cases i with
    | zero => exact ⟨rfl, rfl⟩
    | succ i =>
      have := ih i (by simpa using hi)
      simp only [cells2, show (i + 1) * 2 = i * 2 + 1 + 1 by omega, List.getElem?_cons_succ, List.getElem_cons_succ]
      exact this
/-- A slice of the call's own that holds a list of pieces. -/
def Own (w : World) (B : Nat) (v : Value) (l : List Pc) : Prop := w.ownsRow B 27 2 v l.length (cells2 l)
theorem info_piece : (Try.prog.info? 27).map (fun i => (i.zero, i.size, i.bytes)) = some (some (.agg #[.int .i64 0, .int .i64 0]), 2, 16) := by kernel_rfl

theorem Own.lt {w : World} {B : Nat} {v : Value} {l : List Pc} (h : Own w B v l) : ∀ k, v.ownBlock = some k → B ≤ k ∧ k < w.heap.size := World.ownsRow.lt h
theorem Own.same {w w' : World} {B : Nat} {v : Value} {l : List Pc} (h : Own w B v l) (k : ∀ b, v.ownBlock = some b → w'.heap[b]? = w.heap[b]?) : Own w' B v l := by
  refine ⟨h.1, ?_⟩
  rcases h.2 with hn | ⟨g, cap, cur, rfl, hb, hgg, rest⟩
  · exact .inl hn
  · exact .inr ⟨g, cap, cur, rfl, hb, (k g rfl).trans hgg, rest⟩
theorem Own.grow {w w' : World} {B : Nat} {v : Value} {l : List Pc} (h : Own w B v l) (k : Below w.heap.size w w') : Own w' B v l :=
  h.same fun b hb => k.block b (h.lt b hb).2
theorem Own.mono {w : World} {B B' : Nat} {v : Value} {l : List Pc} (h : Own w B v l) (k : B' ≤ B) : Own w B' v l := by
  refine ⟨h.1, ?_⟩
  rcases h.2 with hn | ⟨g, cap, cur, rfl, hb, rest⟩
  · exact .inl hn
  · exact .inr ⟨g, cap, cur, rfl, Nat.le_trans k hb, rest⟩
theorem own_new {w : World} {B : Nat} (h : B ≤ w.heap.size) : Own (w.alloc (.cells #[] 27)) B (.slice (some ⟨w.heap.size, 0, none⟩) 0 0) [] :=
  World.ownsRow_made _ _ 0 h (by unfold maxLen; omega) rfl
theorem own_one {w : World} {B : Nat} (h : B ≤ w.heap.size) (p : Pc) : Own (w.alloc (.cells #[.int .i64 p.1, .int .i64 p.2] 27)) B (.slice (some ⟨w.heap.size, 0, none⟩) 1 1) [p] :=
  World.ownsRow_lit w #[.int .i64 p.1, .int .i64 p.2] 1 h (by unfold maxLen; omega) rfl

/-- The cells of a list of pieces lie from an address on. -/
def Lies (w : World) (a : Option Addr) (l : List Pc) : Prop :=
  l = [] ∨ ∃ g o, a = some ⟨g, o, none⟩ ∧ ∀ i (_ : i < l.length), w.cell? ⟨g, o + i * 2, none⟩ = some (.int .i64 l[i].1) ∧ w.cell? ⟨g, o + i * 2 + 1, none⟩ = some (.int .i64 l[i].2)
/-- A slice that can be read: it holds a list of pieces. -/
def Row (w : World) (v : Value) (l : List Pc) : Prop :=
  ∃ (a : Option Addr) (len cap : Nat), v = .slice a len cap ∧ l.length = len ∧ len ≤ cap ∧ cap ≤ maxLen ∧ Lies w a l
theorem Own.row {w : World} {B : Nat} {v : Value} {l : List Pc} (h : Own w B v l) : Row w v l := by
  rcases h.2 with ⟨rfl, hn⟩ | ⟨g, cap, cur, rfl, hb, hgg, hn, hm, hs, ht⟩
  · exact ⟨none, 0, 0, rfl, hn, Nat.le_refl _, Nat.zero_le _, .inl (List.eq_nil_of_length_eq_zero hn)⟩
  · refine ⟨some ⟨g, 0, none⟩, l.length, cap, rfl, rfl, hn, hm, .inr ⟨g, 0, rfl, fun i hi => ?_⟩⟩
    obtain ⟨h1, h2⟩ := cells2_get l i hi
    have e : ∀ j, ((⟨g, 0, none⟩ : Addr).add j) = ⟨g, 0 + j, none⟩ := fun j => Addr.add_lit g 0 j
    exact ⟨by rw [← e]; exact World.ownsRow.cells h rfl _ _ h1, by rw [Nat.add_assoc, ← e]; exact World.ownsRow.cells h rfl _ _ h2⟩
theorem Lies.grow {w w' : World} {a : Option Addr} {l : List Pc} (h : Lies w a l) (k : Below w.heap.size w w') : Lies w' a l := by
  rcases h with h | ⟨g, o, e, h4⟩
  · exact .inl h
  · refine .inr ⟨g, o, e, fun i hi => ?_⟩
    obtain ⟨a, b⟩ := h4 i hi
    exact ⟨(k.cell (cell_below a)).trans a, (k.cell (cell_below b)).trans b⟩
theorem Row.grow {w w' : World} {v : Value} {l : List Pc} (h : Row w v l) (k : Below w.heap.size w w') : Row w' v l := by
  obtain ⟨a, len, cap, e, h1, h2, h3, h4⟩ := h
  exact ⟨a, len, cap, e, h1, h2, h3, h4.grow k⟩

/-- One piece more behind a slice of the call's own. -/
theorem append_piece {w : World} {ops : Array Oper} {rest : List Oper} {o : Oper} {a : Act} {Q : Exit → Act → World → Prop} (hgd : o.guard = none) (s x : Operand)
    (ho : o.op = .call { callee := .builtin .append, args := #[s, x], argTypes := #[23, 23] }) {B : Nat} (v : Value) (m : List Pc) (hs : a.eval s = v) (hown : Own w B v m)
    (ad : Addr) (p : Pc) (hx : a.eval x = .slice (some ad) 1 1) (h0 : w.cell? (ad.add 0) = some (.int .i64 p.1)) (h1 : w.cell? (ad.add 1) = some (.int .i64 p.2)) (hm : m.length ≤ 1100000) (hB : B ≤ w.heap.size)
    (h : ∀ v' w', Own w' B v' (m ++ [p]) → w.grownBy w' v.ownBlock → wpList Try.prog ops Q rest (a.put o.dst v') w') : wpList Try.prog ops Q (o :: rest) a w := by
  obtain ⟨i0, hi, hz0, hz1, hz2⟩ := info_parts info_piece
  refine wpList_append_own w hgd s x 23 ho B 27 i0 (.agg #[.int .i64 0, .int .i64 0]) 2 16 Try.underlying23 hi hz0 hz1 hz2 rfl (by decide) v m.length (cells2 m) hs hown
    ad 1 1 [.int .i64 p.1, .int .i64 p.2] hx rfl ?_ (by simp [Value.oneCell']) (by unfold maxLen; omega) (by omega) hB ?_
  · intro j u hj
    match j, hj with
    | 0, hj => cases hj; exact h0
    | 1, hj => cases hj; exact h1
  · intro v' w' h2 h3 _
    refine h v' w' ?_ h3
    show w'.ownsRow B _ 2 v' (m ++ [p]).length (cells2 (m ++ [p]))
    rw [cells2_append, List.length_append]
    exact h2
theorem Own.below {w w' : World} {B : Nat} {v : Value} {m : List Pc} (h : Own w B v m) (hg : w.grownBy w' v.ownBlock) (hB : B ≤ w.heap.size) : Below B w w' :=
  (Below.refl _ _).grown hg hB fun k hk => (h.lt k hk).1
theorem new_two (w : World) (u v : Value) (t : TypeId) : (w.alloc (.cells #[u, v] t)).cell? ((⟨w.heap.size, 0, none⟩ : Addr).add 0) = some u ∧ (w.alloc (.cells #[u, v] t)).cell? ((⟨w.heap.size, 0, none⟩ : Addr).add 1) = some v := by
  constructor <;> (rw [show ∀ j, ((⟨w.heap.size, 0, none⟩ : Addr).add j) = ⟨w.heap.size, j, none⟩ from fun j => by unfold Addr.add; split <;> simp_all]; rw [World.cell?_alloc_new]; rfl)
end Go.Proofs.Ytdljfikgmhdedaa
