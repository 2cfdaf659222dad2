/- A list of pairs that a call builds up, behind whatever memory it made before: empty as yet, or in a block made since. -/
import Derived.Test.YtcemgdekcfdfhaaDoorPair
import Derived.ArgAppend
namespace Go.Proofs.YtcemgdekcfdfhaaDoor
open Go.RowKit

/-- Empty as yet (a slice without room), or in a block of its own from B on. -/
def GrwP (T : TypeId) (w : World) (B : Nat) (v : Value) (l : List Pc) : Prop := (l = [] ∧ ∃ a, v = .slice a 0 0) ∨ Own T w B v l
theorem GrwP.grow {T : TypeId} {w w' : World} {B : Nat} {v : Value} {l : List Pc} (h : GrwP T w B v l) (k : Below w.heap.size w w') : GrwP T w' B v l := by
  rcases h with h | h
  · exact .inl h
  · exact .inr (h.grow k)
theorem GrwP.row {T : TypeId} {w : World} {B : Nat} {v : Value} {l : List Pc} (h : GrwP T w B v l) : Row w v l := by
  rcases h with ⟨rfl, a, rfl⟩ | h
  · exact row_empty a (by unfold maxLen; omega)
  · exact h.row
theorem grwp_append {T S : TypeId} (PT : PairT T S) {w : World} {ops : Array Oper} {rest : List Oper} {o : Oper} {a : Act} {Q : Exit → Act → World → Prop} (hgd : o.guard = none) (s x : Operand)
    (ho : o.op = .call { callee := .builtin .append, args := #[s, x], argTypes := #[S, S] }) {B : Nat} (v : Value) (m : List Pc) (hs : a.eval s = v) (hown : GrwP T w B v m)
    (ad : Addr) (p : Pc) (hx : a.eval x = .slice (some ad) 1 1) (h0 : w.cell? (ad.add 0) = some (.int .i64 p.1)) (h1 : w.cell? (ad.add 1) = some (.int .i64 p.2)) (hm : m.length ≤ 1000000) (hB : B ≤ w.heap.size)
    (h : ∀ v' w', Own T w' B v' (m ++ [p]) → Below B w w' → wpList Tryd.prog ops Q rest (a.put o.dst v') w') : wpList Tryd.prog ops Q (o :: rest) a w := by
  rcases hown with ⟨rfl, ao, rfl⟩ | hown
  · obtain ⟨i0, hi, hz0, hz1, hz2⟩ := info_parts PT.info
    refine wpList_append_grows w hgd s x S ho T i0 (.agg #[.int .i64 0, .int .i64 0]) 2 16 PT.slice hi hz0 hz1 hz2 rfl (by decide) ao 0 0 [] hs (fun _ => ⟨rfl, rfl⟩) rfl (fun b _ j u hu => by simp at hu) ad 1 1 [.int .i64 p.1, .int .i64 p.2] hx rfl (fun j u hj => ?_) (by simp [Value.oneCell']) (by omega) (by unfold maxLen; omega) (by omega) ?_
    · match j, hj with
      | 0, hj => cases hj; exact h0
      | 1, hj => cases hj; exact h1
    · intro v' w' h2 h3
      refine h v' w' (Own.mono (B := w.heap.size) ?_ hB) ((Below.refl _ _).grown h3 hB fun k hk => by cases hk)
      exact h2
  · exact append_pair PT hgd s x ho v m hs hown ad p hx h0 h1 hm hB fun v' w' h2 h3 => h v' w' h2 (hown.below h3 hB)
end Go.Proofs.YtcemgdekcfdfhaaDoor
