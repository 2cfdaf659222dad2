/- A list of integers that a call builds up, behind whatever memory it made before: empty as yet, or in a block made since. -/
import Derived.Test.YtanfalkpmmkklaaDoorInts
import Derived.ArgAppend
namespace Go.Proofs.YtanfalkpmmkklaaDoor
open Go.RowKit

/-- Empty as yet (a slice without room), or in a block of its own from B on. -/
def Grw (w : World) (B : Nat) (v : Value) (l : List Int) : Prop := (l = [] ∧ ∃ a, v = .slice a 0 0) ∨ IOwn w B v l
theorem Grw.grow {w w' : World} {B : Nat} {v : Value} {l : List Int} (h : Grw w B v l) (k : Below w.heap.size w w') : Grw w' B v l := by
  rcases h with h | h
  · exact .inl h
  · exact .inr (h.grow k)
theorem grw_append {S : TypeId} (PT : IntT S) {w : World} {ops : Array Oper} {rest : List Oper} {o : Oper} {a : Act} {Q : Exit → Act → World → Prop} (hgd : o.guard = none) (s x : Operand)
    (ho : o.op = .call { callee := .builtin .append, args := #[s, x], argTypes := #[S, S] }) {B : Nat} (v : Value) (m : List Int) (hs : a.eval s = v) (hown : Grw w B v m)
    (ad : Addr) (p : Int) (hx : a.eval x = .slice (some ad) 1 1) (h0 : w.cell? (ad.add 0) = some (.int .i64 p)) (hm : m.length ≤ 1000000) (hB : B ≤ w.heap.size)
    (h : ∀ v' w', IOwn w' B v' (m ++ [p]) → Below B w w' → wpList Tryd.prog ops Q rest (a.put o.dst v') w') : wpList Tryd.prog ops Q (o :: rest) a w := by
  rcases hown with ⟨rfl, ao, rfl⟩ | hown
  · obtain ⟨i0, hi, hz0, hz1, hz2⟩ := info_parts intInfo
    refine wpList_append_grows w hgd s x S ho 3 i0 (.int .i64 0) 1 8 PT hi hz0 hz1 hz2 rfl (by decide) ao 0 0 [] hs (fun _ => ⟨rfl, rfl⟩) rfl (fun b _ j u hu => by simp at hu) ad 1 1 [.int .i64 p] hx rfl (fun j u hj => by
      match j, hj with
      | 0, hj => cases hj; exact h0) (by simp [Value.oneCell']) (by omega) (by unfold maxLen; omega) (by omega) ?_
    intro v' w' h2 h3
    refine h v' w' (IOwn.mono (B := w.heap.size) ?_ hB) ((Below.refl _ _).grown h3 hB fun k hk => by cases hk)
    exact h2
  · exact iappend_one PT hgd s x ho v m hs hown ad p hx h0 hm hB fun v' w' h2 h3 => h v' w' h2 (hown.below h3 hB)
end Go.Proofs.YtanfalkpmmkklaaDoor
