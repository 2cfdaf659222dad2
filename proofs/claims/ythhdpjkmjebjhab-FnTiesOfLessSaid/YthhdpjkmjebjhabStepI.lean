/- At a step of a region that draws its order: a list more behind a slice of integers of the call's own. -/
import Derived.Test.YthhdpjkmjebjhabInts
import Derived.Test.YthhdpjkmjebjhabRegion
namespace Go.Proofs.Ythhdpjkmjebjhab
open Go.RowKit

theorem step_iappend_list {S : TypeId} (PT : IntT S) {w : World} {ops : Array Oper} {o : Oper} {a : Act} {K : Act → World → Prop} {Q : Exit → Act → World → Prop} {E : Prop} (hgd : o.guard = none) (s x : Operand)
    (ho : o.op = .call { callee := .builtin .append, args := #[s, x], argTypes := #[S, S] }) {B : Nat} (v : Value) (m : List Int) (hs : a.eval s = v) (hown : IOwn w B v m)
    (ad : Addr) (n c : Nat) (ms : List Int) (hx : a.eval x = .slice (some ad) n c) (hn : ms.length = n) (hnews : ∀ j u, (cells1 ms)[j]? = some u → w.cell? (ad.add j) = some u) (hm : m.length + n ≤ 1100000) (hB : B ≤ w.heap.size)
    (h : ∀ v' w', IOwn w' B v' (m ++ ms) → w.grownBy w' v.ownBlock → K (a.put o.dst v') w') : if Region.wanted o (yielded ops a.tmps) = true then Oper.wp Try.prog o a w K Q else E := by
  obtain ⟨i0, hi, hz0, hz1, hz2⟩ := info_parts intInfo
  have hw : Region.wanted o (yielded ops a.tmps) = true := by simp [Region.wanted, hgd]
  rw [if_pos hw]
  refine wp_append_own w s x S ho B 3 i0 (.int .i64 0) 1 8 PT hi hz0 hz1 hz2 rfl (by decide) v m.length (cells1 m) hs hown
    ad n c (cells1 ms) hx (by rw [cells1_length, hn]) hnews (cells1_one ms) (by unfold maxLen; omega) (by omega) hB ?_
  intro v' w' h2 h3 _
  refine h v' w' ?_ h3
  show w'.ownsRow B _ 1 v' (m ++ ms).length (cells1 (m ++ ms))
  rw [cells1_append, List.length_append, hn]
  exact h2
/-- A world that is W, or more. -/
def Since (W w' : World) : Prop := Below W.heap.size W w'
theorem Since.alloc {W w' : World} (h : Since W w') (o : Obj) : Since W (w'.alloc o) := Below.alloc h h.size _
theorem Since.drew {W w' : World} (h : Since W w') : Since W w'.drew := Below.drew h
theorem since_refl (W : World) : Since W W := Below.refl _ _
theorem Since.appended {W w1 w2 : World} {v : Value} {l : List Int} (h : Since W w1) (o : IOwn w1 W.heap.size v l) (hg : w1.grownBy w2 v.ownBlock) : Since W w2 :=
  Below.grown h hg h.size fun k hk => (o.lt k hk).1
/-- The cells of a list that lay there at W. -/
def Rests (W : World) (ad : Addr) (l : List Int) : Prop := ∀ j u, (cells1 l)[j]? = some u → W.cell? (ad.add j) = some u
theorem Rests.since {W w' : World} {ad : Addr} {l : List Int} (h : Rests W ad l) (k : Since W w') : Rests w' ad l := fun j u hu => (Below.cell k (cell_below (h j u hu))).trans (h j u hu)
theorem rests_row {w : World} {g o n c : Nat} {l : List Int} (h : IRow w (.slice (some ⟨g, o, none⟩) n c) l) : Rests w ⟨g, o, none⟩ l := ilies_news fun i hi => h.cells i hi
theorem rests_nil (w : World) (ad : Addr) : Rests w ad [] := fun j u hu => by simp [cells1] at hu
theorem rests_one {w : World} {b : Nat} {x : Int} (h0 : w.cell? ⟨b, 0, none⟩ = some (.int .i64 x)) : Rests w ⟨b, 0, none⟩ [x] := fun j u hu => by
  rw [Addr.add_lit, Nat.zero_add]
  match j, hu with
  | 0, hu => cases hu; exact h0
/-- What an append needs of the slice that an empty literal has made, whatever is made behind it. -/
theorem iown_empty {W w' : World} {b : Nat} (h : w'.heap[b]? = some (.cells #[] 3 (0, 0))) (hb : W.heap.size ≤ b) : IOwn w' W.heap.size (.slice (some ⟨b, 0, none⟩) 0 0) [] :=
  ⟨rfl, .inr ⟨b, 0, #[], rfl, hb, h, Nat.le_refl _, Nat.zero_le _, rfl, rfl⟩⟩
end Go.Proofs.Ythhdpjkmjebjhab
