/- A region that draws its order, walked in one forced order. -/
import Derived.WalkKit
import Derived.ProofKit
import Derived.BigRegion
import Derived.Deep.RegionHeld3
import Derived.Deep.AppendLies
import Derived.Test.YtcemgdekcfdfhaaDoorPair
namespace Go.Proofs.YtcemgdekcfdfhaaDoor
open Go.RowKit

/-- A guarded operation of a region that is left out: number i, its slot d. -/
theorem take_no {P : Program} {md : Region.Mode} {ops : Array Oper} {Q : Exit → Act → World → Prop} (i d : Nat) {oi : Oper} {fuel : Nat} {listed : Array Bool} {a : Act} {w : World} (hi : ops[i]? = some oi) (hd : oi.dst = some d)
    (hs : Region.noSelect ops = true) (hf : Region.free md ops listed i = true) (hr : (Region.ready md ops listed).contains i = true)
    (hQ : ∀ c a w, Q (.panic c) (a.put oi.dst undef) w → Q (.panic c) a w) (hn : Region.wanted oi (yielded ops a.tmps) = false)
    (h : wpAny P md ops Q fuel (listed.setIfInBounds i true) (a.put (some d) undef) w) : wpAny P md ops Q (fuel + 1) listed a w :=
  wpAny_take hi hs hf hr hQ (Or.inr ⟨hn, rfl⟩) (by rw [hd]; exact h)
/-- An operation that yields the same in whatever world: it is taken first. -/
theorem take_yes {P : Program} {md : Region.Mode} {ops : Array Oper} {Q : Exit → Act → World → Prop} (i d : Nat) {oi : Oper} {v : Value} {fuel : Nat} {listed : Array Bool} {a : Act} {w : World} (hi : ops[i]? = some oi) (hd : oi.dst = some d)
    (hs : Region.noSelect ops = true) (hf : Region.free md ops listed i = true) (hr : (Region.ready md ops listed).contains i = true)
    (hQ : ∀ c a w, Q (.panic c) (a.put oi.dst v) w → Q (.panic c) a w) (hy : Yields P ops oi v a)
    (h : wpAny P md ops Q fuel (listed.setIfInBounds i true) (a.put (some d) v) w) : wpAny P md ops Q (fuel + 1) listed a w :=
  wpAny_take hi hs hf hr hQ hy (by rw [hd]; exact h)
/-- In the worlds that meet S: an operation that yields the same is taken first. -/
theorem take_h {P : Program} {md : Region.Mode} {ops : Array Oper} {Q : Exit → Act → World → Prop} {S : World → Prop} (i d : Nat) {oi : Oper} {v : Value} {fuel : Nat} {listed : Array Bool} {a : Act} {w : World} (hi : ops[i]? = some oi) (hd : oi.dst = some d)
    (hs : Region.noSelect ops = true) (hf : Region.free md ops listed i = true) (hr : (Region.ready md ops listed).contains i = true)
    (hQ : ∀ c a w, Q (.panic c) (a.put oi.dst v) w → Q (.panic c) a w) (hw : Region.wanted oi (yielded ops a.tmps) = true) (hv : ∀ w, S w → (execOp a.eval oi).run P w = .ok (.value v) w) (hS : S w)
    (h : wpAnyH P md ops Q S fuel (listed.setIfInBounds i true) (a.put (some d) v) w) : wpAnyH P md ops Q S (fuel + 1) listed a w :=
  wpAnyH_take hi hs hf hr hQ (Or.inl ⟨hw, hv⟩) hS (by rw [hd]; exact h)
/-- .. and a guarded one that is left out. -/
theorem skip_h {P : Program} {md : Region.Mode} {ops : Array Oper} {Q : Exit → Act → World → Prop} {S : World → Prop} (i d : Nat) {oi : Oper} {fuel : Nat} {listed : Array Bool} {a : Act} {w : World} (hi : ops[i]? = some oi) (hd : oi.dst = some d)
    (hs : Region.noSelect ops = true) (hf : Region.free md ops listed i = true) (hr : (Region.ready md ops listed).contains i = true)
    (hQ : ∀ c a w, Q (.panic c) (a.put oi.dst undef) w → Q (.panic c) a w) (hw : Region.wanted oi (yielded ops a.tmps) = false) (hS : S w)
    (h : wpAnyH P md ops Q S fuel (listed.setIfInBounds i true) (a.put (some d) undef) w) : wpAnyH P md ops Q S (fuel + 1) listed a w :=
  wpAnyH_take hi hs hf hr hQ (Or.inr ⟨hw, rfl⟩) hS (by rw [hd]; exact h)
/-- At a step of a region that draws its order: one pair more behind a slice of the call's own. -/
theorem step_append_pair {T S : TypeId} (PT : PairT T S) {w : World} {ops : Array Oper} {o : Oper} {a : Act} {K : Act → World → Prop} {Q : Exit → Act → World → Prop} {E : Prop} (hgd : o.guard = none) (s x : Operand)
    (ho : o.op = .call { callee := .builtin .append, args := #[s, x], argTypes := #[S, S] }) {B : Nat} (v : Value) (m : List Pc) (hs : a.eval s = v) (hown : Own T w B v m)
    (ad : Addr) (p : Pc) (hx : a.eval x = .slice (some ad) 1 1) (h0 : w.cell? (ad.add 0) = some (.int .i64 p.1)) (h1 : w.cell? (ad.add 1) = some (.int .i64 p.2)) (hm : m.length ≤ 1000000) (hB : B ≤ w.heap.size)
    (h : ∀ v' w', Own T w' B v' (m ++ [p]) → w.grownBy w' v.ownBlock → K (a.put o.dst v') w') :
    if Region.wanted o (yielded ops a.tmps) = true then Oper.wp Tryd.prog o a w K Q else E := by
  obtain ⟨i0, hi, hz0, hz1, hz2⟩ := info_parts PT.info
  refine step_append_lies w hgd s x S ho B T i0 (.agg #[.int .i64 0, .int .i64 0]) 2 16 PT.slice hi hz0 hz1 hz2 rfl (by decide) v m.length (cells2 m) hs hown
    ad 1 1 [.int .i64 p.1, .int .i64 p.2] hx rfl (fun j u hj => ?_) (by simp [Value.oneCell']) (by omega) (by unfold maxLen; omega) (by omega) hB _ rfl ?_
  · match j, hj with
    | 0, hj => cases hj; exact h0
    | 1, hj => cases hj; exact h1
  · intro g cap w' h2 h3 _ _
    refine h _ w' ?_ h3
    show w'.ownsRow _ _ 2 _ (m ++ [p]).length (cells2 (m ++ [p]))
    rw [cells2_append, List.length_append]
    exact h2
theorem new_two_drew (w : World) (u v : Value) (t : TypeId) : (w.alloc (.cells #[u, v] t)).drew.cell? ((⟨w.heap.size, 0, none⟩ : Addr).add 0) = some u ∧ (w.alloc (.cells #[u, v] t)).drew.cell? ((⟨w.heap.size, 0, none⟩ : Addr).add 1) = some v := new_two w u v t
theorem held2 {w w' : World} {a b : Addr} {u v : Value} (h : Below w.heap.size w w') (h1 : w.cell? a = some u) (h2 : w.cell? b = some v) : w'.cell? a = some u ∧ w'.cell? b = some v :=
  ⟨(h.cell (cell_below h1)).trans h1, (h.cell (cell_below h2)).trans h2⟩
theorem held3 {w w' : World} {a b c : Addr} {u v x : Value} (h : Below w.heap.size w w') (h1 : w.cell? a = some u) (h2 : w.cell? b = some v) (h3 : w.cell? c = some x) :
    w'.cell? a = some u ∧ w'.cell? b = some v ∧ w'.cell? c = some x :=
  ⟨(h.cell (cell_below h1)).trans h1, (h.cell (cell_below h2)).trans h2, (h.cell (cell_below h3)).trans h3⟩
theorem held4 {w w' : World} {a b c d : Addr} {u v x y : Value} (h : Below w.heap.size w w') (h1 : w.cell? a = some u) (h2 : w.cell? b = some v) (h3 : w.cell? c = some x) (h4 : w.cell? d = some y) :
    w'.cell? a = some u ∧ w'.cell? b = some v ∧ w'.cell? c = some x ∧ w'.cell? d = some y :=
  ⟨(h.cell (cell_below h1)).trans h1, (h.cell (cell_below h2)).trans h2, (h.cell (cell_below h3)).trans h3, (h.cell (cell_below h4)).trans h4⟩
theorem held5 {w w' : World} {a b c d e : Addr} {u v x y z : Value} (h : Below w.heap.size w w') (h1 : w.cell? a = some u) (h2 : w.cell? b = some v) (h3 : w.cell? c = some x) (h4 : w.cell? d = some y) (h5 : w.cell? e = some z) :
    w'.cell? a = some u ∧ w'.cell? b = some v ∧ w'.cell? c = some x ∧ w'.cell? d = some y ∧ w'.cell? e = some z :=
  ⟨(h.cell (cell_below h1)).trans h1, (h.cell (cell_below h2)).trans h2, (h.cell (cell_below h3)).trans h3, (h.cell (cell_below h4)).trans h4, (h.cell (cell_below h5)).trans h5⟩
end Go.Proofs.YtcemgdekcfdfhaaDoor
