/- Lists of values of one cell each that a call builds up: bytes, strings. -/
import Derived.Test.YtcemgdekcfdfhaaDoorInts
import Derived.ArgAppend
namespace Go.Proofs.YtcemgdekcfdfhaaDoor
open Go.RowKit

/-- What the walk asks of a slice type of such values. -/
structure OneT (T S : TypeId) (z : Value) (k : Nat) : Prop where
  slice : Tryd.prog.underlying S = some (.slice T)
  info : (Tryd.prog.info? T).map (fun i => (i.zero, i.size, i.bytes)) = some (some z, 1, k)
  small : k ≤ 16
  zero : z.cells.size = 1
/-- A slice of the call's own that holds a list of values. -/
def VOwn (T : TypeId) (w : World) (B : Nat) (v : Value) (l : List Value) : Prop := w.ownsRow B T 1 v l.length l
variable {T S : TypeId}
theorem VOwn.lt {w : World} {B : Nat} {v : Value} {l : List Value} (h : VOwn T w B v l) : ∀ k, v.ownBlock = some k → B ≤ k ∧ k < w.heap.size := World.ownsRow.lt h
theorem VOwn.grow {w w' : World} {B : Nat} {v : Value} {l : List Value} (h : VOwn T w B v l) (k : Below w.heap.size w w') : VOwn T w' B v l := by
  have hl := h.lt
  refine ⟨h.1, ?_⟩
  rcases h.2 with hn | ⟨g, cap, cur, rfl, hb, hgg, rest⟩
  · exact .inl hn
  · exact .inr ⟨g, cap, cur, rfl, hb, (k.block g (hl g rfl).2).trans hgg, rest⟩
theorem VOwn.same {w w' : World} {B : Nat} {v : Value} {l : List Value} (h : VOwn T w B v l) (k : ∀ b, v.ownBlock = some b → w'.heap[b]? = w.heap[b]?) : VOwn T w' B v l := by
  refine ⟨h.1, ?_⟩
  rcases h.2 with hn | ⟨g, cap, cur, rfl, hb, hgg, rest⟩
  · exact .inl hn
  · exact .inr ⟨g, cap, cur, rfl, hb, (k g rfl).trans hgg, rest⟩
theorem VOwn.mono {w : World} {B B' : Nat} {v : Value} {l : List Value} (h : VOwn T w B v l) (k : B' ≤ B) : VOwn T w B' v l := by
  refine ⟨h.1, ?_⟩
  rcases h.2 with hn | ⟨g, cap, cur, rfl, hb, rest⟩
  · exact .inl hn
  · exact .inr ⟨g, cap, cur, rfl, Nat.le_trans k hb, rest⟩
/-- Empty as yet (a slice without room), or in a block of its own from B on. -/
def GrwV (T : TypeId) (w : World) (B : Nat) (v : Value) (l : List Value) : Prop := (l = [] ∧ ∃ a, v = .slice a 0 0) ∨ VOwn T w B v l
theorem GrwV.grow {w w' : World} {B : Nat} {v : Value} {l : List Value} (h : GrwV T w B v l) (k : Below w.heap.size w w') : GrwV T w' B v l := by
  rcases h with h | h
  · exact .inl h
  · exact .inr (h.grow k)
theorem wp_grwv {z : Value} {k : Nat} (PT : OneT T S z k) {w : World} {o : Oper} {a : Act} {K : Act → World → Prop} {Q : Exit → Act → World → Prop} (s x : Operand)
    (ho : o.op = .call { callee := .builtin .append, args := #[s, x], argTypes := #[S, S] }) {B : Nat} (v : Value) (m : List Value) (hs : a.eval s = v) (hown : GrwV T w B v m)
    (ad : Addr) (p : Value) (hp : p.oneCell' = true) (hx : a.eval x = .slice (some ad) 1 1) (h0 : w.cell? (ad.add 0) = some p) (hm : m.length ≤ 1000000) (hB : B ≤ w.heap.size)
    (h : ∀ v' w', VOwn T w' B v' (m ++ [p]) → Below B w w' → (∀ k, k < w.heap.size → ((m = [] ∧ ∃ a, v = .slice a 0 0) ∨ v.ownBlock ≠ some k) → w'.heap[k]? = w.heap[k]?) → K (a.put o.dst v') w') : Oper.wp Tryd.prog o a w K Q := by
  obtain ⟨i0, hi, hz0, hz1, hz2⟩ := info_parts PT.info
  have hk := PT.small
  have nb : (m.length + 1) * k ≤ 140737488355328 := Nat.le_trans (Nat.mul_le_mul_left _ hk) (by omega)
  have news : ∀ j u, ([p] : List Value)[j]? = some u → w.cell? (ad.add j) = some u := fun j u hj => by
    match j, hj with
    | 0, hj => cases hj; exact h0
  have one : ∀ u ∈ ([p] : List Value), u.oneCell' = true := fun u hu => by simp only [List.mem_singleton] at hu; subst hu; exact hp
  by_cases he : m = [] ∧ ∃ a, v = .slice a 0 0
  · obtain ⟨rfl, ao, rfl⟩ := he
    clear hown
    have fin : ∀ v' w', w'.ownsRow w.heap.size T 1 v' (0 + 1) ([] ++ [p]) → w.grownBy w' none → K (a.put o.dst v') w' := fun v' w' h2 h3 =>
      h v' w' (VOwn.mono (B := w.heap.size) h2 hB) ((Below.refl _ _).grown h3 hB fun k hk => by cases hk) (fun k hk _ => h3.block k hk (by simp))
    cases ao with
    | some b =>
      obtain ⟨v', w', hrun, r1, r2⟩ := run_append_arg_grows (P := Tryd.prog) w S o.type T i0 z 1 k PT.slice hi hz0 hz1 hz2 PT.zero (by decide) b 0 0 [] rfl (fun j u hu => by simp at hu) ad 1 1 [p] rfl news (by omega) (by unfold maxLen; omega) (by simpa using nb)
      unfold Oper.wp
      simp [execOp, ho, resolve, invoke, builtin, hs, hx, hrun, Result.andThen]
      exact fin _ _ r1 r2
    | none =>
      obtain ⟨v', w', hrun, r1, r2, _⟩ := run_append_own (P := Tryd.prog) w w.heap.size S o.type T i0 z 1 k PT.slice hi hz0 hz1 hz2 PT.zero (by decide) (.slice none 0 0) 0 [] (World.ownsRow_nil w _ T 1) ad 1 1 [p] rfl news one (by unfold maxLen; omega) (by simpa using nb) (Nat.le_refl _)
      unfold Oper.wp
      simp [execOp, ho, resolve, invoke, builtin, hs, hx, hrun, Result.andThen]
      exact fin _ _ r1 r2
  · have hown : VOwn T w B v m := by
      rcases hown with h9 | h9
      · exact absurd h9 he
      · exact h9
    refine wp_append_own w s x S ho B T i0 z 1 k PT.slice hi hz0 hz1 hz2 PT.zero (by decide) v m.length m hs hown ad 1 1 [p] hx rfl news one (by unfold maxLen; omega) nb hB ?_
    intro v' w' h2 h3 _
    refine h v' w' ?_ ((Below.refl _ _).grown h3 hB fun k hk => (hown.lt k hk).1) (fun k hk hc => h3.block k hk (by
      rcases hc with hc | hc
      · exact absurd hc he
      · first | exact hc | exact fun e => hc e.symm))
    show w'.ownsRow B T 1 v' (m ++ [p]).length (m ++ [p])
    rw [List.length_append]
    exact h2
theorem grwv_append {z : Value} {k : Nat} (PT : OneT T S z k) {w : World} {ops : Array Oper} {rest : List Oper} {o : Oper} {a : Act} {Q : Exit → Act → World → Prop} (hgd : o.guard = none) (s x : Operand)
    (ho : o.op = .call { callee := .builtin .append, args := #[s, x], argTypes := #[S, S] }) {B : Nat} (v : Value) (m : List Value) (hs : a.eval s = v) (hown : GrwV T w B v m)
    (ad : Addr) (p : Value) (hp : p.oneCell' = true) (hx : a.eval x = .slice (some ad) 1 1) (h0 : w.cell? (ad.add 0) = some p) (hm : m.length ≤ 1000000) (hB : B ≤ w.heap.size)
    (h : ∀ v' w', VOwn T w' B v' (m ++ [p]) → Below B w w' → wpList Tryd.prog ops Q rest (a.put o.dst v') w') : wpList Tryd.prog ops Q (o :: rest) a w := by
  refine wpList_plain hgd fun K hK => ?_
  exact wp_grwv PT s x ho v m hs hown ad p hp hx h0 hm hB fun v' w' h2 h3 _ => hK _ _ (h v' w' h2 h3)
/-- .. at a step of a region that draws its order. -/
theorem step_grwv {z : Value} {k : Nat} (PT : OneT T S z k) {w : World} {ops : Array Oper} {o : Oper} {a : Act} {K : Act → World → Prop} {Q : Exit → Act → World → Prop} {E : Prop} (hgd : o.guard = none) (s x : Operand)
    (ho : o.op = .call { callee := .builtin .append, args := #[s, x], argTypes := #[S, S] }) {B : Nat} (v : Value) (m : List Value) (hs : a.eval s = v) (hown : GrwV T w B v m)
    (ad : Addr) (p : Value) (hp : p.oneCell' = true) (hx : a.eval x = .slice (some ad) 1 1) (h0 : w.cell? (ad.add 0) = some p) (hm : m.length ≤ 1000000) (hB : B ≤ w.heap.size)
    (h : ∀ v' w', VOwn T w' B v' (m ++ [p]) → Below B w w' → (∀ k, k < w.heap.size → ((m = [] ∧ ∃ a, v = .slice a 0 0) ∨ v.ownBlock ≠ some k) → w'.heap[k]? = w.heap[k]?) → K (a.put o.dst v') w') : if Region.wanted o (yielded ops a.tmps) = true then Oper.wp Tryd.prog o a w K Q else E := by
  rw [if_pos (by simp [Region.wanted, hgd])]
  exact wp_grwv PT s x ho v m hs hown ad p hp hx h0 hm hB h
/-- What lies in such a list. -/
theorem VOwn.parts {w : World} {B : Nat} {v : Value} {l : List Value} (h : VOwn T w B v l) (h0 : 0 < l.length) :
    ∃ g c, v = .slice (some ⟨g, 0, none⟩) l.length c ∧ l.length ≤ c ∧ c ≤ maxLen ∧ g < w.heap.size ∧ ∀ i (hi : i < l.length), w.cell? ⟨g, i, none⟩ = some l[i] := by
  have hl := h.lt
  have h' := h
  rcases h.2 with ⟨_, hn⟩ | ⟨g, cap, cur, rfl, hb, hgg, hn, hm, hs, ht⟩
  · omega
  · refine ⟨g, cap, rfl, hn, hm, (hl g rfl).2, fun i hi => ?_⟩
    exact (World.ownsRow.cellAt h' i (by omega)).trans (by simp [hi])
end Go.Proofs.YtcemgdekcfdfhaaDoor
