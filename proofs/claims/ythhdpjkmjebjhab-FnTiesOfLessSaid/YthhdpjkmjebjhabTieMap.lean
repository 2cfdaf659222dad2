/- A map from integers to integers that the call itself has made, told by its pairs; a range over it, told by the keys that are still to come. No program in it. -/
import Derived.Maps.OwnSet
import Derived.Maps.RangeWalk
import Derived.Below
import Derived.WalkKit
import Derived.OwnWalk
namespace Go.Proofs.Ythhdpjkmjebjhab
open Go.RowKit Go.Maps

/-- The pairs of a datum. -/
def prs (D : DataW Unit) (x y : Int) : Prop := ∀ z, D.atKey (.int .i64 x) z = .lit (.int .i64 y)
theorem prs_fun {D : DataW Unit} {x y y' : Int} (h : prs D x y) (h' : prs D x y') : y = y' := by
  have := (h .nil).symm.trans (h' .nil)
  simpa using this
theorem prs_empty (x y : Int) : ¬ prs (.map []) x y := fun h => by
  have := h .nil
  simp [DataW.atKey] at this
theorem key_lit (x : Int) : WideAt.IsKeyLit (.int .i64 x) := trivial
theorem prs_put {D : DataW Unit} (hD : IsMap D) (k c x y : Int) : prs (D.put (.int .i64 k) (.lit (.int .i64 c))) x y ↔ (x = k ∧ y = c) ∨ (x ≠ k ∧ prs D x y) := by
  by_cases e : x = k
  · subst e
    constructor
    · intro h
      have := h .nil
      rw [atKey_put_same hD (key_lit x)] at this
      exact .inl ⟨rfl, by simpa using this.symm⟩
    · rintro (⟨_, rfl⟩ | ⟨h, _⟩)
      · exact fun z => atKey_put_same hD (key_lit x) _ z
      · exact absurd rfl h
  · have ne : (Lit.int .i64 x) ≠ .int .i64 k := by simpa using e
    constructor
    · intro h
      exact .inr ⟨e, fun z => by rw [← h z]; exact (atKey_put_other ne _ z).symm⟩
    · rintro (⟨h, _⟩ | ⟨_, h⟩)
      · exact absurd h e
      · exact fun z => by rw [atKey_put_other ne]; exact h z

/-- Numbers that fit. -/
def in64 (x : Int) : Prop := (Lit.int .i64 x).wf = true
theorem in64_of {x : Int} (h : -1000000 ≤ x) (k : x ≤ 1000000) : in64 x := by
  have m : IntKind.min .i64 = -9223372036854775808 := by decide
  have M : IntKind.max .i64 = 9223372036854775807 := by decide
  simp only [in64, Lit.wf, Bool.and_eq_true, decide_eq_true_eq, m, M]
  omega
/-- What the walk asks of a map type. -/
structure IntMap (P : Program) (t I : TypeId) : Prop where
  i : P.underlying I = some (.int .i64)
  m : P.underlying t = some (.map I I)
  z : ∀ w, (zeroValue I).run P w = .ok (.int .i64 0) w
/-- Block b is a map of at most n entries, whose pairs are those of G. -/
def IM (P : Program) (I : TypeId) (w : World) (b n : Nat) (G : Int → Int → Prop) : Prop :=
  ∃ D : DataW Unit, w.ownsMap P I (plainElem P I) b n D ∧ ∀ x y, prs D x y ↔ G x y
variable {P : Program} {t I : TypeId} {w w' : World} {b n r : Nat} {G G' : Int → Int → Prop}
theorem own_isMap {D : DataW Unit} (h : w.ownsMap P I (plainElem P I) b n D) : IsMap D := by
  obtain ⟨es, clock, _, _, _, hD⟩ := h
  exact ⟨_, hD⟩
theorem prs_of_has {D : DataW Unit} (h : w.ownsMap P I (plainElem P I) b n D) (T : IntMap P t I) {x : Int} (hx : in64 x) (hh : has D (.int .i64 x) = true) : ∃ c, prs D x c := by
  obtain ⟨c, hrun, hat, hwc⟩ := h.lookup_int (int_keyed T.i) T.m T.i (T.z w) (keyOf_int_mk T.i hx)
  refine ⟨c, fun z => ?_⟩
  obtain ⟨es, rfl⟩ := own_isMap h
  rw [← hat]
  rw [has_eq] at hh
  obtain ⟨p, hp, hk⟩ := List.any_eq_true.1 hh
  cases hf : es.find? (fun p => p.1.sameKey (.int .i64 x)) with
  | none => exact absurd hk (by simpa using List.find?_eq_none.1 hf p hp)
  | some q => simp [DataW.atKey, hf]
theorem has_of_prs {D : DataW Unit} {x c : Int} (h : prs D x c) : has D (.int .i64 x) = true := has_true_of_atKey h
theorem prs_in64 {D : DataW Unit} (h : w.ownsMap P I (plainElem P I) b n D) (T : IntMap P t I) {x c : Int} (hx : prs D x c) : in64 x ∧ in64 c := by
  obtain ⟨es, clock, hb, F, hs, hD⟩ := h
  have hh := has_of_prs hx
  subst hD
  obtain ⟨p, hp, hk⟩ := List.any_eq_true.1 hh
  obtain ⟨a, ha, rfl⟩ := List.mem_map.1 (mem_sorted.1 hp)
  obtain ⟨y, hy⟩ := F.reads a ha
  have hrg := WideElems.rg_of hy
  have hkey := WideElems.rd_key hy
  have e1 := WideAt.sameKey_eq hk
  rw [hrg] at e1
  rw [e1] at hkey
  obtain ⟨x', _, e2, hw⟩ := Maps.keyOf_int_inv T.i hkey
  have : x = x' := by simpa using e2
  subst this
  refine ⟨hw, ?_⟩
  have own : w.ownsMap P I (plainElem P I) b n _ := ⟨es, clock, hb, F, hs, rfl⟩
  obtain ⟨c', _, hat, hwc⟩ := own.lookup_int (int_keyed T.i) T.m T.i (T.z w) (keyOf_int_mk T.i hw)
  rw [hx _] at hat
  have : c = c' := by simpa using hat
  subst this
  exact hwc

theorem IM.lt (h : IM P I w b n G) : b < w.heap.size := by obtain ⟨D, h, _⟩ := h; exact h.lt
theorem IM.same (h : IM P I w b n G) (hb : w'.heap[b]? = w.heap[b]?) : IM P I w' b n G := by
  obtain ⟨D, ⟨es, clock, h1, F, hs, hD⟩, hp⟩ := h
  exact ⟨D, ⟨es, clock, hb.trans h1, F, hs, hD⟩, hp⟩
theorem IM.grow (h : IM P I w b n G) (k : Below w.heap.size w w') : IM P I w' b n G := h.same (k.block b h.lt)
theorem IM.mono {n' : Nat} (h : IM P I w b n G) (k : n ≤ n') : IM P I w b n' G := by
  obtain ⟨D, h, hp⟩ := h; exact ⟨D, h.mono k, hp⟩
theorem IM.iff (h : IM P I w b n G) (e : ∀ x y, G x y ↔ G' x y) : IM P I w b n G' := by
  obtain ⟨D, h, hp⟩ := h; exact ⟨D, h, fun x y => (hp x y).trans (e x y)⟩
theorem IM.fn (h : IM P I w b n G) {x y y' : Int} (k : G x y) (k' : G x y') : y = y' := by
  obtain ⟨D, h, hp⟩ := h; exact prs_fun ((hp x y).2 k) ((hp x y').2 k')
theorem IM.fit (h : IM P I w b n G) (T : IntMap P t I) {x y : Int} (k : G x y) : in64 x ∧ in64 y := by
  obtain ⟨D, h, hp⟩ := h; exact prs_in64 h T ((hp x y).2 k)
theorem im_new (P : Program) (I : TypeId) (w : World) : IM P I (w.alloc (.map #[] 0)) w.heap.size 0 (fun _ _ => False) :=
  ⟨.map [], World.ownsMap_made w P I _, fun x y => ⟨fun h => prs_empty x y h, fun h => h.elim⟩⟩
theorem IM.look (h : IM P I w b n G) (T : IntMap P t I) {x : Int} (hx : in64 x) :
    (∃ c, G x c ∧ (Instr.lookup t (.map (some b)) (.int .i64 x) true).run P w = .ok (.tuple #[.int .i64 c, .bool true]) w) ∨
    ((∀ c, ¬ G x c) ∧ (Instr.lookup t (.map (some b)) (.int .i64 x) true).run P w = .ok (.tuple #[.int .i64 0, .bool false]) w) := by
  obtain ⟨D, h, hp⟩ := h
  have w0 : (Lit.int .i64 0).wf = true := by decide
  obtain ⟨v, ps, hrun, hv⟩ := h.look_ok (int_keyed T.i) T.m (T.z w) (plainElem_int T.i w0) (keyOf_int_mk T.i hx)
  obtain ⟨c, rfl, hc, hwc⟩ := plainElem_int_inv T.i hv
  have hc1 : D.atKey (.int .i64 x) (.lit (.int .i64 0)) = .lit (.int .i64 c) := congrArg Prod.fst hc
  cases hh : has D (.int .i64 x)
  · rw [hh] at hrun
    rw [atKey_of_not_has hh] at hc1
    have : 0 = c := by simpa using hc1
    subst this
    exact .inr ⟨fun c k => (by have := has_of_prs ((hp x c).2 k); rw [hh] at this; cases this), hrun⟩
  · rw [hh] at hrun
    obtain ⟨c', k'⟩ := prs_of_has h T hx hh
    have := (k' (.lit (.int .i64 0))).symm.trans hc1
    have : c' = c := by simpa using this
    subst this
    exact .inl ⟨c', (hp x c').1 k', hrun⟩
theorem IM.at (h : IM P I w b n G) (T : IntMap P t I) {x c : Int} (hx : G x c) : (Instr.lookup t (.map (some b)) (.int .i64 x) false).run P w = .ok (.int .i64 c) w := by
  obtain ⟨D, h, hp⟩ := h
  have hk := (hp x c).2 hx
  obtain ⟨c', hrun, hat, hwc⟩ := h.lookup_int (int_keyed T.i) T.m T.i (T.z w) (keyOf_int_mk T.i (prs_in64 h T hk).1)
  rw [hk _] at hat
  have : c = c' := by simpa using hat
  subst this
  exact hrun
theorem IM.store (h : IM P I w b n G) (T : IntMap P t I) (hn : n < maxLen) {x c : Int} (hx : in64 x) (hc : in64 c) :
    ∃ w', (Instr.mapUpdate t (.map (some b)) (.int .i64 x) (.int .i64 c)).run P w = .ok () w' ∧ IM P I w' b (n + 1) (fun p q => (p = x ∧ q = c) ∨ (p ≠ x ∧ G p q)) ∧ w.grownBy w' (some b) := by
  obtain ⟨D, h, hp⟩ := h
  obtain ⟨w', h1, h2, h3⟩ := h.update (int_keyed T.i) T.m hn (keyOf_int_mk T.i hx) (plainElem_int (H := Unit) T.i hc)
  refine ⟨w', h1, ⟨_, h2, fun p q => ?_⟩, h3⟩
  rw [prs_put (own_isMap h), hp]
/-- A range over a map: its pairs, the keys that are still to come, how many they are. -/
def RG (P : Program) (I : TypeId) (w : World) (b r n : Nat) (G : Int → Int → Prop) (S : Int → Prop) (cnt : Nat) : Prop :=
  ∃ (D : DataW Unit) (left : Lit → Bool), w.ranges P I (plainElem P I) b r n D left cnt ∧ (∀ x y, prs D x y ↔ G x y) ∧ ∀ x, left (.int .i64 x) = true ↔ S x
variable {S S' : Int → Prop} {cnt : Nat}
theorem RG.left (h : RG P I w b r n G S cnt) : w.rangeLeft b r = cnt := by obtain ⟨D, l, h, _⟩ := h; exact h.left_eq
theorem RG.lt (h : RG P I w b r n G S cnt) : b < w.heap.size ∧ r < w.heap.size ∧ r ≠ b := by obtain ⟨D, l, h, _⟩ := h; exact ⟨h.owns.lt, h.lt, h.ne⟩
theorem RG.im (h : RG P I w b r n G S cnt) : IM P I w b n G := by obtain ⟨D, l, h, hp, _⟩ := h; exact ⟨D, h.owns, hp⟩
theorem RG.iff (h : RG P I w b r n G S cnt) (e : ∀ x, S x ↔ S' x) : RG P I w b r n G S' cnt := by
  obtain ⟨D, l, h, hp, hs⟩ := h; exact ⟨D, l, h, hp, fun x => (hs x).trans (e x)⟩
theorem RG.same (h : RG P I w b r n G S cnt) (hb : w'.heap[b]? = w.heap[b]?) (hr : w'.heap[r]? = w.heap[r]?) : RG P I w' b r n G S cnt := by
  obtain ⟨D, l, ⟨es, clock, since, seen, c0, h1, F, hs, hD, h2, rest⟩, hp, hl⟩ := h
  exact ⟨D, l, ⟨es, clock, since, seen, c0, hb.trans h1, F, hs, hD, hr.trans h2, rest⟩, hp, hl⟩
theorem RG.grow (h : RG P I w b r n G S cnt) (k : Below w.heap.size w w') : RG P I w' b r n G S cnt := h.same (k.block b h.lt.1) (k.block r h.lt.2.1)
theorem RG.grown {row : Nat} (h : RG P I w b r n G S cnt) (k : w.grownBy w' (some row)) (hb : b ≠ row) (hr : r ≠ row) : RG P I w' b r n G S cnt :=
  h.same (k.block b h.lt.1 (by simpa using hb)) (k.block r h.lt.2.1 (by simpa using hr))

variable {ops : Array Oper} {rest : List Oper} {o : Oper} {a : Act} {Q : Exit → Act → World → Prop}
/-- 'v, ok := m[x]'. -/
theorem wpList_im_get (hg : o.guard = none) (m y : Operand) (t : TypeId) (hop : o.op = Op.lookup t m y true) (T : IntMap P t I) (hm : a.eval m = .map (some b)) (h : IM P I w b n G) (x : Int) (hy : a.eval y = .int .i64 x) (hx : in64 x)
    (h1 : ∀ c, G x c → wpList P ops Q rest (a.put o.dst (.tuple #[.int .i64 c, .bool true])) w) (h0 : (∀ c, ¬ G x c) → wpList P ops Q rest (a.put o.dst (.tuple #[.int .i64 0, .bool false])) w) : wpList P ops Q (o :: rest) a w := by
  refine wpList_plain hg fun K' hK' => ?_
  rcases h.look T hx with ⟨c, hc, hr⟩ | ⟨hc, hr⟩
  · unfold Oper.wp
    simp [execOp, hop, hm, hy, hr, Result.andThen]
    exact hK' _ _ (h1 c hc)
  · unfold Oper.wp
    simp [execOp, hop, hm, hy, hr, Result.andThen]
    exact hK' _ _ (h0 hc)
/-- 'm[x]', a key of the map. -/
theorem wpList_im_at (hg : o.guard = none) (m y : Operand) (t : TypeId) (hop : o.op = Op.lookup t m y false) (T : IntMap P t I) (hm : a.eval m = .map (some b)) (h : IM P I w b n G) (x c : Int) (hy : a.eval y = .int .i64 x) (hx : G x c)
    (h1 : wpList P ops Q rest (a.put o.dst (.int .i64 c)) w) : wpList P ops Q (o :: rest) a w := by
  refine wpList_plain hg fun K' hK' => ?_
  have hr := h.at T hx
  unfold Oper.wp
  simp [execOp, hop, hm, hy, hr, Result.andThen]
  exact hK' _ _ h1
/-- 'm[x] = c'. -/
theorem wpList_im_put (hg : o.guard = none) (m y u : Operand) (t : TypeId) (hop : o.op = Op.mapUpdate t m y u) (T : IntMap P t I) (hm : a.eval m = .map (some b)) (h : IM P I w b n G) (hn : n < maxLen) (x c : Int) (hy : a.eval y = .int .i64 x) (hu : a.eval u = .int .i64 c) (hx : in64 x) (hc : in64 c)
    (hK : ∀ w', IM P I w' b (n + 1) (fun p q => (p = x ∧ q = c) ∨ (p ≠ x ∧ G p q)) → w.grownBy w' (some b) → wpList P ops Q rest (a.put o.dst undef) w') : wpList P ops Q (o :: rest) a w := by
  refine wpList_plain hg fun K' hK' => ?_
  obtain ⟨w', hr, h2, h3⟩ := h.store T hn hx hc
  unfold Oper.wp
  simp [execOp, hop, hm, hy, hu, hr, Result.andThen]
  exact hK' _ _ (hK w' h2 h3)
/-- 'range m'. -/
theorem wpList_im_range (hg : o.guard = none) (m : Operand) (t : TypeId) (hop : o.op = Op.range t m) (T : IntMap P t I) (hm : a.eval m = .map (some b)) (h : IM P I w b n G)
    (hK : ∀ w' cnt, cnt ≤ n → RG P I w' b w.heap.size n G (fun x => ∃ y, G x y) cnt → w.grownBy w' none → w'.heap.size = w.heap.size + 1 → wpList P ops Q rest (a.put o.dst (.pointer (some ⟨w.heap.size, 0, none⟩))) w') :
    wpList P ops Q (o :: rest) a w := by
  obtain ⟨D, h, hp⟩ := h
  refine wpList_range_own w hg m t hop I I (int_keyed T.i) T.m (plainElem P I) b n D hm h fun w' hr hgr hsz => ?_
  have key : ∀ x, has D (.int .i64 x) = true ↔ ∃ y, G x y := fun x => by
    constructor
    · intro hh
      obtain ⟨es, clock, hb, F, hs, hD⟩ := h
      have hh' := hh
      subst hD
      obtain ⟨p, hpm, hk⟩ := List.any_eq_true.1 hh'
      obtain ⟨q, hq, rfl⟩ := List.mem_map.1 (mem_sorted.1 hpm)
      obtain ⟨y, hy⟩ := F.reads q hq
      have hrg := WideElems.rg_of hy
      have hkey := WideElems.rd_key hy
      have e1 := WideAt.sameKey_eq hk
      rw [hrg] at e1
      rw [e1] at hkey
      obtain ⟨x', _, e2, hw⟩ := Maps.keyOf_int_inv T.i hkey
      have : x = x' := by simpa using e2
      subst this
      obtain ⟨c, hc⟩ := prs_of_has ⟨es, clock, hb, F, hs, rfl⟩ T hw hh
      exact ⟨c, (hp x c).1 hc⟩
    · rintro ⟨y, hy⟩
      exact has_of_prs ((hp x y).2 hy)
  exact hK w' (Maps.size D) h.size_le ⟨D, _, hr, hp, key⟩ hgr hsz
/-- The range's step. -/
theorem wpList_im_next (hg : o.guard = none) (it : Operand) (hop : o.op = Op.next it false) (T : IntMap P t I) (hit : a.eval it = .pointer (some ⟨r, 0, none⟩)) (h : RG P I w b r n G S cnt)
    (hDone : cnt = 0 → (∀ x, ¬ S x) → wpList P ops Q rest (a.put o.dst (.tuple #[.bool false])) w)
    (hMore : ∀ (x c : Int) (w' : World) (cnt' : Nat), G x c → S x → RG P I w' b r n G (fun z => S z ∧ z ≠ x) cnt' → cnt' < cnt → w.grownBy w' (some r) → w'.heap.size = w.heap.size →
      (Instr.entry (.pointer (some ⟨r, 0, none⟩))).run P w' = .ok (.tuple #[.int .i64 x, .int .i64 c]) w' → wpList P ops Q rest (a.put o.dst (.tuple #[.bool true, .int .i64 x, .int .i64 c])) w') :
    wpList P ops Q (o :: rest) a w := by
  obtain ⟨D, l, h, hp, hs⟩ := h
  refine wpList_next_ranges_ii w hg it hop I I .i64 .i64 (int_keyed T.i) T.i T.i b r n D l cnt hit h (fun h0 hl => hDone h0 fun x k => ?_) fun x c w' cnt' hwx hwc hlx hat hrg hlt hgr hsz hen => ?_
  · have := (hs x).2 k; rw [hl] at this; cases this
  · refine hMore x c w' cnt' ((hp x c).1 hat) ((hs x).1 hlx) ⟨D, _, hrg, hp, fun z => ?_⟩ hlt hgr hsz hen
    simp only [Bool.and_eq_true, Bool.not_eq_true', hs]
    refine and_congr_right fun _ => ⟨fun e k => ?_, fun k => sameKey_ne (by simpa using k)⟩
    subst k
    rw [WideAt.sameKey_self (key_lit z)] at e
    cases e
end Go.Proofs.Ythhdpjkmjebjhab
