/- Ties: pairs of depths that ascend on both sides. Plain mathematics, no program in it. -/
import Derived.Test.YthhdpjkmjebjhabRows
namespace Go.Proofs.Ythhdpjkmjebjhab

abbrev Ti := Int × Int
def tieOk (p : Ti) : Bool := decide (0 ≤ p.1) && decide (p.1 ≤ 30000) && decide (0 ≤ p.2) && decide (p.2 ≤ 30000)
theorem tieOk_iff {p : Ti} : tieOk p = true ↔ 0 ≤ p.1 ∧ p.1 ≤ 30000 ∧ 0 ≤ p.2 ∧ p.2 ≤ 30000 := by
  simp only [tieOk, Bool.and_eq_true, decide_eq_true_eq, and_assoc]
/-- Ahead on both sides. -/
def lt2 (p q : Ti) : Prop := p.1 < q.1 ∧ p.2 < q.2
theorem lt2.trans {p q r : Ti} (h : lt2 p q) (k : lt2 q r) : lt2 p r := ⟨Int.lt_trans h.1 k.1, Int.lt_trans h.2 k.2⟩
def upT : List Ti → Bool
  | p :: q :: l => decide (p.1 < q.1) && decide (p.2 < q.2) && upT (q :: l)
  | _ => true
theorem upT_iff {l : List Ti} : upT l = true ↔ ∀ i (h : i + 1 < l.length), lt2 (l[i]'(by omega)) l[i + 1] := by
  match l with
  | [] => simp [upT]
  | [p] => simp [upT]
  | p :: q :: l =>
    simp only [upT, Bool.and_eq_true, decide_eq_true_eq]
    rw [upT_iff]
    constructor
    · rintro ⟨⟨h1, h2⟩, h3⟩ i hi
      cases i with
      | zero => exact ⟨h1, h2⟩
      | succ i => exact h3 i (by simpa using hi)
    · intro h
      have h0 := h 0 (by simp)
      exact ⟨⟨h0.1, h0.2⟩, fun i hi => h (i + 1) (by simpa using hi)⟩
theorem upT_pair {l : List Ti} : upT l = true ↔ l.Pairwise lt2 := by
  match l with
  | [] => simp [upT]
  | [p] => simp [upT]
  | p :: q :: l =>
    have ih := @upT_pair (q :: l)
    simp only [upT, Bool.and_eq_true, decide_eq_true_eq, ih]
    constructor
    · rintro ⟨⟨h1, h2⟩, h3⟩
      refine List.pairwise_cons.2 ⟨fun r hr => ?_, h3⟩
      rcases List.mem_cons.1 hr with rfl | hr
      · exact ⟨h1, h2⟩
      · exact lt2.trans ⟨h1, h2⟩ ((List.pairwise_cons.1 h3).1 r hr)
    · intro h
      obtain ⟨h1, h2⟩ := List.pairwise_cons.1 h
      exact ⟨⟨(h1 q (by simp)).1, (h1 q (by simp)).2⟩, h2⟩
def ordT (l : List Ti) : Bool := l.all tieOk && upT l
def isTies (l : List Ti) : Bool := ordT l && decide (l.length ≤ 12)
/-- In order: in range, and ascending on both sides. -/
structure OrdT (l : List Ti) : Prop where
  ok : ∀ p ∈ l, tieOk p = true
  up : l.Pairwise lt2
theorem ordT_iff {l : List Ti} : ordT l = true ↔ OrdT l := by
  simp only [ordT, Bool.and_eq_true, List.all_eq_true, upT_pair]
  exact ⟨fun h => ⟨h.1, h.2⟩, fun h => ⟨h.ok, h.up⟩⟩
theorem isTies_iff {l : List Ti} : isTies l = true ↔ OrdT l ∧ l.length ≤ 12 := by
  simp only [isTies, Bool.and_eq_true, ordT_iff, decide_eq_true_eq]
theorem isTies_nil : isTies [] = true := rfl
theorem OrdT.sub {l m : List Ti} (h : OrdT l) (k : m.Sublist l) : OrdT m := ⟨fun p hp => h.ok p (k.subset hp), h.up.sublist k⟩
theorem isTies_sub {l m : List Ti} (h : isTies l = true) (k : m.Sublist l) : isTies m = true := by
  obtain ⟨h1, h2⟩ := isTies_iff.1 h
  exact isTies_iff.2 ⟨h1.sub k, Nat.le_trans k.length_le h2⟩
theorem isTies_take {l : List Ti} (h : isTies l = true) (k : Nat) : isTies (l.take k) = true := isTies_sub h (List.take_sublist k l)
theorem isTies_drop {l : List Ti} (h : isTies l = true) (k : Nat) : isTies (l.drop k) = true := isTies_sub h (List.drop_sublist k l)
theorem isTies_len {l : List Ti} (h : isTies l = true) : l.length ≤ 12 := (isTies_iff.1 h).2
theorem isTies_get {l : List Ti} (h : isTies l = true) {i : Nat} (hi : i < l.length) : 0 ≤ l[i].1 ∧ l[i].1 ≤ 30000 ∧ 0 ≤ l[i].2 ∧ l[i].2 ≤ 30000 :=
  tieOk_iff.1 ((isTies_iff.1 h).1.ok _ (List.getElem_mem hi))
/-- Not with the last one twice. -/
theorem isTies_twice {l : List Ti} (h0 : 0 < l.length) : isTies (l ++ [l[l.length - 1]]) = false := by
  cases hc : isTies (l ++ [l[l.length - 1]])
  · rfl
  · have := (List.pairwise_append.1 (isTies_iff.1 hc).1.up).2.2 _ (List.getElem_mem (show l.length - 1 < l.length by omega)) _ (List.mem_singleton.2 rfl)
    have := this.1; omega
/-- Two lists in order that have the same elements are the same. -/
theorem ord_ext {l m : List Ti} (h : l.Pairwise lt2) (k : m.Pairwise lt2) (e : ∀ x, x ∈ l ↔ x ∈ m) : l = m := by
  induction l generalizing m with
  | nil =>
    cases m with
    | nil => rfl
    | cons q m => have := (e q).2 (by simp); simp at this
  | cons p l ih =>
    cases m with
    | nil => have := (e p).1 (by simp); simp at this
    | cons q m =>
      obtain ⟨h1, h2⟩ := List.pairwise_cons.1 h
      obtain ⟨k1, k2⟩ := List.pairwise_cons.1 k
      have hpq : p = q := by
        rcases List.mem_cons.1 ((e p).1 (by simp)) with a | a
        · exact a
        · rcases List.mem_cons.1 ((e q).2 (by simp)) with b | b
          · exact b.symm
          · have x := (k1 p a).1; have y := (h1 q b).1; omega
      subst hpq
      congr 1
      refine ih h2 k2 fun x => ⟨fun hx => ?_, fun hx => ?_⟩
      · rcases List.mem_cons.1 ((e x).1 (by simp [hx])) with a | a
        · subst a; have := (h1 x hx).1; omega
        · exact a
      · rcases List.mem_cons.1 ((e x).2 (by simp [hx])) with a | a
        · subst a; have := (k1 x hx).1; omega
        · exact a
/-- In a list in order a tie is told by either side. -/
theorem ord_fst {l : List Ti} (h : l.Pairwise lt2) {p q : Ti} (hp : p ∈ l) (hq : q ∈ l) (e : p.1 = q.1) : p = q := by
  obtain ⟨i, hi, rfl⟩ := List.getElem_of_mem hp
  obtain ⟨j, hj, rfl⟩ := List.getElem_of_mem hq
  rcases Nat.lt_trichotomy i j with c | c | c
  · have := (List.pairwise_iff_getElem.1 h i j hi hj c).1; omega
  · subst c; rfl
  · have := (List.pairwise_iff_getElem.1 h j i hj hi c).1; omega
theorem ord_snd {l : List Ti} (h : l.Pairwise lt2) {p q : Ti} (hp : p ∈ l) (hq : q ∈ l) (e : p.2 = q.2) : p = q := by
  obtain ⟨i, hi, rfl⟩ := List.getElem_of_mem hp
  obtain ⟨j, hj, rfl⟩ := List.getElem_of_mem hq
  rcases Nat.lt_trichotomy i j with c | c | c
  · have := (List.pairwise_iff_getElem.1 h i j hi hj c).2; omega
  · subst c; rfl
  · have := (List.pairwise_iff_getElem.1 h j i hj hi c).2; omega
theorem ord_or {l : List Ti} (h : l.Pairwise lt2) {p q : Ti} (hp : p ∈ l) (hq : q ∈ l) : p = q ∨ lt2 p q ∨ lt2 q p := by
  obtain ⟨i, hi, rfl⟩ := List.getElem_of_mem hp
  obtain ⟨j, hj, rfl⟩ := List.getElem_of_mem hq
  rcases Nat.lt_trichotomy i j with c | c | c
  · exact .inr (.inl (List.pairwise_iff_getElem.1 h i j hi hj c))
  · subst c; exact .inl rfl
  · exact .inr (.inr (List.pairwise_iff_getElem.1 h j i hj hi c))

/-! All ties of two lists. -/
def mgT : List Ti → List Ti → List Ti
  | [], b => b
  | p :: a, [] => p :: a
  | p :: a, q :: b => if p.1 < q.1 then p :: mgT a (q :: b) else if q.1 < p.1 ∨ p ≠ q then q :: mgT (p :: a) b else p :: mgT a b
termination_by a b => a.length + b.length
theorem mgT_nil (b : List Ti) : mgT [] b = b := by unfold mgT; rfl
theorem mgT_nil' (a : List Ti) : mgT a [] = a := by cases a <;> (unfold mgT; rfl)
theorem mgT_cons (p q : Ti) (a b : List Ti) : mgT (p :: a) (q :: b) = if p.1 < q.1 then p :: mgT a (q :: b) else if q.1 < p.1 ∨ p ≠ q then q :: mgT (p :: a) b else p :: mgT a b := by rw [mgT]
theorem mgT_mem {a b : List Ti} {x : Ti} : x ∈ mgT a b ↔ x ∈ a ∨ x ∈ b := by
  match a, b with
  | [], b => rw [mgT_nil]; simp
  | p :: a, [] => rw [mgT_nil']; simp
  | p :: a, q :: b =>
    have i1 := @mgT_mem a (q :: b) x
    have i2 := @mgT_mem (p :: a) b x
    have i3 := @mgT_mem a b x
    rw [mgT_cons]
    split
    · rw [List.mem_cons, i1]; simp only [List.mem_cons]; simp only [or_assoc]
    · split
      · rw [List.mem_cons, i2]; simp only [List.mem_cons]
        constructor
        · rintro (h | (h | h) | h)
          · exact .inr (.inl h)
          · exact .inl (.inl h)
          · exact .inl (.inr h)
          · exact .inr (.inr h)
        · rintro ((h | h) | h | h)
          · exact .inr (.inl (.inl h))
          · exact .inr (.inl (.inr h))
          · exact .inl h
          · exact .inr (.inr h)
      · rename_i hc
        have hpq : p = q := Classical.byContradiction fun e => hc (.inr e)
        subst hpq
        rw [List.mem_cons, i3]; simp only [List.mem_cons]
        constructor
        · rintro (h | h | h)
          · exact .inl (.inl h)
          · exact .inl (.inr h)
          · exact .inr (.inr h)
        · rintro ((h | h) | h | h)
          · exact .inl h
          · exact .inr (.inl h)
          · exact .inl h
          · exact .inr (.inr h)
termination_by a.length + b.length
theorem mgT_len {a b : List Ti} : (mgT a b).length ≤ a.length + b.length ∧ a.length ≤ (mgT a b).length ∧ b.length ≤ (mgT a b).length := by
  match a, b with
  | [], b => rw [mgT_nil]; simp
  | p :: a, [] => rw [mgT_nil']; simp
  | p :: a, q :: b =>
    have i1 := @mgT_len a (q :: b)
    have i2 := @mgT_len (p :: a) b
    have i3 := @mgT_len a b
    rw [mgT_cons]
    simp only [List.length_cons] at *
    split
    · simp only [List.length_cons]; omega
    · split <;> simp only [List.length_cons] <;> omega
termination_by a.length + b.length
/-- Both fit: any two ties are the same, or one is ahead on both sides. -/
def Fits2 (a b : List Ti) : Prop := ∀ p ∈ a, ∀ q ∈ b, p = q ∨ lt2 p q ∨ lt2 q p
theorem mgT_up {a b : List Ti} (ha : a.Pairwise lt2) (hb : b.Pairwise lt2) (h : Fits2 a b) : (mgT a b).Pairwise lt2 := by
  match a, b with
  | [], b => rw [mgT_nil]; exact hb
  | p :: a, [] => rw [mgT_nil']; exact ha
  | p :: a, q :: b =>
    obtain ⟨a1, a2⟩ := List.pairwise_cons.1 ha
    obtain ⟨b1, b2⟩ := List.pairwise_cons.1 hb
    have i1 := mgT_up a2 hb fun x hx y hy => h x (by simp [hx]) y hy
    have i2 := mgT_up ha b2 fun x hx y hy => h x hx y (by simp [hy])
    have i3 := mgT_up a2 b2 fun x hx y hy => h x (by simp [hx]) y (by simp [hy])
    have hpq := h p (by simp) q (by simp)
    rw [mgT_cons]
    split
    · rename_i c
      have lpq : lt2 p q := by
        rcases hpq with e | e | e
        · subst e; omega
        · exact e
        · have := e.1; omega
      refine List.pairwise_cons.2 ⟨fun r hr => ?_, i1⟩
      rcases mgT_mem.1 hr with k | k
      · exact a1 r k
      · rcases List.mem_cons.1 k with rfl | k
        · exact lpq
        · exact lpq.trans (b1 r k)
    · rename_i c
      split
      · rename_i d
        have lqp : lt2 q p := by
          rcases hpq with e | e | e
          · subst e; rcases d with d | d
            · omega
            · exact absurd rfl d
          · have := e.1; omega
          · exact e
        refine List.pairwise_cons.2 ⟨fun r hr => ?_, i2⟩
        rcases mgT_mem.1 hr with k | k
        · rcases List.mem_cons.1 k with rfl | k
          · exact lqp
          · exact lqp.trans (a1 r k)
        · exact b1 r k
      · rename_i d
        have e : p = q := Classical.byContradiction fun e => d (.inr e)
        subst e
        refine List.pairwise_cons.2 ⟨fun r hr => ?_, i3⟩
        rcases mgT_mem.1 hr with k | k
        · exact a1 r k
        · exact b1 r k
termination_by a.length + b.length
theorem mgT_ord {a b : List Ti} (ha : OrdT a) (hb : OrdT b) : ordT (mgT a b) = true ↔ Fits2 a b := by
  rw [ordT_iff]
  constructor
  · intro h p hp q hq
    exact ord_or h.up (mgT_mem.2 (.inl hp)) (mgT_mem.2 (.inr hq))
  · intro h
    refine ⟨fun p hp => ?_, mgT_up ha.up hb.up h⟩
    rcases mgT_mem.1 hp with k | k
    · exact ha.ok p k
    · exact hb.ok p k
/-! What the functions answer. -/
def fitT (a b : List Ti) : Bool := isTies a && isTies b && ordT (mgT a b)
def joinT (a b : List Ti) : Option (List Ti) := if fitT a b = true ∧ (mgT a b).length ≤ 12 then some (mgT a b) else none
def swapT (p : Ti) : Ti := (p.2, p.1)
def turnT (l : List Ti) : Option (List Ti) := if isTies l = true then some (l.map swapT) else none
/-- The ties of the second list that go on from p. -/
def nextT (p : Ti) (b : List Ti) : List Ti := b.filterMap fun q => if p.2 = q.1 then some (p.1, q.2) else none
def thr (a b : List Ti) : List Ti := a.flatMap fun p => nextT p b
def thrT (a b : List Ti) : Option (List Ti) := if isTies a = true ∧ isTies b = true then some (thr a b) else none
def curT (l : List Ti) : Option (List Ti) := if isTies l = true ∧ 2 ≤ l.length then some l else none
theorem fitT_iff {a b : List Ti} : fitT a b = true ↔ isTies a = true ∧ isTies b = true ∧ Fits2 a b := by
  simp only [fitT, Bool.and_eq_true, and_assoc]
  constructor
  · rintro ⟨h1, h2, h3⟩; exact ⟨h1, h2, (mgT_ord (isTies_iff.1 h1).1 (isTies_iff.1 h2).1).1 h3⟩
  · rintro ⟨h1, h2, h3⟩; exact ⟨h1, h2, (mgT_ord (isTies_iff.1 h1).1 (isTies_iff.1 h2).1).2 h3⟩
theorem Fits2.comm {a b : List Ti} (h : Fits2 a b) : Fits2 b a := fun p hp q hq => by
  rcases h q hq p hp with e | e | e
  · exact .inl e.symm
  · exact .inr (.inr e)
  · exact .inr (.inl e)
theorem Fits2.sub {a b a' b' : List Ti} (h : Fits2 a b) (ka : ∀ x ∈ a', x ∈ a) (kb : ∀ x ∈ b', x ∈ b) : Fits2 a' b' := fun p hp q hq => h p (ka p hp) q (kb q hq)
theorem fits2_self {l : List Ti} (h : l.Pairwise lt2) : Fits2 l l := fun _ hp _ hq => ord_or h hp hq
theorem swapT_swapT (p : Ti) : swapT (swapT p) = p := rfl
theorem lt2_swap {p q : Ti} : lt2 (swapT p) (swapT q) ↔ lt2 p q := ⟨fun h => ⟨h.2, h.1⟩, fun h => ⟨h.2, h.1⟩⟩
theorem tieOk_swap (p : Ti) : tieOk (swapT p) = tieOk p := by
  rw [Bool.eq_iff_iff, tieOk_iff, tieOk_iff]; simp only [swapT]; omega
theorem map_swap_swap (l : List Ti) : (l.map swapT).map swapT = l := by
  rw [List.map_map]; exact List.map_id'' (fun _ => rfl) l
theorem mem_swap {l : List Ti} {p : Ti} : p ∈ l.map swapT ↔ swapT p ∈ l := by
  rw [List.mem_map]
  exact ⟨fun ⟨q, hq, e⟩ => by rw [← e]; exact hq, fun h => ⟨swapT p, h, rfl⟩⟩
theorem up_swap {l : List Ti} (h : l.Pairwise lt2) : (l.map swapT).Pairwise lt2 := by
  rw [List.pairwise_map]; exact h.imp fun k => lt2_swap.2 k
theorem OrdT.swap {l : List Ti} (h : OrdT l) : OrdT (l.map swapT) :=
  ⟨fun p hp => by have := h.ok _ (mem_swap.1 hp); rwa [tieOk_swap] at this, up_swap h.up⟩
theorem isTies_swap {l : List Ti} (h : isTies l = true) : isTies (l.map swapT) = true := by
  obtain ⟨h1, h2⟩ := isTies_iff.1 h
  exact isTies_iff.2 ⟨h1.swap, by rw [List.length_map]; exact h2⟩
theorem Fits2.swap {a b : List Ti} (h : Fits2 a b) : Fits2 (a.map swapT) (b.map swapT) := fun p hp q hq => by
  rcases h _ (mem_swap.1 hp) _ (mem_swap.1 hq) with e | e | e
  · exact .inl (by rw [← swapT_swapT p, e]; rfl)
  · exact .inr (.inl (lt2_swap.1 e))
  · exact .inr (.inr (lt2_swap.1 e))
/-! Ties that lead through a second core. -/
theorem mem_next {p x : Ti} {b : List Ti} : x ∈ nextT p b ↔ x.1 = p.1 ∧ (p.2, x.2) ∈ b := by
  simp only [nextT, List.mem_filterMap]
  constructor
  · rintro ⟨q, hq, e⟩
    split at e
    · rename_i c
      simp only [Option.some.injEq] at e
      subst e
      exact ⟨rfl, by rw [c]; exact hq⟩
    · cases e
  · rintro ⟨h1, h2⟩
    exact ⟨_, h2, by rw [if_pos rfl]; rw [← h1]⟩
theorem mem_thr {a b : List Ti} {x : Ti} : x ∈ thr a b ↔ ∃ y, (x.1, y) ∈ a ∧ (y, x.2) ∈ b := by
  simp only [thr, List.mem_flatMap, mem_next]
  constructor
  · rintro ⟨p, hp, h1, h2⟩; exact ⟨p.2, by rw [h1]; exact hp, h2⟩
  · rintro ⟨y, h1, h2⟩; exact ⟨(x.1, y), h1, rfl, h2⟩
theorem next_len {p : Ti} {b : List Ti} (h : b.Pairwise lt2) : (nextT p b).length ≤ 1 := by
  induction b with
  | nil => simp [nextT]
  | cons q b ih =>
    obtain ⟨h1, h2⟩ := List.pairwise_cons.1 h
    by_cases c : p.2 = q.1
    · have e : nextT p b = [] := by
        cases hn : nextT p b with
        | nil => rfl
        | cons x l =>
          have hx : x ∈ nextT p b := by rw [hn]; simp
          have := (h1 _ (mem_next.1 hx).2).1
          simp only at this; omega
      have e2 : nextT p (q :: b) = (p.1, q.2) :: nextT p b := by simp [nextT, c]
      rw [e2, e]; simp
    · have e2 : nextT p (q :: b) = nextT p b := by simp [nextT, c]
      rw [e2]; exact ih h2
theorem next_up {p : Ti} {b : List Ti} (h : b.Pairwise lt2) : (nextT p b).Pairwise lt2 := by
  have := next_len (p := p) h
  match hn : nextT p b, this with
  | [], _ => exact List.Pairwise.nil
  | [x], _ => exact List.pairwise_singleton _ _
  | x :: y :: l, this => simp at this
theorem thr_cons (p : Ti) (a b : List Ti) : thr (p :: a) b = nextT p b ++ thr a b := rfl
theorem thr_append (a a' b : List Ti) : thr (a ++ a') b = thr a b ++ thr a' b := by simp [thr]
theorem thr_up {a b : List Ti} (ha : a.Pairwise lt2) (hb : b.Pairwise lt2) : (thr a b).Pairwise lt2 := by
  induction a with
  | nil => exact List.Pairwise.nil
  | cons p a ih =>
    obtain ⟨a1, a2⟩ := List.pairwise_cons.1 ha
    rw [thr_cons, List.pairwise_append]
    refine ⟨next_up hb, ih a2, fun x hx z hz => ?_⟩
    obtain ⟨x1, x2⟩ := mem_next.1 hx
    obtain ⟨y, z1, z2⟩ := mem_thr.1 hz
    have k := a1 _ z1
    refine ⟨by have := k.1; simp only at this; omega, ?_⟩
    rcases ord_or hb x2 z2 with e | e | e
    · have := k.2; simp only [Prod.mk.injEq] at e this; omega
    · exact e.2
    · have := e.1; have := k.2; simp only at *; omega
theorem thr_len {a b : List Ti} (hb : b.Pairwise lt2) : (thr a b).length ≤ a.length := by
  induction a with
  | nil => simp [thr]
  | cons p a ih => have := next_len (p := p) hb; rw [thr_cons, List.length_append, List.length_cons]; omega
theorem thr_ord {a b : List Ti} (ha : OrdT a) (hb : OrdT b) : OrdT (thr a b) := by
  refine ⟨fun x hx => ?_, thr_up ha.up hb.up⟩
  obtain ⟨y, h1, h2⟩ := mem_thr.1 hx
  have k1 := tieOk_iff.1 (ha.ok _ h1)
  have k2 := tieOk_iff.1 (hb.ok _ h2)
  simp only at k1 k2
  exact tieOk_iff.2 (by omega)
theorem thr_swap {a b : List Ti} (ha : a.Pairwise lt2) (hb : b.Pairwise lt2) : thr (b.map swapT) (a.map swapT) = (thr a b).map swapT := by
  refine ord_ext (thr_up (up_swap hb) (up_swap ha)) (up_swap (thr_up ha hb)) fun x => ?_
  rw [mem_thr, mem_swap, mem_thr]
  constructor
  · rintro ⟨y, h1, h2⟩; exact ⟨y, mem_swap.1 h2, mem_swap.1 h1⟩
  · rintro ⟨y, h1, h2⟩; exact ⟨y, mem_swap.2 h2, mem_swap.2 h1⟩
theorem isTies_thr {a b : List Ti} (ha : isTies a = true) (hb : isTies b = true) : isTies (thr a b) = true ∧ (thr a b).length ≤ a.length ∧ (thr a b).length ≤ b.length := by
  obtain ⟨a1, a2⟩ := isTies_iff.1 ha
  obtain ⟨b1, b2⟩ := isTies_iff.1 hb
  have l1 := thr_len (a := a) b1.up
  have l2 := thr_len (a := b.map swapT) (up_swap a1.up)
  rw [thr_swap a1.up b1.up, List.length_map, List.length_map] at l2
  exact ⟨isTies_iff.2 ⟨thr_ord a1 b1, by omega⟩, l1, l2⟩
theorem thr_self {a : List Ti} (ha : a.Pairwise lt2) : thr a (a.map swapT) = a.map fun p => (p.1, p.1) := by
  refine ord_ext (thr_up ha (up_swap ha)) (by rw [List.pairwise_map]; exact ha.imp fun k => ⟨k.1, k.1⟩) fun x => ?_
  rw [mem_thr, List.mem_map]
  constructor
  · rintro ⟨y, h1, h2⟩
    have := ord_snd ha h1 (mem_swap.1 h2) rfl
    simp only [swapT, Prod.mk.injEq] at this
    exact ⟨_, h1, by rw [Prod.ext_iff]; exact ⟨rfl, this.1⟩⟩
  · rintro ⟨p, hp, rfl⟩
    exact ⟨p.2, hp, mem_swap.2 hp⟩
theorem thr_assoc {a b c : List Ti} (ha : a.Pairwise lt2) (hb : b.Pairwise lt2) (hc : c.Pairwise lt2) : thr (thr a b) c = thr a (thr b c) := by
  refine ord_ext (thr_up (thr_up ha hb) hc) (thr_up ha (thr_up hb hc)) fun x => ?_
  rw [mem_thr, mem_thr]
  constructor
  · rintro ⟨z, h1, h2⟩
    obtain ⟨y, h3, h4⟩ := mem_thr.1 h1
    exact ⟨y, h3, mem_thr.2 ⟨z, h4, h2⟩⟩
  · rintro ⟨y, h1, h2⟩
    obtain ⟨z, h3, h4⟩ := mem_thr.1 h2
    exact ⟨z, mem_thr.2 ⟨y, h1, h3⟩, h4⟩
end Go.Proofs.Ythhdpjkmjebjhab
