/- The keys of a map in order, and its pairs in this order. No program in it. -/
import Derived.Test.YthhdpjkmjebjhabTieMap
import Derived.Test.YthhdpjkmjebjhabTie
import Derived.Lib.SlKeysI
namespace Go.Proofs.Ythhdpjkmjebjhab
open Go.RowKit Go.Maps Go.Proofs

variable {P : Program} {t I : TypeId} {w : World} {b n : Nat} {G : Int → Int → Prop}
theorem keys_mem {D : DataW Unit} (h : w.ownsMap P I (plainElem P I) b n D) (T : IntMap P t I) (x : Int) : x ∈ intKeys D ↔ ∃ y, prs D x y := by
  obtain ⟨es, rfl, hko⟩ := h.keysOf
  constructor
  · intro hx
    obtain ⟨p, hp, hpx⟩ := List.mem_map.1 hx
    obtain ⟨v, hv⟩ := hko p hp
    obtain ⟨x', _, e, hw⟩ := Maps.keyOf_int_inv T.i hv
    rw [e] at hpx
    have : x' = x := hpx
    subst this
    refine prs_of_has h T hw ?_
    rw [has_eq]
    exact List.any_eq_true.2 ⟨p, hp, by rw [e]; exact WideAt.sameKey_self (key_lit _)⟩
  · rintro ⟨y, hy⟩
    have hh := has_of_prs hy
    rw [has_eq] at hh
    obtain ⟨p, hp, hk⟩ := List.any_eq_true.1 hh
    refine List.mem_map.2 ⟨p, hp, ?_⟩
    rw [WideAt.sameKey_eq hk]; rfl
theorem keys_nodup {D : DataW Unit} (h : w.ownsMap P I (plainElem P I) b n D) (T : IntMap P t I) : (intKeys D).Nodup := by
  obtain ⟨es', hD, hpw, _⟩ := h.entries (int_keyed T.i)
  obtain ⟨es, rfl, hko⟩ := h.keysOf
  obtain rfl : es = es' := by simpa using hD
  show (es.map fun p => intOf p.1).Nodup
  rw [List.nodup_iff_pairwise_ne, List.pairwise_map]
  refine hpw.imp_of_mem fun {p q} hp hq hne e => hne ?_
  obtain ⟨v, hv⟩ := hko p hp
  obtain ⟨u, hu⟩ := hko q hq
  obtain ⟨x, _, e1, _⟩ := Maps.keyOf_int_inv T.i hv
  obtain ⟨y, _, e2, _⟩ := Maps.keyOf_int_inv T.i hu
  rw [e1, e2] at e ⊢
  have : x = y := e
  rw [this]
theorem keys_sorted {D : DataW Unit} (h : w.ownsMap P I (plainElem P I) b n D) (T : IntMap P t I) (hp : ∀ x y, prs D x y ↔ G x y) {ss : List Int} (hs : ss.Perm (intKeys D)) :
    (ss.mergeSort fun x y => decide (x ≤ y)).Pairwise (· < ·) ∧ ∀ x, x ∈ (ss.mergeSort fun x y => decide (x ≤ y)) ↔ ∃ y, G x y := by
  have pm := (List.mergeSort_perm ss fun x y => decide (x ≤ y)).trans hs
  have nd : (ss.mergeSort fun x y => decide (x ≤ y)).Nodup := pm.nodup_iff.2 (keys_nodup h T)
  have le := List.pairwise_mergeSort (le := fun x y : Int => decide (x ≤ y)) (fun a b c h1 h2 => by simp only [decide_eq_true_eq] at *; omega) (fun a b => by simp only [Bool.or_eq_true, decide_eq_true_eq]; omega) ss
  refine ⟨?_, fun x => ?_⟩
  · rw [List.nodup_iff_pairwise_ne] at nd
    exact (le.and nd).imp fun {a b} k => by
      obtain ⟨k1, k2⟩ := k
      simp only [decide_eq_true_eq] at k1
      omega
  · rw [pm.mem_iff, keys_mem h T]
    exact ⟨fun ⟨y, k⟩ => ⟨y, (hp x y).1 k⟩, fun ⟨y, k⟩ => ⟨y, (hp x y).2 k⟩⟩
theorem graph_list {ks : List Int} (h : ∀ x ∈ ks, ∃ y, G x y) : ∃ L : List Ti, L.map Prod.fst = ks ∧ ∀ p ∈ L, G p.1 p.2 := by
  induction ks with
  | nil => exact ⟨[], rfl, fun p hp => by simp at hp⟩
  | cons x ks ih =>
    obtain ⟨y, hy⟩ := h x (by simp)
    obtain ⟨L, h1, h2⟩ := ih fun z hz => h z (by simp [hz])
    refine ⟨(x, y) :: L, by simp [h1], fun p hp => ?_⟩
    rcases List.mem_cons.1 hp with rfl | hp
    · exact hy
    · exact h2 p hp
/-- The pairs of G, in the order of the first numbers. -/
structure SortOf (G : Int → Int → Prop) (L : List Ti) : Prop where
  up : L.Pairwise fun p q => p.1 < q.1
  mem : ∀ x y, (x, y) ∈ L ↔ G x y
theorem sort_list {L : List Ti} {ks : List Int} (h1 : L.map Prod.fst = ks) (h2 : ∀ p ∈ L, G p.1 p.2) (hk : ks.Pairwise (· < ·)) (hm : ∀ x, x ∈ ks ↔ ∃ y, G x y) (fn : ∀ x y y', G x y → G x y' → y = y') : SortOf G L := by
  subst h1
  refine ⟨by rwa [List.pairwise_map] at hk, fun x y => ⟨fun h => h2 _ h, fun h => ?_⟩⟩
  obtain ⟨p, hp, e⟩ := List.mem_map.1 ((hm x).2 ⟨y, h⟩)
  have := h2 p hp
  rw [e] at this
  have e2 := fn _ _ _ this h
  have : p = (x, y) := Prod.ext e e2
  rwa [this] at hp
theorem SortOf.ext {L M : List Ti} (h : SortOf G L) (k : M.Pairwise fun p q => p.1 < q.1) (e : ∀ x, x ∈ M ↔ G x.1 x.2) : L = M := by
  have key : ∀ (L M : List Ti), L.Pairwise (fun p q => p.1 < q.1) → M.Pairwise (fun p q => p.1 < q.1) → (∀ x, x ∈ L ↔ x ∈ M) → L = M := by
    intro L
    induction L with
    | nil =>
      intro M _ _ e
      cases M with
      | nil => rfl
      | cons q M => have := (e q).2 (by simp); simp at this
    | cons p L ih =>
      intro M h k e
      cases M with
      | nil => have := (e p).1 (by simp); simp at this
      | cons q M =>
        obtain ⟨h1, h2⟩ := List.pairwise_cons.1 h
        obtain ⟨k1, k2⟩ := List.pairwise_cons.1 k
        have hpq : p = q := by
          rcases List.mem_cons.1 ((e p).1 (by simp)) with a | a
          · exact a
          · rcases List.mem_cons.1 ((e q).2 (by simp)) with b | b
            · exact b.symm
            · have x := k1 p a; have y := h1 q b; omega
        subst hpq
        congr 1
        refine ih M h2 k2 fun x => ⟨fun hx => ?_, fun hx => ?_⟩
        · rcases List.mem_cons.1 ((e x).1 (by simp [hx])) with a | a
          · subst a; have := h1 x hx; omega
          · exact a
        · rcases List.mem_cons.1 ((e x).2 (by simp [hx])) with a | a
          · subst a; have := k1 x hx; omega
          · exact a
  exact key L M h.up k fun x => by rw [e]; exact h.mem x.1 x.2
theorem SortOf.ord {L M : List Ti} (h : SortOf G L) (k : M.Pairwise lt2) (e : ∀ x, x ∈ M ↔ G x.1 x.2) : L = M := h.ext (k.imp fun k => k.1) e
/-- All ties of two lists, of which each depth of the first core has one: in order they are ties just where both fit. -/
theorem sort_fit {a b L : List Ti} (ha : isTies a = true) (hb : isTies b = true) (h : SortOf (fun x y => (x, y) ∈ a ∨ (x, y) ∈ b) L) : ordT L = fitT a b ∧ (fitT a b = true → L = mgT a b) := by
  obtain ⟨a1, a2⟩ := isTies_iff.1 ha
  obtain ⟨b1, b2⟩ := isTies_iff.1 hb
  have eq : fitT a b = true → L = mgT a b := fun k => by
    obtain ⟨_, _, k⟩ := fitT_iff.1 k
    exact h.ord (mgT_up a1.up b1.up k) fun x => mgT_mem
  refine ⟨?_, eq⟩
  cases hf : fitT a b
  · cases ho : ordT L
    · rfl
    · have o := ordT_iff.1 ho
      have : fitT a b = true := fitT_iff.2 ⟨ha, hb, fun p hp q hq => ord_or o.up ((h.mem p.1 p.2).2 (.inl hp)) ((h.mem q.1 q.2).2 (.inr hq))⟩
      rw [this] at hf; cases hf
  · rw [eq hf]
    obtain ⟨_, _, k⟩ := fitT_iff.1 hf
    exact (mgT_ord a1 b1).2 k
/-- A depth with two depths: the lists do not fit. -/
theorem not_fit {a b : List Ti} {x y y' : Int} (ha : (x, y) ∈ a ∨ (x, y) ∈ b) (hb : (x, y') ∈ b) (ne : y ≠ y') : fitT a b = false := by
  cases hf : fitT a b
  · rfl
  · obtain ⟨h1, h2, k⟩ := fitT_iff.1 hf
    rcases ha with h | h
    · rcases k _ h _ hb with e | e | e
      · simp only [Prod.mk.injEq] at e; exact absurd e.2 ne
      · exact absurd e.1 (by simp)
      · exact absurd e.1 (by simp)
    · have := ord_fst (isTies_iff.1 h2).1.up h hb rfl
      simp only [Prod.mk.injEq] at this; exact absurd this.2 ne
theorem no_fit {a b : List Ti} (h : isTies a = false ∨ isTies b = false) : fitT a b = false := by
  unfold fitT; rcases h with h | h <;> simp [h]
end Go.Proofs.Ythhdpjkmjebjhab
