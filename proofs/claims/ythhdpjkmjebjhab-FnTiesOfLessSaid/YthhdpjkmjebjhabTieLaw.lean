/- Ties of a matching, and what the laws on ties need: plain mathematics, no program in it. -/
import Derived.Test.YthhdpjkmjebjhabTie
import Derived.Test.YthhdpjkmjebjhabMatchLaw2
namespace Go.Proofs.Ythhdpjkmjebjhab

/-! Ties of a matching. -/
def tofAt (a b : List Ev) (m : List Int) (i : Nat) : Option Ti := if 0 ≤ m.getD i (-1) then some ((a.getD i (0, 0)).1, (b.getD (m.getD i (-1)).toNat (0, 0)).1) else none
def tofN (a b : List Ev) (m : List Int) (n : Nat) : List Ti := (List.range n).filterMap (tofAt a b m)
def tof (a b : List Ev) (m : List Int) : List Ti := tofN a b m m.length
def ofT (a b : List Ev) (tol : Int) (m : List Int) : Option (List Ti) := if okB a b tol m = true then some (tof a b m) else none
theorem ofT_yes {a b : List Ev} {tol : Int} {m : List Int} (h : okB a b tol m = true) : ofT a b tol m = some (tof a b m) := if_pos h
theorem ofT_no {a b : List Ev} {tol : Int} {m : List Int} (h : okB a b tol m = false) : ofT a b tol m = none := if_neg (by rw [h]; simp)
theorem tofN_zero (a b : List Ev) (m : List Int) : tofN a b m 0 = [] := rfl
theorem evD_one {l : List Ev} {i : Nat} (h : i < l.length) : l.getD i (0, 0) = l[i] := by
  rw [List.getD_eq_getElem?_getD, List.getElem?_eq_getElem h]; rfl
theorem tofN_no {a b : List Ev} {m : List Int} {n : Nat} (h : n < m.length) (k : m[n] < 0) : tofN a b m (n + 1) = tofN a b m n := by
  have e : tofAt a b m n = none := if_neg (by rw [getD_one h]; omega)
  simp only [tofN, List.range_succ, List.filterMap_append, List.filterMap_cons, e, List.filterMap_nil, List.append_nil]
theorem tofN_yes {a b : List Ev} {m : List Int} {n q : Nat} (h : n < m.length) (ha : n < a.length) (hb : q < b.length) (k : m[n] = (q : Int)) : tofN a b m (n + 1) = tofN a b m n ++ [(a[n].1, b[q].1)] := by
  have e : tofAt a b m n = some (a[n].1, b[q].1) := by
    unfold tofAt
    rw [getD_one h, k, if_pos (Int.natCast_nonneg _), Int.toNat_natCast, evD_one ha, evD_one hb]
  simp only [tofN, List.range_succ, List.filterMap_append, List.filterMap_cons, e, List.filterMap_nil]
theorem tofN_len (a b : List Ev) (m : List Int) (n : Nat) (h : n ≤ m.length) : (tofN a b m n).length = pairs (m.take n) := by
  induction n with
  | zero => rfl
  | succ n ih =>
    have hn : n < m.length := by omega
    rw [List.take_succ_eq_append_getElem hn, pairs_append, ← ih (by omega), pairs_cons]
    by_cases k : m[n] < 0
    · rw [tofN_no hn k, decide_eq_false (by omega)]; simp [pairs, one]
    · have e : ∃ x, tofAt a b m n = some x := ⟨_, if_pos (by rw [getD_one hn]; omega)⟩
      obtain ⟨x, e⟩ := e
      simp only [tofN, List.range_succ, List.filterMap_append, List.filterMap_cons, e, List.filterMap_nil, List.length_append, List.length_singleton]
      rw [decide_eq_true (by omega)]; simp [pairs, one]
theorem ev_lt {l : List Ev} (h : isEv l = true) {i j : Nat} (hij : i < j) (hj : j < l.length) : (l[i]'(by omega)).1 < l[j].1 := by
  induction j with
  | zero => omega
  | succ j ih =>
    have s := (isEv_iff.1 h).2.2 j hj
    rcases Nat.lt_or_ge i j with c | c
    · have := ih c (by omega); omega
    · have e : i = j := by omega
      subst e; exact s
theorem ev_inj {l : List Ev} (h : isEv l = true) {i j : Nat} (hi : i < l.length) (hj : j < l.length) (e : l[i].1 = l[j].1) : i = j := by
  rcases Nat.lt_trichotomy i j with c | c | c
  · have := ev_lt h c hj; omega
  · exact c
  · have := ev_lt h c hi; omega
variable {a b : List Ev} {tol : Int} {m : List Int}
theorem mem_tof (h : okB a b tol m = true) {x : Ti} : x ∈ tof a b m ↔ ∃ i, ∃ (hi : i < m.length) (ha : i < a.length) (q : Nat) (hb : q < b.length), m[i] = (q : Int) ∧ x = (a[i].1, b[q].1) := by
  have M := (okB_iff.1 h).2
  have hl := okB_len h
  simp only [tof, tofN, List.mem_filterMap, List.mem_range]
  constructor
  · rintro ⟨i, hi, e⟩
    unfold tofAt at e
    rw [getD_one hi] at e
    split at e
    · rename_i c
      rcases M.each i hi (by rw [sizes_length]; omega) with u | ⟨u1, u2, _⟩
      · omega
      · rw [sizes_length] at u2
        obtain ⟨q, hq⟩ : ∃ q : Nat, m[i] = q := ⟨m[i].toNat, by omega⟩
        refine ⟨i, hi, by omega, q, by omega, hq, ?_⟩
        rw [hq, Int.toNat_natCast, evD_one (show i < a.length by omega), evD_one (show q < b.length by omega)] at e
        exact (Option.some.inj e).symm
    · cases e
  · rintro ⟨i, hi, ha, q, hb, hq, rfl⟩
    refine ⟨i, hi, ?_⟩
    unfold tofAt
    rw [getD_one hi, hq, if_pos (Int.natCast_nonneg _), Int.toNat_natCast, evD_one ha, evD_one hb]
theorem tof_up (h : okB a b tol m = true) : (tof a b m).Pairwise lt2 := by
  have M := (okB_iff.1 h).2
  have hl := okB_len h
  obtain ⟨va, vb, _⟩ := argsOk_iff.1 (okB_iff.1 h).1
  simp only [tof, tofN]
  rw [List.pairwise_filterMap]
  refine List.pairwise_lt_range.imp_of_mem fun {i j} hi hj hij x hx y hy => ?_
  have hi := List.mem_range.1 hi
  have hj := List.mem_range.1 hj
  unfold tofAt at hx hy
  rw [getD_one hi] at hx
  rw [getD_one hj] at hy
  split at hx
  · split at hy
    · rename_i c d
      rcases M.each i hi (by rw [sizes_length]; omega) with u | ⟨u1, u2, _⟩
      · omega
      rcases M.each j hj (by rw [sizes_length]; omega) with v | ⟨v1, v2, _⟩
      · omega
      rw [sizes_length] at u2 v2
      obtain ⟨q, hq⟩ : ∃ q : Nat, m[i] = q := ⟨m[i].toNat, by omega⟩
      obtain ⟨r, hr⟩ : ∃ r : Nat, m[j] = r := ⟨m[j].toNat, by omega⟩
      rw [hq, Int.toNat_natCast, evD_one (show i < a.length by omega), evD_one (show q < b.length by omega)] at hx
      rw [hr, Int.toNat_natCast, evD_one (show j < a.length by omega), evD_one (show r < b.length by omega)] at hy
      have ex := Option.some.inj hx
      have ey := Option.some.inj hy
      subst ex ey
      have hqr : q < r := by
        rcases M.up i j hij hj with w | w | w <;> omega
      exact ⟨ev_lt va hij (by omega), ev_lt vb hqr (by omega)⟩
    · cases hy
  · cases hx
theorem tof_len (h : okB a b tol m = true) : (tof a b m).length = pairs m ∧ (tof a b m).length ≤ 8 := by
  have e := tofN_len a b m m.length (Nat.le_refl _)
  rw [List.take_length] at e
  have hl := okB_len h
  have n8 := isEv_len (argsOk_iff.1 (okB_iff.1 h).1).1
  have p : pairs m ≤ m.length := List.countP_le_length
  exact ⟨e, by rw [tof, e]; omega⟩
theorem tof_ord (h : okB a b tol m = true) : OrdT (tof a b m) := by
  obtain ⟨va, vb, _⟩ := argsOk_iff.1 (okB_iff.1 h).1
  refine ⟨fun x hx => ?_, tof_up h⟩
  obtain ⟨i, _, ha, q, hb, _, rfl⟩ := (mem_tof h).1 hx
  have k1 := isEv_get va ha
  have k2 := isEv_get vb hb
  exact tieOk_iff.2 ⟨k1.1, k1.2.1, k2.1, k2.2.1⟩
theorem isTies_tof (h : okB a b tol m = true) : isTies (tof a b m) = true := isTies_iff.2 ⟨tof_ord h, by have := (tof_len h).2; omega⟩
/-- The pairs turned are the ties turned. -/
theorem tof_turn (h : okB a b tol m = true) : tof b a (turned b.length m m.length) = (tof a b m).map swapT := by
  obtain ⟨h2, _⟩ := okB_turn h
  have T := turned_is (okB_iff.1 h).2 m.length (Nat.le_refl _)
  rw [sizes_length] at T
  refine ord_ext (tof_up h2) (up_swap (tof_up h)) fun x => ?_
  rw [mem_tof h2, mem_swap, mem_tof h]
  constructor
  · rintro ⟨k, hk, hkb, q, hqa, e, rfl⟩
    rcases T.to k hk with u | ⟨i, h1, h3, h4, h5⟩
    · omega
    · have : q = i := by omega
      subst this
      exact ⟨q, h3, hqa, k, hkb, h5, rfl⟩
  · rintro ⟨i, hi, hia, k, hkb, e, ex⟩
    have hk : k < (turned b.length m m.length).length := by rw [T.len]; exact hkb
    exact ⟨k, hk, hkb, i, hia, T.of i hi k hk hi e, by rw [← swapT_swapT x, ex]; rfl⟩
/-- Fewer pairs are fewer ties. -/
theorem tof_less (h : okB a b tol m = true) (i : Nat) : ∀ x ∈ tof a b (m.set i (-1)), x ∈ tof a b m := by
  intro x hx
  obtain ⟨j, hj, ha, q, hb, e, rfl⟩ := (mem_tof (okB_drop h i)).1 hx
  rw [List.getElem_set] at e
  split at e
  · omega
  · exact (mem_tof h).2 ⟨j, by simpa using hj, ha, q, hb, e, rfl⟩
/-! Joined ties. -/
variable {l k : List Ti}
theorem joinT_some {o : List Ti} (h : joinT l k = some o) : fitT l k = true ∧ mgT l k = o ∧ o.length ≤ 12 ∧ isTies o = true := by
  unfold joinT at h
  split at h
  · rename_i c
    have e := Option.some.inj h
    subst e
    obtain ⟨h1, h2, h3⟩ := fitT_iff.1 c.1
    exact ⟨c.1, rfl, c.2, isTies_iff.2 ⟨ordT_iff.1 ((mgT_ord (isTies_iff.1 h1).1 (isTies_iff.1 h2).1).2 h3), c.2⟩⟩
  · cases h
theorem joinT_is {o : List Ti} (hl : isTies l = true) (hk : isTies k = true) (ho : isTies o = true) (e : ∀ x, x ∈ o ↔ x ∈ l ∨ x ∈ k) : fitT l k = true ∧ joinT l k = some o := by
  have fo := (isTies_iff.1 ho).1
  have F : Fits2 l k := fun p hp q hq => ord_or fo.up ((e p).2 (.inl hp)) ((e q).2 (.inr hq))
  have hf := fitT_iff.2 ⟨hl, hk, F⟩
  have em : mgT l k = o := ord_ext (mgT_up (isTies_iff.1 hl).1.up (isTies_iff.1 hk).1.up F) fo.up fun x => by rw [mgT_mem, e]
  refine ⟨hf, ?_⟩
  unfold joinT
  rw [em, if_pos ⟨hf, isTies_len ho⟩]
theorem fit_parts (h : fitT l k = true) : isTies l = true ∧ isTies k = true := by
  obtain ⟨h1, h2, _⟩ := fitT_iff.1 h; exact ⟨h1, h2⟩
theorem fit_swap (h : fitT l k = true) : fitT k l = true := by
  obtain ⟨h1, h2, h3⟩ := fitT_iff.1 h; exact fitT_iff.2 ⟨h2, h1, h3.comm⟩
theorem fit_turn (h : fitT l k = true) : fitT (l.map swapT) (k.map swapT) = true := by
  obtain ⟨h1, h2, h3⟩ := fitT_iff.1 h; exact fitT_iff.2 ⟨isTies_swap h1, isTies_swap h2, h3.swap⟩
theorem fit_self (h : isTies l = true) : fitT l l = true := fitT_iff.2 ⟨h, h, fits2_self (isTies_iff.1 h).1.up⟩
theorem fit_less (h : fitT l k = true) (i j : Nat) : fitT (l.take i) (k.take j) = true ∧ fitT (l.drop i) k = true := by
  obtain ⟨h1, h2, h3⟩ := fitT_iff.1 h
  exact ⟨fitT_iff.2 ⟨isTies_take h1 i, isTies_take h2 j, h3.sub (fun _ hx => List.mem_of_mem_take hx) fun _ hx => List.mem_of_mem_take hx⟩,
    fitT_iff.2 ⟨isTies_drop h1 i, h2, h3.sub (fun _ hx => List.mem_of_mem_drop hx) fun _ hx => hx⟩⟩
theorem fit_nil (h : isTies l = true) : fitT l [] = true ∧ fitT [] l = true :=
  ⟨fitT_iff.2 ⟨h, rfl, fun _ _ _ hq => by simp at hq⟩, fitT_iff.2 ⟨rfl, h, fun _ hp => by simp at hp⟩⟩
theorem join_comm {o : List Ti} (h : joinT l k = some o) : joinT k l = some o ∧ joinT o l = some o := by
  obtain ⟨h1, h2, h3, h4⟩ := joinT_some h
  obtain ⟨f1, f2⟩ := fit_parts h1
  have e : ∀ x, x ∈ o ↔ x ∈ l ∨ x ∈ k := fun x => by rw [← h2]; exact mgT_mem
  exact ⟨(joinT_is f2 f1 h4 fun x => by rw [e]; exact Or.comm).2, (joinT_is h4 f1 h4 fun x => ⟨.inl, fun hx => hx.elim id fun k => (e x).2 (.inl k)⟩).2⟩
theorem join_has {o : List Ti} (h : joinT l k = some o) : (∀ x ∈ k, x ∈ o) ∧ o.length ≤ l.length + k.length ∧ l.length ≤ o.length ∧ k.length ≤ o.length := by
  obtain ⟨_, h2, _, _⟩ := joinT_some h
  have := @mgT_len l k
  rw [h2] at this
  exact ⟨fun x hx => by rw [← h2]; exact mgT_mem.2 (.inr hx), this⟩
theorem join_nil (h : isTies l = true) : joinT l [] = some l ∧ joinT [] l = some l :=
  ⟨(joinT_is h rfl h fun x => by simp).2, (joinT_is rfl h h fun x => by simp).2⟩
theorem join_parts (h : isTies l = true) (i : Nat) : joinT (l.take i) (l.drop i) = some l ∧ joinT (l.drop i) (l.take i) = some l := by
  have e : ∀ x, x ∈ l ↔ x ∈ l.take i ∨ x ∈ l.drop i := fun x => by
    conv => lhs; rw [← List.take_append_drop i l]
    exact List.mem_append
  exact ⟨(joinT_is (isTies_take h i) (isTies_drop h i) h e).2, (joinT_is (isTies_drop h i) (isTies_take h i) h fun x => by rw [e]; exact Or.comm).2⟩
theorem join_less (h : isTies l = true) (hk : isTies k = true) (s : ∀ x ∈ k, x ∈ l) : fitT l k = true ∧ joinT l k = some l :=
  joinT_is h hk h fun x => ⟨.inl, fun hx => hx.elim id (s x)⟩
/-! What leads through a second core. -/
theorem thrT_yes (h : isTies l = true) (hk : isTies k = true) : thrT l k = some (thr l k) := if_pos ⟨h, hk⟩
theorem thrT_no (h : isTies l = false ∨ isTies k = false) : thrT l k = none := if_neg (by rcases h with h | h <;> simp [h])
theorem turnT_yes (h : isTies l = true) : turnT l = some (l.map swapT) := if_pos h
theorem turnT_no (h : isTies l = false) : turnT l = none := if_neg (by simp [h])
theorem thr_take (l k : List Ti) (i : Nat) : thr (l.take i) k = (thr l k).take (thr (l.take i) k).length ∧ (thr (l.take i) k).length ≤ (thr l k).length := by
  have e : thr l k = thr (l.take i) k ++ thr (l.drop i) k := by rw [← thr_append, List.take_append_drop]
  rw [e]
  exact ⟨by rw [List.take_left], by simp⟩
theorem thr_nil (l : List Ti) : thr l [] = [] ∧ thr [] l = [] := by
  refine ⟨?_, rfl⟩
  induction l with
  | nil => rfl
  | cons p l ih => rw [thr_cons, ih]; rfl
end Go.Proofs.Ythhdpjkmjebjhab
