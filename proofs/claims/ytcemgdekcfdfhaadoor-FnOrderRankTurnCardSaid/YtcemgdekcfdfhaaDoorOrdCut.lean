/- A text cut at its bars, as the library cuts it, beside the texts of parts. No program in it. -/
import Derived.Test.YtcemgdekcfdfhaaDoorOrdPart
import Derived.Lib.Split
import Derived.Lib.SplitLaws
import Derived.Lib.Join
namespace Go.Proofs.YtcemgdekcfdfhaaDoor

/-- The pieces between bars. -/
def pcs : List UInt8 → List (List UInt8)
  | [] => [[]]
  | c :: r => if c = 124 then [] :: pcs r else match pcs r with
    | [] => [[c]]
    | p :: ps => (c :: p) :: ps
theorem pcs_ne (s : List UInt8) : ∃ p ps, pcs s = p :: ps := by
  cases s with
  | nil => exact ⟨_, _, rfl⟩
  | cons c r =>
    unfold pcs
    split
    · exact ⟨_, _, rfl⟩
    · split <;> exact ⟨_, _, rfl⟩
theorem pcs_bar (r : List UInt8) : pcs (124 :: r) = [] :: pcs r := by simp [pcs]
theorem pcs_cons {c : UInt8} {r p : List UInt8} {ps : List (List UInt8)} (hc : c ≠ 124) (h : pcs r = p :: ps) : pcs (c :: r) = (c :: p) :: ps := by
  rw [pcs, if_neg hc, h]
theorem byt_bar (x : Bool) : byt x ≠ 124 := by cases x <;> decide
theorem pcs_jn (ts : List Tx) (h : ts ≠ []) : pcs (jn ts) = ts.map body := by
  induction ts with
  | nil => exact absurd rfl h
  | cons t ts ih =>
    induction t with
    | nil =>
      cases ts with
      | nil => rfl
      | cons u ts => rw [jn_bar, pcs_bar, ih (by simp)]; rfl
    | cons x t iht =>
      rw [jn_cons, pcs_cons (p := body t) (ps := ts.map body) (byt_bar x) (iht (by simp))]
      rfl
theorem pcs_sp {s : List UInt8} {ts : List Tx} (h : sp s = some ts) : pcs s = ts.map body := by
  obtain ⟨e, ne⟩ := jn_sp h
  rw [← e, pcs_jn ts ne]
/-- A piece of letters alone. -/
def okP (p : List UInt8) : Bool := p.count 97 + p.count 98 == p.length
theorem okP_cons {c : UInt8} {p : List UInt8} (h : okP (c :: p) = true) : (c = 97 ∨ c = 98) ∧ okP p = true := by
  have l1 := List.count_le_length (a := (97 : UInt8)) (l := p)
  have two : ∀ p : List UInt8, p.count 97 + p.count 98 ≤ p.length := fun p => by
    induction p with
    | nil => simp
    | cons d p ih =>
      simp only [List.count_cons, List.length_cons, beq_iff_eq]
      by_cases h1 : d = 97
      · subst h1; simp; omega
      · by_cases h2 : d = 98
        · subst h2; simp; omega
        · simp [h1, h2]; omega
  have t := two p
  simp only [okP, List.count_cons, List.length_cons, beq_iff_eq] at h ⊢
  by_cases h1 : c = 97
  · subst h1; simp at h ⊢; omega
  · by_cases h2 : c = 98
    · subst h2; simp at h ⊢; omega
    · simp [h1, h2] at h; omega
theorem okP_body (t : Tx) : (body t).count 97 = na t ∧ (body t).count 98 = nb t := by
  induction t with
  | nil => exact ⟨rfl, rfl⟩
  | cons x t ih =>
    show ((byt x) :: body t).count 97 = _ ∧ ((byt x) :: body t).count 98 = _
    cases x
    · rw [na_a, nb_a]; simp [byt, ih.1, ih.2]
    · rw [na_b, nb_b]; simp [byt, ih.1, ih.2]
theorem sp_of_pcs (s : List UInt8) (h : ∀ p ∈ pcs s, okP p = true) : ∃ ts, sp s = some ts := by
  induction s with
  | nil => exact ⟨_, rfl⟩
  | cons c r ih =>
    by_cases hc : c = 124
    · subst hc
      rw [pcs_bar] at h
      obtain ⟨ts, e⟩ := ih fun p hp => h p (by simp [hp])
      obtain ⟨u, us, rfl⟩ : ∃ u us, ts = u :: us := by
        cases ts with
        | nil => exact absurd rfl (jn_sp e).2
        | cons u us => exact ⟨u, us, rfl⟩
      exact ⟨[] :: u :: us, by rw [sp_cons _ _ _ _ e]; simp⟩
    · obtain ⟨p, ps, e⟩ := pcs_ne r
      rw [pcs_cons hc e] at h
      obtain ⟨lt, okp⟩ := okP_cons (h (c :: p) (by simp))
      obtain ⟨ts, e2⟩ := ih fun q hq => by
        rw [e] at hq
        rcases List.mem_cons.1 hq with rfl | hq
        · exact okp
        · exact h q (by simp [hq])
      obtain ⟨u, us, rfl⟩ : ∃ u us, ts = u :: us := by
        cases ts with
        | nil => exact absurd rfl (jn_sp e2).2
        | cons u us => exact ⟨u, us, rfl⟩
      rcases lt with rfl | rfl
      · exact ⟨_, by rw [sp_cons _ _ _ _ e2]; simp; rfl⟩
      · exact ⟨_, by rw [sp_cons _ _ _ _ e2]; simp; rfl⟩
/-- A piece that is a part: letters alone, and few enough. -/
def okPart (p : List UInt8) : Bool := okP p && (parB (p.count 97 : Int) && parB (p.count 98 : Int))
theorem parts_bad {s : List UInt8} {p : List UInt8} (hp : p ∈ pcs s) (h : okPart p = false) : partsOf s = none := by
  unfold partsOf
  cases c : sp s with
  | none => rfl
  | some ts =>
    simp only
    rw [if_neg]
    intro k
    have w := isPar_iff.1 k
    rw [pcs_sp c] at hp
    obtain ⟨t, ht, rfl⟩ := List.mem_map.1 hp
    obtain ⟨i, hi, rfl⟩ := List.getElem_of_mem ht
    have e := okP_body ts[i]
    have h1 := w.a6 i (by simpa [intA] using hi)
    have h2 := w.b6 i (by simpa [intB] using hi)
    simp only [intA, intB, List.getElem_map] at h1 h2
    have k1 := parB_iff.2 h1; have k2 := parB_iff.2 h2
    have nn := na_nb ts[i]
    unfold okPart okP at h
    rw [e.1, e.2, body_length, k1, k2] at h
    simp [nn] at h
theorem parts_many {s : List UInt8} (h : 4 < (pcs s).length) : partsOf s = none := by
  unfold partsOf
  cases c : sp s with
  | none => rfl
  | some ts =>
    simp only
    rw [if_neg]
    intro k
    have w := (isPar_iff.1 k).most
    rw [pcs_sp c, List.length_map] at h
    simp only [intA, List.length_map] at w
    omega
theorem parts_good {s : List UInt8} (h : (pcs s).length ≤ 4) (k : ∀ p ∈ pcs s, okPart p = true) : ∃ ts, sp s = some ts ∧ isPar (intA ts) (intB ts) = true ∧ partsOf s = some (intA ts, intB ts) ∧ pcs s = ts.map body := by
  obtain ⟨ts, e⟩ := sp_of_pcs s fun p hp => by have := k p hp; simp only [okPart, Bool.and_eq_true] at this; exact this.1
  have ep := pcs_sp e
  have q : isPar (intA ts) (intB ts) = true := isPar_iff.2 (by
    have ne := (jn_sp e).2
    have g : ∀ i (h : i < ts.length), (0 ≤ (na ts[i] : Int) ∧ (na ts[i] : Int) ≤ 6) ∧ (0 ≤ (nb ts[i] : Int) ∧ (nb ts[i] : Int) ≤ 6) := fun i h => by
      have m := k (body ts[i]) (by rw [ep]; exact List.mem_map_of_mem (List.getElem_mem h))
      have b := okP_body ts[i]
      simp only [okPart, Bool.and_eq_true, b.1, b.2, parB_iff] at m
      exact m.2
    refine ⟨?_, by simp only [intA, List.length_map]; rw [ep, List.length_map] at h; exact h, by simp [intA, intB], fun i hi => ?_, fun i hi => ?_⟩
    · simp only [intA, List.length_map]
      cases ts with
      | nil => exact absurd rfl ne
      | cons _ _ => simp
    · simp only [intA, List.getElem_map]; exact (g i (by simpa [intA] using hi)).1
    · simp only [intB, List.getElem_map]; exact (g i (by simpa [intB] using hi)).2)
  refine ⟨ts, e, q, ?_, ep⟩
  unfold partsOf
  rw [e]; simp only; rw [if_pos q]
theorem pcs_length (s : List UInt8) : (pcs s).length = s.count 124 + 1 := by
  induction s with
  | nil => rfl
  | cons c r ih =>
    by_cases hc : c = 124
    · subst hc; rw [pcs_bar, List.length_cons, ih]; simp
    · obtain ⟨p, ps, e⟩ := pcs_ne r
      rw [pcs_cons hc e]
      rw [e] at ih
      simp [hc] at ih ⊢
      omega
theorem pcs_le {s p : List UInt8} (h : p ∈ pcs s) : p.length ≤ s.length := by
  induction s generalizing p with
  | nil => simp [pcs] at h; subst h; exact Nat.le_refl _
  | cons c r ih =>
    by_cases hc : c = 124
    · subst hc
      rw [pcs_bar] at h
      rcases List.mem_cons.1 h with rfl | h
      · simp
      · have := ih h; rw [List.length_cons]; omega
    · obtain ⟨q, ps, e⟩ := pcs_ne r
      rw [pcs_cons hc e] at h
      rcases List.mem_cons.1 h with rfl | h
      · have := ih (p := q) (by rw [e]; simp); simp only [List.length_cons]; omega
      · have := ih (p := p) (by rw [e]; simp [h]); rw [List.length_cons]; omega
/-! As the library says it. -/
theorem index_bar (r : List UInt8) : Lib.index (124 :: r) [124] = 0 := by simp [Lib.index, List.isPrefixOf]
theorem index_not {c : UInt8} (r : List UInt8) (hc : c ≠ 124) : Lib.index (c :: r) [124] = if Lib.index r [124] == -1 then -1 else Lib.index r [124] + 1 := by
  rw [Lib.index, if_neg]
  simp [List.isPrefixOf]
  exact fun h => hc h.symm
theorem splitK_pcs (s : List UInt8) : Lib.splitK [124] 0 (s.count 124) s = pcs s := by
  induction s with
  | nil => rfl
  | cons c r ih =>
    by_cases hc : c = 124
    · subst hc
      rw [List.count_cons_self, Lib.splitK, index_bar, pcs_bar]
      simp [ih]
    · have hcount : (c :: r).count 124 = r.count 124 := by simp [hc]
      rw [hcount]
      obtain ⟨p, ps, e⟩ := pcs_ne r
      rw [pcs_cons hc e]
      rw [e] at ih
      cases k : r.count 124 with
      | zero =>
        rw [k] at ih
        simp only [Lib.splitK] at ih ⊢
        simp only [List.cons.injEq] at ih
        rw [← ih.1, ← ih.2]
      | succ k =>
        rw [k] at ih
        simp only [Lib.splitK] at ih ⊢
        rw [index_not r hc]
        have ge := Lib.index_ge r [124]
        by_cases h : Lib.index r [124] = -1
        · simp only [h] at ih ⊢
          simp at ih ⊢
          exact ⟨ih.1, ih.2⟩
        · have h1 : (Lib.index r [124] == -1) = false := beq_eq_false_iff_ne.2 h
          have h2 : (Lib.index r [124] + 1 == -1) = false := beq_eq_false_iff_ne.2 (by omega)
          obtain ⟨n, hn⟩ := Int.eq_ofNat_of_zero_le (show 0 ≤ Lib.index r [124] by omega)
          rw [hn] at ih h1 h2 ⊢
          simp only [h1, h2, Bool.false_eq_true, if_false] at ih ⊢
          simp only [List.cons.injEq] at ih ⊢
          rw [show ((n : Int) + 1).toNat + 0 = n + 1 by omega, show ((n : Int) + 1).toNat + ([124] : List UInt8).length = (n + 1) + 1 by simp]
          rw [show ((n : Int)).toNat + 0 = n by omega, show ((n : Int)).toNat + ([124] : List UInt8).length = n + 1 by simp] at ih
          exact ⟨by rw [List.take_succ_cons, ih.1], by rw [List.drop_succ_cons]; exact ih.2⟩
theorem splitB_pcs (s : ByteArray) : (Lib.splitB ⟨#[124]⟩ 0 (Lib.countB s ⟨#[124]⟩) s).map (·.data.toList) = pcs s.data.toList ∧ Lib.countB s ⟨#[124]⟩ + 1 = (pcs s.data.toList).length := by
  have e : Lib.countB s ⟨#[124]⟩ = s.data.toList.count 124 := by
    show Lib.count s.data.toList [124] = _
    rw [Lib.count_one]
  rw [e]
  exact ⟨by rw [Lib.splitB_data]; exact splitK_pcs _, by rw [pcs_length]⟩
theorem join_jn (ts : List Tx) : Lib.join (ts.map body) [124] = jn ts := by
  cases ts with
  | nil => rfl
  | cons t ts =>
    rw [List.map_cons, Lib.join_cons]
    induction ts generalizing t with
    | nil => simp [Lib.joinTail, jn]
    | cons u ts ih =>
      rw [jn_more, ← ih u]
      simp [Lib.joinTail]
/-! Ranks, part by part from the first one on. -/
theorem rks_snoc (ts : List Tx) (t : Tx) : rks (ts ++ [t]) = rks ts * ch (na t) (nb t) + rk t := by
  induction ts with
  | nil => simp [rks, cnt]
  | cons u ts ih =>
    simp only [List.cons_append, rks, ih, List.map_append, List.map_cons, List.map_nil, cnt_append, cnt, Nat.mul_one]
    show rk u * (cnt (ts.map cts) * ch (na t) (nb t)) + _ = _
    rw [Nat.add_mul, Nat.mul_assoc, Nat.add_assoc]
theorem rks_take {ts : List Tx} {j : Nat} (hj : j < ts.length) : rks (ts.take (j + 1)) = rks (ts.take j) * ch (na ts[j]) (nb ts[j]) + rk ts[j] := by
  rw [List.take_succ_eq_append_getElem hj, rks_snoc]
end Go.Proofs.YtcemgdekcfdfhaaDoor
