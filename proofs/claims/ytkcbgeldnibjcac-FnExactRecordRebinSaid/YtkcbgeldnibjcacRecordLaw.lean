/- Records: merging, other bins, means, parts: plain mathematics, no program in it. -/
import Derived.Test.YtkcbgeldnibjcacRecordIs
namespace Go.Proofs.Ytkcbgeldnibjcac

theorem share_fits {t u a e f : Int} (ha : 0 ≤ a) (ha1 : a ≤ 10000) (h0 : 0 ≤ e) (h : e < f) (h1 : f ≤ 30000) : fits (share t u a e f) = true ∧ ofV (a * common t u e f) (f - e) = true ∧ 0 ≤ a * common t u e f ∧ a * common t u e f ≤ 300000000 := by
  have c0 : 0 ≤ common t u e f := by unfold common; omega
  have c1 : common t u e f ≤ 30000 := by unfold common; omega
  have p0 : 0 ≤ a * common t u e f := Int.mul_nonneg ha c0
  have p1 : a * common t u e f ≤ 10000 * 30000 := Int.mul_le_mul ha1 c1 c0 (by omega)
  refine ⟨?_, ofV_iff.2 (by omega), p0, by omega⟩
  unfold share
  have hb : 0 < f - e := by omega
  rw [← Rat.divInt_eq_div]
  have k := quot_small (a := a * common t u e f) hb
  have d : ((Rat.divInt (a * common t u e f) (f - e)).den : Int) ≤ f - e := by
    rw [← (quot hb).2]; exact Int.tdiv_le_self _ (by omega)
  rw [fits_iff]; omega
theorem fits_part1 {a b : Int} (h0 : 0 ≤ a) (h1 : a ≤ 10000) (hb : 0 < b) (h2 : b ≤ 30000) : fits ((a : Rat) / (b : Rat)) = true := by
  rw [← Rat.divInt_eq_div]
  have k := quot_small (a := a) hb
  have d : ((Rat.divInt a b).den : Int) ≤ b := by rw [← (quot hb).2]; exact Int.tdiv_le_self _ (by omega)
  rw [fits_iff]; omega

/-! Means -/
def meanR (t u : Int) (r : Rat) : Rat := r / ((u - t : Int) : Rat)
def meanOf (l m : List Int) (t u : Int) : Option Rat := match bet l m t u with
  | some r => if t < u ∧ fits (meanR t u r) = true then some (meanR t u r) else none
  | none => none
theorem meanOf_is {l m : List Int} {t u : Int} {x : Rat} (h : meanOf l m t u = some x) : ∃ r, bet l m t u = some r ∧ x = meanR t u r ∧ t < u ∧ fits x = true := by
  unfold meanOf at h
  split at h
  · rename_i r hr
    split at h
    · rename_i hh
      cases h
      exact ⟨r, hr, rfl, hh.1, hh.2⟩
    · cases h
  · cases h
theorem meanOf_of {l m : List Int} {t u : Int} {r : Rat} (h : bet l m t u = some r) (k : t < u) (f : fits (meanR t u r) = true) : meanOf l m t u = some (meanR t u r) := by
  unfold meanOf; rw [h]; exact if_pos ⟨k, f⟩
theorem int_ne {x : Int} (h : x ≠ 0) : ((x : Int) : Rat) ≠ 0 := fun k => h (Rat.intCast_inj.1 k)
theorem mean_back {t u : Int} {r : Rat} (h : t < u) : meanR t u r * ((u - t : Int) : Rat) = r := by
  unfold meanR
  exact Rat.div_mul_cancel (int_ne (by omega))
theorem mean_nonneg {t u : Int} {r : Rat} (h : t < u) (k : 0 ≤ r) : 0 ≤ meanR t u r := by
  have hp : ((0 : Int) : Rat) < ((u - t : Int) : Rat) := Rat.intCast_lt_intCast.2 (by omega)
  unfold meanR
  rw [Rat.div_def]
  exact Rat.mul_nonneg k (Rat.le_of_lt (Rat.inv_pos.2 hp))
/-- Within one bin. -/
theorem amt_within {l m : List Int} (h : isRec l m = true) (k : Nat) (hk : k < m.length) {t u : Int} (h1 : (l[k]'(by have := rec_len h; omega)) ≤ t) (htu : t ≤ u) (h2 : u ≤ l[k + 1]'(by have := rec_len h; omega)) :
    bet l m t u = some (share t u m[k] (l[k]'(by have := rec_len h; omega)) (l[k + 1]'(by have := rec_len h; omega))) := by
  have hl := rec_len h
  have hm := (isRec_iff.1 h).2.2
  have he := rec_edges h
  have ra := edges_range he k (by omega)
  have rb := edges_range he (k + 1) (by omega)
  obtain ⟨e, f, r, rfl, _, e0, ha, hz⟩ := isEdges_iff.1 he
  unfold bet
  rw [if_pos (betOk_iff.2 ⟨h, by omega, htu, by omega⟩)]
  show addUp t u 0 e (f :: r) m = _
  have pure0 : ∀ (s : Rat) (e : Int) (l m : List Int), Asc e l → fits s = true → u ≤ e → addUp t u s e l m = some s := by
    intro s e l
    induction l generalizing s e with
    | nil => intro m _ _ _; simp only [addUp]
    | cons f l ih =>
      intro m a fs hu
      cases m with
      | nil => simp only [addUp]
      | cons x m =>
        simp only [addUp]
        rw [share_out (.inl hu) a.1, show s + 0 = s by grind, fits_zero, fs]
        exact ih s f m a.2 fs (by have := a.1; omega)
  have main : ∀ (k : Nat) (e : Int) (l m : List Int) (hk : k < m.length) (hl : l.length = m.length), 0 ≤ e → Asc e l → lastE e l ≤ 30000 → (∀ x ∈ m, 0 ≤ x ∧ x ≤ 10000) → (e :: l)[k]'(by simp; omega) ≤ t → u ≤ l[k] →
      addUp t u 0 e l m = some (share t u m[k] ((e :: l)[k]'(by simp; omega)) l[k]) := by
    intro k
    induction k with
    | zero =>
      intro e l m hk hl e0 a hz hm h1 h2
      cases l with
      | nil => simp at hl; omega
      | cons f l =>
      cases m with
      | nil => simp at hk
      | cons x m =>
        have b := a.2.last
        simp only [lastE] at hz
        simp only [List.getElem_cons_zero] at h1 h2 ⊢
        have sf := (share_fits (t := t) (u := u) (hm x (by simp)).1 (hm x (by simp)).2 e0 a.1 (by omega)).1
        simp only [addUp]
        rw [show (0 : Rat) + share t u x e f = share t u x e f by grind, sf]
        exact pure0 _ f l m a.2 sf h2
    | succ k ih =>
      intro e l m hk hl e0 a hz hm h1 h2
      cases l with
      | nil => simp at hl; omega
      | cons f l =>
      cases m with
      | nil => simp at hk
      | cons x m =>
        simp only [List.length_cons] at hk hl
        simp only [List.getElem_cons_succ] at h1 h2 ⊢
        have le : f ≤ (f :: l)[k]'(by simp; omega) := asc_le a.2 k (by simp; omega)
        simp only [addUp]
        rw [share_out (.inr (by omega)) a.1, show (0 : Rat) + 0 = 0 by grind, fits_zero]
        have a1 := a.1
        exact ih f l m (by omega) (by omega) (by omega) a.2 hz (fun y hy => hm y (by simp [hy])) h1 h2
  simp only [List.length_cons] at hl
  exact main k e (f :: r) m hk (by simp; omega) e0 ha hz hm h1 h2
theorem share_mean {t u a e f : Int} (h : e ≤ t) (htu : t < u) (k : u ≤ f) : meanR t u (share t u a e f) = (a : Rat) / ((f - e : Int) : Rat) := by
  have c : common t u e f = u - t := by unfold common; omega
  have z := int_ne (show (u - t : Int) ≠ 0 by omega)
  unfold meanR share
  rw [c, Rat.intCast_mul]
  simp only [Rat.div_def]
  rw [Rat.mul_assoc, Rat.mul_assoc, Rat.mul_comm (((f - e : Int) : Rat)⁻¹), ← Rat.mul_assoc (((u - t : Int) : Rat)), Rat.mul_inv_cancel _ z, Rat.one_mul]
theorem mean_bin {l m : List Int} (h : isRec l m = true) (k : Nat) (hk : k < m.length) {u : Int} (h1 : (l[k]'(by have := rec_len h; omega)) < u) (h2 : u ≤ l[k + 1]'(by have := rec_len h; omega)) :
    meanOf l m (l[k]'(by have := rec_len h; omega)) u = some ((m[k] : Rat) / (((l[k + 1]'(by have := rec_len h; omega)) - (l[k]'(by have := rec_len h; omega)) : Int) : Rat)) := by
  have hl := rec_len h
  have b := amt_within h k hk (Int.le_refl _) (Int.le_of_lt h1) h2
  have s := share_mean (a := m[k]) (Int.le_refl (l[k]'(by omega))) h1 h2
  have he := rec_edges h
  have up := edges_up he k (k + 1) (by omega) (by omega)
  have r0 := edges_range he k (by omega)
  have r1 := edges_range he (k + 1) (by omega)
  have rm := rec_amount h k hk
  have := meanOf_of b h1 (by rw [s]; exact fits_part1 rm.1 rm.2 (by omega) (by omega))
  rw [this, s]
/-- A mean is between those of its parts. -/
theorem mean_mid {t d u : Int} {a b : Rat} (h1 : t < d) (h2 : d < u) : ¬ (meanR t d a < meanR t u (a + b) ∧ meanR d u b < meanR t u (a + b)) ∧ ¬ (meanR t u (a + b) < meanR t d a ∧ meanR t u (a + b) < meanR d u b) := by
  have e1 := mean_back (r := a) h1
  have e2 := mean_back (r := b) h2
  have e3 := mean_back (r := a + b) (show t < u by omega)
  have p1 : ((0 : Int) : Rat) < ((d - t : Int) : Rat) := Rat.intCast_lt_intCast.2 (by omega)
  have p2 : ((0 : Int) : Rat) < ((u - d : Int) : Rat) := Rat.intCast_lt_intCast.2 (by omega)
  have q : ((u - t : Int) : Rat) = ((d - t : Int) : Rat) + ((u - d : Int) : Rat) := by rw [← Rat.intCast_add]; congr 1; omega
  rw [q] at e3
  generalize meanR t d a = x at *
  generalize meanR d u b = y at *
  generalize meanR t u (a + b) = z at *
  generalize ((d - t : Int) : Rat) = p at *
  generalize ((u - d : Int) : Rat) = s at *
  have z0 : ((0 : Int) : Rat) = 0 := rfl
  rw [z0] at p1 p2
  constructor
  · rintro ⟨k1, k2⟩
    have m1 := Rat.mul_lt_mul_of_pos_right k1 p1
    have m2 := Rat.mul_lt_mul_of_pos_right k2 p2
    grind
  · rintro ⟨k1, k2⟩
    have m1 := Rat.mul_lt_mul_of_pos_right k1 p1
    have m2 := Rat.mul_lt_mul_of_pos_right k2 p2
    grind

/-! Other bins -/
def bets (l m : List Int) : Int → List Int → Option (List Rat)
  | t, u :: o => match bet l m t u with
    | some r => (bets l m u o).map (r :: ·)
    | none => none
  | _, [] => some []
def rebOf (l m o : List Int) : Option (List Rat) := match o with
  | t :: o' => if isRec l m && isEdges o then bets l m t o' else none
  | [] => none
theorem bets_len {l m : List Int} {t : Int} {o : List Int} {rs : List Rat} (h : bets l m t o = some rs) : rs.length = o.length := by
  induction o generalizing t rs with
  | nil => simp only [bets, Option.some.injEq] at h; subst h; rfl
  | cons u o ih =>
    simp only [bets] at h
    split at h
    · cases hb : bets l m u o with
      | none => rw [hb] at h; cases h
      | some qs =>
        rw [hb] at h
        simp only [Option.map_some, Option.some.injEq] at h
        subst h
        simp [ih hb]
    · cases h
theorem bets_sum {l m : List Int} {t : Int} {o : List Int} {rs : List Rat} (h : bets l m t o = some rs) (he : isEdges l = true) (ha : Asc t o) : rs.sum = amt t (lastE t o) l m := by
  induction o generalizing t rs with
  | nil =>
    simp only [bets, Option.some.injEq] at h; subst h
    simp only [lastE]; rw [amt_none]; rfl
  | cons u o ih =>
    simp only [bets] at h
    split at h
    · rename_i r hr
      cases hb : bets l m u o with
      | none => rw [hb] at h; cases h
      | some qs =>
        rw [hb] at h
        simp only [Option.map_some, Option.some.injEq] at h
        subst h
        have a1 := ha.2.last
        have a0 := ha.1
        rw [List.sum_cons, ih hb ha.2, (bet_is hr).1]
        exact amt_split he (by omega) a1
    · cases h
theorem bets_of {l m : List Int} {t : Int} {o : List Int} {rs : List Rat} (hl : rs.length = o.length) (h : ∀ i (hi : i < o.length), bet l m ((t :: o)[i]'(by simp; omega)) o[i] = some (rs[i]'(by omega))) : bets l m t o = some rs := by
  induction o generalizing t rs with
  | nil => simp only [bets]; rw [List.eq_nil_of_length_eq_zero hl]
  | cons u o ih =>
    match rs, hl with
    | r :: rs, hl =>
      have h0 := h 0 (by simp)
      simp only [List.getElem_cons_zero] at h0
      have := ih (t := u) (rs := rs) (by simpa using hl) fun i hi => by
        have := h (i + 1) (by simp; omega)
        simpa only [List.getElem_cons_succ] using this
      simp only [bets]; rw [h0, this]; rfl
theorem rebOf_is {l m o : List Int} {rs : List Rat} (h : rebOf l m o = some rs) : ∃ t o', o = t :: o' ∧ isRec l m = true ∧ isEdges o = true ∧ bets l m t o' = some rs := by
  unfold rebOf at h
  split at h
  · rename_i t o'
    split at h
    · rename_i hh
      rw [Bool.and_eq_true] at hh
      exact ⟨t, o', rfl, hh.1, hh.2, h⟩
    · cases h
  · cases h
theorem rebOf_sum {l m o : List Int} {rs : List Rat} (h : rebOf l m o = some rs) (h0 : 0 < o.length) : rs.length = o.length - 1 ∧ rs.sum = amt o[0] (o[o.length - 1]'(by omega)) l m := by
  obtain ⟨t, o', rfl, h1, h2, h3⟩ := rebOf_is h
  obtain ⟨e, f, r, e1, _, _, ha, _⟩ := isEdges_iff.1 h2
  injection e1 with e1 e2
  subst e1 e2
  refine ⟨by simpa using bets_len h3, ?_⟩
  rw [bets_sum h3 (rec_edges h1) ha, lastE_get]; rfl
/-- Adding up fractions one by one. -/
def addL : Rat → List Rat → Option Rat
  | s, [] => some s
  | s, r :: rs => if fits (s + r) = true then addL (s + r) rs else none
theorem addL_is {s x : Rat} {rs : List Rat} (h : addL s rs = some x) : x = s + rs.sum := by
  induction rs generalizing s with
  | nil => simp only [addL, Option.some.injEq] at h; subst h; simp only [List.sum_nil]; grind
  | cons r rs ih =>
    simp only [addL] at h
    split at h
    · rw [ih h, List.sum_cons]; grind
    · cases h
/-- A record has its own bins. -/
theorem rebOf_self {l m : List Int} (h : isRec l m = true) : rebOf l m l = some (m.map fun a : Int => (a : Rat)) := by
  have hl := rec_len h
  have he := rec_edges h
  have hb := fun k hk => amt_bin (l := l) (m := m) h k hk
  have hr := edges_range he
  have hu := edges_up he
  match l, hl with
  | t :: o, hl =>
    simp only [List.length_cons] at hl
    unfold rebOf
    rw [h, he]
    refine bets_of (by simp; omega) fun i hi => ?_
    have r0 := hr i (by simp; omega)
    have r1 := hr (i + 1) (by simp; omega)
    have u := hu i (i + 1) (by omega) (by simp; omega)
    have b := hb i (by omega)
    simp only [List.getElem_cons_succ] at r1 u b
    have c := bet_clean h r0.1 (Int.le_of_lt u) r1.2 (.inl (List.getElem_mem _)) (.inl (by simp))
    rw [c, b]; simp
theorem bet_whole {l m : List Int} (h : isRec l m = true) : bet l m (l[0]'(by have := rec_len h; omega)) (l[l.length - 1]'(by have := rec_len h; omega)) = some ((m.sum : Int) : Rat) := by
  have hl := rec_len h
  have he := rec_edges h
  have r0 := edges_range he 0 (by omega)
  have r1 := edges_range he (l.length - 1) (by omega)
  have u := edges_up he 0 (l.length - 1) (by omega) (by omega)
  have c := bet_clean h r0.1 (Int.le_of_lt u) r1.2 (.inl (List.getElem_mem _)) (.inl (List.getElem_mem _))
  rw [c, amt_whole h (edges_first he (by omega)) (edges_last he (by omega))]
theorem edges_ends {l : List Int} (h : isEdges l = true) : isEdges [l[0]'(by have := isEdges_len h; omega), l[l.length - 1]'(by have := isEdges_len h; omega)] = true := by
  have hl := isEdges_len h
  refine isEdges_of (by simp) (by simp) (fun i hi => ?_) (fun i hi => ?_)
  · match i, hi with
    | 0, _ => exact edges_range h 0 (by omega)
    | 1, _ => exact edges_range h _ (by omega)
  · have : i = 0 := by simp at hi; omega
    subst this
    exact edges_up h 0 _ (by omega) (by omega)
theorem rebOf_ends {l m : List Int} (h : isRec l m = true) : rebOf l m [l[0]'(by have := rec_len h; omega), l[l.length - 1]'(by have := rec_len h; omega)] = some [((m.sum : Int) : Rat)] := by
  unfold rebOf
  rw [h, edges_ends (rec_edges h)]
  simp only [Bool.and_self, if_true, bets]
  rw [bet_whole h]; rfl
theorem sum_bound {m : List Int} (h : ∀ x ∈ m, 0 ≤ x ∧ x ≤ 10000) : 0 ≤ m.sum ∧ m.sum ≤ 10000 * m.length := by
  induction m with
  | nil => simp
  | cons a m ih =>
    have := h a (by simp)
    have := ih fun x hx => h x (by simp [hx])
    simp only [List.sum_cons, List.length_cons]; omega
theorem rec_sum {l m : List Int} (h : isRec l m = true) : 0 ≤ m.sum ∧ m.sum ≤ 200000 := by
  have := sum_bound (isRec_iff.1 h).2.2; have := rec_len h; omega

/-! Parts -/
theorem edges_take {l : List Int} (h : isEdges l = true) {k : Nat} (h2 : 2 ≤ k) (hk : k ≤ l.length) : isEdges (l.take k) = true := by
  have hl := isEdges_len h
  refine isEdges_of (by rw [List.length_take]; omega) (by rw [List.length_take]; omega) (fun i hi => ?_) (fun i hi => ?_)
  · rw [List.getElem_take]; exact edges_range h i (by rw [List.length_take] at hi; omega)
  · rw [List.getElem_take, List.getElem_take]; exact edges_up h i (i + 1) (by omega) (by rw [List.length_take] at hi; omega)
theorem edges_drop {l : List Int} (h : isEdges l = true) {k : Nat} (hk : k + 2 ≤ l.length) : isEdges (l.drop k) = true := by
  have hl := isEdges_len h
  refine isEdges_of (by rw [List.length_drop]; omega) (by rw [List.length_drop]; omega) (fun i hi => ?_) (fun i hi => ?_)
  · rw [List.getElem_drop]; exact edges_range h (k + i) (by rw [List.length_drop] at hi; omega)
  · rw [List.getElem_drop, List.getElem_drop]; exact edges_up h (k + i) (k + (i + 1)) (by omega) (by rw [List.length_drop] at hi; omega)
theorem rec_take {l m : List Int} (h : isRec l m = true) {k : Nat} (h1 : 1 ≤ k) (hk : k ≤ m.length) : isRec (l.take (k + 1)) (m.take k) = true := by
  have hl := rec_len h
  refine isRec_iff.2 ⟨edges_take (rec_edges h) (by omega) (by omega), by simp; omega, fun x hx => (isRec_iff.1 h).2.2 x (List.mem_of_mem_take hx)⟩
theorem rec_drop {l m : List Int} (h : isRec l m = true) {k : Nat} (hk : k < m.length) : isRec (l.drop k) (m.drop k) = true := by
  have hl := rec_len h
  refine isRec_iff.2 ⟨edges_drop (rec_edges h) (by omega), by simp; omega, fun x hx => (isRec_iff.1 h).2.2 x (List.mem_of_mem_drop hx)⟩
theorem rec_not_len {l m : List Int} (h : l.length ≠ m.length + 1) : isRec l m = false := by
  cases k : isRec l m
  · rfl
  · exact absurd (isRec_iff.1 k).2.1 h
theorem rec_not_amount {l m : List Int} (i : Nat) (hi : i < m.length) (h : m[i] < 0 ∨ 10000 < m[i]) : isRec l m = false := by
  cases k : isRec l m
  · rfl
  · have := rec_amount k i hi; omega
theorem rec_not_edges {l m : List Int} (h : isEdges l = false) : isRec l m = false := by unfold isRec; rw [h]; rfl
theorem sum_parts (m : List Int) (k : Nat) : (m.take k).sum + (m.drop k).sum = m.sum := by
  rw [← List.sum_append, List.take_append_drop]

/-! Merging -/
def mergedE (l : List Int) (k : Nat) : List Int := l.take (k + 1) ++ l.drop (k + 2)
def mergedA (m : List Int) (k : Nat) : List Int := m.take k ++ [m.getD k 0 + m.getD (k + 1) 0] ++ m.drop (k + 2)
def mergeOk (l m : List Int) (k : Int) : Bool := isRec l m && decide (0 ≤ k) && decide (k + 2 ≤ (m.length : Int)) && decide (m.getD k.toNat 0 + m.getD (k.toNat + 1) 0 ≤ 10000)
def mergeOf (l m : List Int) (k : Int) : Option (List Int × List Int) := if mergeOk l m k = true then some (mergedE l k.toNat, mergedA m k.toNat) else none
theorem mergeOk_iff {l m : List Int} {k : Int} : mergeOk l m k = true ↔ isRec l m = true ∧ 0 ≤ k ∧ k + 2 ≤ (m.length : Int) ∧ m.getD k.toNat 0 + m.getD (k.toNat + 1) 0 ≤ 10000 := by
  simp only [mergeOk, Bool.and_eq_true, decide_eq_true_eq, and_assoc]
theorem mergeOf_is {l m : List Int} {k : Int} {p : List Int × List Int} (h : mergeOf l m k = some p) : ∃ j : Nat, k = j ∧ isRec l m = true ∧ j + 2 ≤ m.length ∧ m.getD j 0 + m.getD (j + 1) 0 ≤ 10000 ∧ p = (mergedE l j, mergedA m j) := by
  unfold mergeOf at h
  split at h
  · rename_i hh
    obtain ⟨h1, h2, h3, h4⟩ := mergeOk_iff.1 hh
    cases h
    exact ⟨k.toNat, by omega, h1, by omega, h4, rfl⟩
  · cases h
theorem mergedE_length {l : List Int} {k : Nat} (hk : k + 2 ≤ l.length) : (mergedE l k).length = l.length - 1 := by
  simp only [mergedE, List.length_append, List.length_take, List.length_drop]; omega
theorem mergedA_length {m : List Int} {k : Nat} (hk : k + 2 ≤ m.length) : (mergedA m k).length = m.length - 1 := by
  simp only [mergedA, List.length_append, List.length_take, List.length_drop, List.length_cons, List.length_nil]; omega
theorem mergedE_low {l : List Int} {k i : Nat} (hi : i ≤ k) (hk : k + 2 ≤ l.length) : (mergedE l k)[i]'(by rw [mergedE_length hk]; omega) = l[i]'(by omega) := by
  unfold mergedE
  rw [List.getElem_append_left (by simp; omega), List.getElem_take]
theorem mergedE_high {l : List Int} {k i : Nat} (hi : k < i) (hk : k + 2 ≤ l.length) (hl : i + 1 < l.length) : (mergedE l k)[i]'(by rw [mergedE_length hk]; omega) = l[i + 1] := by
  unfold mergedE
  rw [List.getElem_append_right (by simp; omega), List.getElem_drop]
  congr 1; simp; omega
theorem mergedA_low {m : List Int} {k i : Nat} (hi : i < k) (hk : k + 2 ≤ m.length) : (mergedA m k)[i]'(by rw [mergedA_length hk]; omega) = m[i]'(by omega) := by
  unfold mergedA
  rw [List.getElem_append_left (by simp; omega), List.getElem_append_left (by simp; omega), List.getElem_take]
theorem mergedA_mid {m : List Int} {k : Nat} (hk : k + 2 ≤ m.length) : (mergedA m k)[k]'(by rw [mergedA_length hk]; omega) = m[k]'(by omega) + m[k + 1]'(by omega) := by
  unfold mergedA
  rw [List.getElem_append_left (by simp; omega), List.getElem_append_right (by simp; omega)]
  simp only [List.getElem_singleton, List.getD_eq_getElem?_getD]
  rw [List.getElem?_eq_getElem (by omega), List.getElem?_eq_getElem (by omega)]; rfl
theorem mergedA_high {m : List Int} {k i : Nat} (hi : k < i) (hk : k + 2 ≤ m.length) (hl : i + 1 < m.length) : (mergedA m k)[i]'(by rw [mergedA_length hk]; omega) = m[i + 1] := by
  unfold mergedA
  rw [List.getElem_append_right (by simp; omega), List.getElem_drop]
  congr 1; simp; omega
theorem getD_is {m : List Int} {i : Nat} (hi : i < m.length) : m.getD i 0 = m[i] := by
  rw [List.getD_eq_getElem?_getD, List.getElem?_eq_getElem hi]; rfl
theorem merged_edges {l : List Int} {k : Nat} (h : isEdges l = true) (hk : k + 3 ≤ l.length) : isEdges (mergedE l k) = true := by
  have hl := isEdges_len h
  have e := mergedE_length (l := l) (k := k) (by omega)
  refine isEdges_of (by omega) (by omega) (fun i hi => ?_) (fun i hi => ?_)
  · rcases Nat.lt_or_ge k i with q | q
    · rw [mergedE_high q (by omega) (by omega)]; exact edges_range h _ _
    · rw [mergedE_low q (by omega)]; exact edges_range h _ _
  · rcases Nat.lt_or_ge k i with q | q
    · rw [mergedE_high q (by omega) (by omega), mergedE_high (by omega) (by omega) (by omega)]; exact edges_up h _ _ (by omega) _
    · rw [mergedE_low q (by omega)]
      rcases Nat.lt_or_ge k (i + 1) with q2 | q2
      · rw [mergedE_high q2 (by omega) (by omega)]; exact edges_up h _ _ (by omega) _
      · rw [mergedE_low q2 (by omega)]; exact edges_up h _ _ (by omega) _
theorem merged_rec {l m : List Int} {k : Nat} (h : isRec l m = true) (hk : k + 2 ≤ m.length) : isRec (mergedE l k) (mergedA m k) = decide (m.getD k 0 + m.getD (k + 1) 0 ≤ 10000) := by
  have hl := rec_len h
  have e := mergedE_length (l := l) (k := k) (by omega)
  have a := mergedA_length hk
  by_cases q : m.getD k 0 + m.getD (k + 1) 0 ≤ 10000
  · rw [decide_eq_true q]
    rw [getD_is (by omega), getD_is (by omega)] at q
    refine isRec_iff.2 ⟨merged_edges (rec_edges h) (by omega), by omega, fun x hx => ?_⟩
    obtain ⟨i, hi, rfl⟩ := List.getElem_of_mem hx
    rcases Nat.lt_trichotomy i k with z | z | z
    · rw [mergedA_low z hk]; exact rec_amount h _ _
    · subst z
      rw [mergedA_mid hk]
      have p0 := rec_amount h i (by omega)
      have p1 := rec_amount h (i + 1) (by omega)
      omega
    · rw [mergedA_high z hk (by omega)]; exact rec_amount h _ _
  · rw [decide_eq_false q]
    rw [getD_is (by omega), getD_is (by omega)] at q
    refine rec_not_amount k (by omega) ?_
    rw [mergedA_mid hk]; omega
theorem merged_sum {m : List Int} {k : Nat} (hk : k + 2 ≤ m.length) : (mergedA m k).sum = m.sum := by
  unfold mergedA
  rw [List.sum_append, List.sum_append, getD_is (by omega), getD_is (by omega)]
  have e := sum_parts m k
  rw [List.drop_eq_getElem_cons (show k < m.length by omega), List.drop_eq_getElem_cons (show k + 1 < m.length by omega)] at e
  simp only [List.sum_cons, List.sum_nil] at e ⊢
  rw [show k + 2 = k + 1 + 1 from rfl]
  omega
/-- A bin of the merged record has its amount in the first one. -/
theorem merged_bin {l m : List Int} {k : Nat} (h : isRec l m = true) (hk : k + 2 ≤ m.length) (i : Nat) (hi : i < (mergedA m k).length) :
    amt ((mergedE l k)[i]'(by rw [mergedE_length (by have := rec_len h; omega)]; have := rec_len h; rw [mergedA_length hk] at hi; omega)) ((mergedE l k)[i + 1]'(by rw [mergedE_length (by have := rec_len h; omega)]; have := rec_len h; rw [mergedA_length hk] at hi; omega)) l m = (((mergedA m k)[i] : Int) : Rat) := by
  have hl := rec_len h
  have hi' := hi
  rw [mergedA_length hk] at hi'
  rcases Nat.lt_trichotomy i k with z | z | z
  · simp only [mergedA_low z hk, mergedE_low (Nat.le_of_lt z) (show k + 2 ≤ l.length by omega), mergedE_low (show i + 1 ≤ k by omega) (show k + 2 ≤ l.length by omega)]
    exact amt_bin h i (by omega)
  · subst z
    simp only [mergedA_mid hk, mergedE_low (Nat.le_refl i) (show i + 2 ≤ l.length by omega), mergedE_high (Nat.lt_succ_self i) (show i + 2 ≤ l.length by omega) (show i + 1 + 1 < l.length by omega)]
    have u1 := edges_up (rec_edges h) i (i + 1) (by omega) (by omega)
    have u2 := edges_up (rec_edges h) (i + 1) (i + 1 + 1) (by omega) (by omega)
    rw [← amt_split (rec_edges h) (Int.le_of_lt u1) (Int.le_of_lt u2), amt_bin h i (by omega), amt_bin h (i + 1) (by omega), Rat.intCast_add]
  · simp only [mergedA_high z hk (show i + 1 < m.length by omega), mergedE_high z (show k + 2 ≤ l.length by omega) (show i + 1 < l.length by omega), mergedE_high (show k < i + 1 by omega) (show k + 2 ≤ l.length by omega) (show i + 1 + 1 < l.length by omega)]
    exact amt_bin h (i + 1) (by omega)
theorem mergedE_mem {l : List Int} {k : Nat} : ∀ x ∈ mergedE l k, x ∈ l := by
  intro x hx
  unfold mergedE at hx
  rcases List.mem_append.1 hx with q | q
  · exact List.mem_of_mem_take q
  · exact List.mem_of_mem_drop q
theorem merged_bet_bin {l m : List Int} {k : Nat} (h : isRec l m = true) (hk : k + 2 ≤ m.length) (i : Nat) (hi : i < (mergedA m k).length) :
    bet l m ((mergedE l k)[i]'(by rw [mergedE_length (by have := rec_len h; omega)]; have := rec_len h; rw [mergedA_length hk] at hi; omega)) ((mergedE l k)[i + 1]'(by rw [mergedE_length (by have := rec_len h; omega)]; have := rec_len h; rw [mergedA_length hk] at hi; omega)) = some (((mergedA m k)[i] : Int) : Rat) := by
  have hl := rec_len h
  have a := mergedA_length hk
  have e := mergedE_length (l := l) (k := k) (by omega)
  have me := merged_edges (k := k) (rec_edges h) (by omega)
  have u := edges_up me i (i + 1) (by omega) (by omega)
  rw [← merged_bin h hk i hi]
  exact bet_clean h (edges_range me i (by omega)).1 (Int.le_of_lt u) (edges_range me (i + 1) (by omega)).2 (.inl (mergedE_mem _ (List.getElem_mem _))) (.inl (mergedE_mem _ (List.getElem_mem _)))
/-- From the first edge to any edge of the merged record both have the same. -/
theorem merged_same {l m : List Int} {k : Nat} (h : isRec l m = true) (hk : k + 2 ≤ m.length) (hs : m.getD k 0 + m.getD (k + 1) 0 ≤ 10000) (i : Nat) (hi : i < (mergedE l k).length) :
    ∃ r, bet l m (l[0]'(by have := rec_len h; omega)) (mergedE l k)[i] = some r ∧ bet (mergedE l k) (mergedA m k) (l[0]'(by have := rec_len h; omega)) (mergedE l k)[i] = some r := by
  have hl := rec_len h
  have a := mergedA_length hk
  have e := mergedE_length (l := l) (k := k) (by omega)
  have me := merged_edges (k := k) (rec_edges h) (by omega)
  have mr : isRec (mergedE l k) (mergedA m k) = true := by rw [merged_rec h hk, decide_eq_true hs]
  have f0 : (mergedE l k)[0]'(by omega) = l[0]'(by omega) := mergedE_low (Nat.zero_le _) (by omega)
  have le0 : l[0]'(by omega) ≤ (mergedE l k)[i] := by rw [← f0]; exact edges_first me (by omega) _ (List.getElem_mem _)
  have key : ∀ i (hi : i < (mergedE l k).length), amt (l[0]'(by omega)) (mergedE l k)[i] l m = amt (l[0]'(by omega)) (mergedE l k)[i] (mergedE l k) (mergedA m k) := by
    intro i
    induction i with
    | zero => intro hi; rw [f0, amt_none, amt_none]
    | succ i ih =>
      intro hi
      have u := edges_up me i (i + 1) (by omega) (by omega)
      have g0 : l[0]'(by omega) ≤ (mergedE l k)[i]'(by omega) := by rw [← f0]; exact edges_first me (by omega) _ (List.getElem_mem _)
      rw [← amt_split (rec_edges h) g0 (Int.le_of_lt u), ← amt_split me g0 (Int.le_of_lt u), ih (by omega), merged_bin h hk i (by omega), amt_bin mr i (by omega)]
  refine ⟨_, bet_clean h (edges_range (rec_edges h) 0 (by omega)).1 le0 (edges_range me i hi).2 (.inl (List.getElem_mem _)) (.inl (mergedE_mem _ (List.getElem_mem _))), ?_⟩
  rw [key i hi]
  exact bet_clean mr (edges_range (rec_edges h) 0 (by omega)).1 le0 (edges_range me i hi).2 (.inl (by rw [← f0]; exact List.getElem_mem _)) (.inl (List.getElem_mem _))
theorem sum_take_step {m : List Int} {j : Nat} (hj : j < m.length) : (m.take (j + 1)).sum = (m.take j).sum + m[j] := by
  rw [List.take_succ_eq_append_getElem hj, List.sum_append]; simp
theorem sum_take_bound {m : List Int} {j : Nat} (h : ∀ x ∈ m, 0 ≤ x ∧ x ≤ 10000) (h20 : m.length ≤ 20) : 0 ≤ (m.take j).sum ∧ (m.take j).sum ≤ 200000 := by
  have a := sum_bound (m := m.take j) fun x hx => h x (List.mem_of_mem_take hx)
  rw [List.length_take] at a
  omega
/-! Adding up, place by place. -/
theorem addAll_start {t u : Int} {l m : List Int} (h : 0 < l.length) : addAll t u l m = addUp t u 0 (l.getD 0 0) (l.drop (0 + 1)) (m.drop 0) := by
  cases l with
  | nil => simp at h
  | cons e l => rfl
theorem addUp_step {t u : Int} {s : Rat} {l m : List Int} {j : Nat} (hl : j + 1 < l.length) (hm : j < m.length) : addUp t u s (l.getD j 0) (l.drop (j + 1)) (m.drop j) =
    if fits (share t u m[j] l[j] l[j + 1]) && fits (s + share t u m[j] l[j] l[j + 1]) then addUp t u (s + share t u m[j] l[j] l[j + 1]) (l.getD (j + 1) 0) (l.drop (j + 1 + 1)) (m.drop (j + 1)) else none := by
  rw [List.drop_eq_getElem_cons hl, List.drop_eq_getElem_cons hm, getD_is (by omega), getD_is hl]; rfl
theorem addUp_end {t u e : Int} {s : Rat} {l : List Int} {m : List Int} {j : Nat} (hm : m.length ≤ j) : addUp t u s e l (m.drop j) = some s := by
  rw [List.drop_eq_nil_of_le hm]
  cases l <;> simp only [addUp]
theorem part_res {t u a e f n d : Int} {ok : Bool} (hv : ofV (a * common t u e f) (f - e) = true) (h : Res (ofV (a * common t u e f) (f - e)) (Rat.divInt (a * common t u e f) (f - e)) n d ok) : Res true (share t u a e f) n d ok := by
  rw [hv, Rat.divInt_eq_div] at h; exact h
theorem res_none {r : Rat} {n d : Int} {ok v : Bool} (h : Res v r n d ok) (hv : v = false) : n = 0 ∧ d = 0 ∧ ok = false := by
  subst hv
  rcases h with ⟨_, h, _⟩ | ⟨h1, h2, h3, _⟩
  · cases h
  · exact ⟨h2, h3, h1⟩
theorem res_got {r : Rat} {n d : Int} {ok v : Bool} (h : Res v r n d ok) (hv : v = true) (hf : fits r = true) : ok = true ∧ fv n d = true ∧ fq n d = r := by
  rcases h with ⟨h1, _, h3, h4⟩ | ⟨_, _, _, h4⟩
  · exact ⟨h1, h3, h4⟩
  · rw [hv, hf] at h4; simp at h4
end Go.Proofs.Ytkcbgeldnibjcac
