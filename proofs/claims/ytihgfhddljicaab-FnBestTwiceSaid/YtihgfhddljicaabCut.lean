/- Best cuts: plain mathematics, no program in it. Limits as natural numbers a to b; a tail of the costs is a list. -/
import Derived.Test.YtihgfhddljicaabRows
namespace Go.Proofs.Ytihgfhddljicaab

/-! Valid arguments. -/
def isLim (lo mo : Int) : Bool := decide (1 ≤ lo) && decide (lo ≤ mo) && decide (mo ≤ 16)
def isPlace (n : Int) : Bool := decide (1 ≤ n) && decide (n ≤ 16)
def costOk (x : Int) : Bool := decide (0 ≤ x) && decide (x ≤ 1000)
def isSig (c : List Int) : Bool := isPlace c.length && c.all costOk
theorem isLim_iff {lo mo : Int} : isLim lo mo = true ↔ 1 ≤ lo ∧ lo ≤ mo ∧ mo ≤ 16 := by
  simp only [isLim, Bool.and_eq_true, decide_eq_true_eq, and_assoc]
theorem isPlace_iff {n : Int} : isPlace n = true ↔ 1 ≤ n ∧ n ≤ 16 := by simp only [isPlace, Bool.and_eq_true, decide_eq_true_eq]
theorem isSig_iff {c : List Int} : isSig c = true ↔ 1 ≤ c.length ∧ c.length ≤ 16 ∧ ∀ x ∈ c, 0 ≤ x ∧ x ≤ 1000 := by
  simp only [isSig, isPlace, costOk, Bool.and_eq_true, decide_eq_true_eq, List.all_eq_true]
  constructor
  · rintro ⟨⟨h1, h2⟩, h3⟩; exact ⟨by omega, by omega, h3⟩
  · rintro ⟨h1, h2, h3⟩; exact ⟨⟨by omega, by omega⟩, h3⟩
/-- Valid limits as natural numbers. -/
theorem lim_nat {lo mo : Int} (h : isLim lo mo = true) : ∃ a b : Nat, lo = a ∧ mo = b ∧ 1 ≤ a ∧ a ≤ b ∧ b ≤ 16 := by
  have := isLim_iff.1 h
  exact ⟨lo.toNat, mo.toNat, by omega, by omega, by omega, by omega, by omega⟩
theorem lim_yes {a b : Nat} (h1 : 1 ≤ a) (h2 : a ≤ b) (h3 : b ≤ 16) : isLim a b = true := isLim_iff.2 (by omega)

/-! Allowed cuts. -/
/-- Cuts that go on from one place and end at another. -/
def goes (lo mo : Int) (e : Int) : Int → List Int → Bool
  | p, [] => decide (p = e)
  | p, x :: t => decide (p + lo ≤ x) && decide (x ≤ p + mo) && goes lo mo e x t
def allowedB (c : List Int) (lo mo : Int) (cuts : List Int) : Bool := isSig c && isLim lo mo && goes lo mo ((c.length : Int) - 1) (-1) cuts
def costAt (c : List Int) (cuts : List Int) : Int := (cuts.map fun x => c.getD x.toNat 0).sum
def costB (c : List Int) (lo mo : Int) (cuts : List Int) : Int := if allowedB c lo mo cuts = true then costAt c cuts else -1
theorem allowedB_iff {c : List Int} {lo mo : Int} {cuts : List Int} : allowedB c lo mo cuts = true ↔ isSig c = true ∧ isLim lo mo = true ∧ goes lo mo ((c.length : Int) - 1) (-1) cuts = true := by
  simp only [allowedB, Bool.and_eq_true, and_assoc]
theorem goes_cons {lo mo e p x : Int} {t : List Int} : goes lo mo e p (x :: t) = true ↔ p + lo ≤ x ∧ x ≤ p + mo ∧ goes lo mo e x t = true := by
  simp only [goes, Bool.and_eq_true, decide_eq_true_eq, and_assoc]
theorem goes_le {lo mo e : Int} (h1 : 1 ≤ lo) {p : Int} {l : List Int} (h : goes lo mo e p l = true) : p ≤ e := by
  induction l generalizing p with
  | nil => simp only [goes, decide_eq_true_eq] at h; omega
  | cons x t ih => have k := goes_cons.1 h; have := ih k.2.2; omega
theorem goes_many {lo mo e : Int} {p : Int} {l : List Int} (h : goes lo mo e p l = true) : (l.length : Int) * lo ≤ e - p ∧ e - p ≤ (l.length : Int) * mo := by
  induction l generalizing p with
  | nil => simp only [goes, decide_eq_true_eq] at h; simp; omega
  | cons x t ih =>
    have k := goes_cons.1 h; have := ih k.2.2
    simp only [List.length_cons, Int.natCast_add, Int.natCast_one, Int.add_mul, Int.one_mul]; omega
theorem goes_wider {lo mo lo' mo' e : Int} (h1 : lo' ≤ lo) (h2 : mo ≤ mo') {p : Int} {l : List Int} (h : goes lo mo e p l = true) : goes lo' mo' e p l = true := by
  induction l generalizing p with
  | nil => exact h
  | cons x t ih => have k := goes_cons.1 h; exact goes_cons.2 ⟨by omega, by omega, ih k.2.2⟩
theorem goes_append {lo mo e p : Int} {l m : List Int} : goes lo mo e p (l ++ m) = true ↔ ∃ q, goes lo mo q p l = true ∧ goes lo mo e q m = true := by
  induction l generalizing p with
  | nil => simp only [List.nil_append, goes, decide_eq_true_eq]; constructor
           · intro h; exact ⟨p, rfl, h⟩
           · rintro ⟨q, rfl, h⟩; exact h
  | cons x t ih =>
    simp only [List.cons_append, goes_cons, ih]
    constructor
    · rintro ⟨a, b, q, c, d⟩; exact ⟨q, ⟨a, b, c⟩, d⟩
    · rintro ⟨q, ⟨a, b, c⟩, d⟩; exact ⟨a, b, q, c, d⟩
/-- The last place of cuts. -/
theorem goes_last {lo mo e p : Int} {l : List Int} (h : goes lo mo e p l = true) (h0 : 0 < l.length) : l[l.length - 1] = e := by
  induction l generalizing p with
  | nil => simp at h0
  | cons x t ih =>
    have k := (goes_cons.1 h).2.2
    cases t with
    | nil => simpa [goes] using k
    | cons y t => have := ih k (by simp); simpa using this
theorem goes_places {lo mo e : Int} (h1 : 1 ≤ lo) {p : Int} {l : List Int} (h : goes lo mo e p l = true) : ∀ x ∈ l, p < x ∧ x ≤ e := by
  induction l generalizing p with
  | nil => simp
  | cons x t ih =>
    have k := goes_cons.1 h
    intro y hy
    rcases List.mem_cons.1 hy with rfl | hy
    · exact ⟨by omega, goes_le h1 k.2.2⟩
    · have := ih k.2.2 y hy; omega
theorem goes_shift {lo mo e p s : Int} {l : List Int} : goes lo mo (e + s) (p + s) (l.map (· + s)) = goes lo mo e p l := by
  induction l generalizing p with
  | nil => simp only [List.map_nil, goes]; exact decide_eq_decide.2 (by omega)
  | cons x t ih =>
    simp only [List.map_cons, goes, ih]
    congr 2
    · exact decide_eq_decide.2 (by omega)
    · exact decide_eq_decide.2 (by omega)
/-- All places, one by one. -/
theorem goes_each {e p : Int} (k : Nat) (h : e = p + k) : goes 1 1 e p ((List.range k).map fun (i : Nat) => p + 1 + (i : Int)) = true := by
  induction k generalizing p with
  | zero => simp [goes]; omega
  | succ k ih =>
    rw [List.range_succ_eq_map, List.map_cons, List.map_map]
    refine goes_cons.2 ⟨by simp, by simp, ?_⟩
    have := ih (p := p + 1) (by omega)
    have e2 : (fun (i : Nat) => p + 1 + 1 + (i : Int)) = (fun (i : Nat) => p + 1 + (i : Int)) ∘ Nat.succ := by
      funext i; simp; omega
    rw [← e2]; simpa using this
theorem cost_nonneg {c cuts : List Int} (hc : ∀ x ∈ c, 0 ≤ x) : 0 ≤ costAt c cuts := by
  induction cuts with
  | nil => simp [costAt]
  | cons x t ih =>
    have : 0 ≤ c.getD x.toNat 0 := by
      rw [List.getD_eq_getElem?_getD]
      rcases Nat.lt_or_ge x.toNat c.length with k | k
      · rw [List.getElem?_eq_getElem k]; exact hc _ (List.getElem_mem k)
      · rw [List.getElem?_eq_none k]; exact Int.le_refl _
    simp only [costAt, List.map_cons, List.sum_cons] at *; omega
theorem cost_bound {c cuts : List Int} (hc : ∀ x ∈ c, 0 ≤ x ∧ x ≤ 1000) : costAt c cuts ≤ 1000 * (cuts.length : Int) := by
  induction cuts with
  | nil => simp [costAt]
  | cons x t ih =>
    have : c.getD x.toNat 0 ≤ 1000 := by
      rw [List.getD_eq_getElem?_getD]
      rcases Nat.lt_or_ge x.toNat c.length with k | k
      · rw [List.getElem?_eq_getElem k]; exact (hc _ (List.getElem_mem k)).2
      · rw [List.getElem?_eq_none k]; decide
    simp only [costAt, List.map_cons, List.sum_cons, List.length_cons] at *; omega

/-! Numbers of ways. -/
/-- The first j numbers f a, f (a + 1), .. together. -/
def psum (f : Nat → Nat) (a : Nat) : Nat → Nat
  | 0 => 0
  | j + 1 => psum f a j + f (a + j)
/-- How many distances are possible for so many places. -/
def dists (a b k : Nat) : Nat := min b k + 1 - a
/-- The numbers of ways for so many places and all that are fewer. -/
def waysT (a b : Nat) : Nat → List Nat
  | 0 => [1]
  | k + 1 => psum (fun d => (waysT a b k).getD (d - 1) 0) a (dists a b (k + 1)) :: waysT a b k
def ways (a b k : Nat) : Nat := (waysT a b k).headD 0
theorem waysT_get (a b k j : Nat) (h : j ≤ k) : (waysT a b k).getD j 0 = ways a b (k - j) := by
  induction k generalizing j with
  | zero => have : j = 0 := by omega
            subst this; rfl
  | succ k ih =>
    cases j with
    | zero => rfl
    | succ j => simp only [waysT, List.getD_cons_succ]; rw [ih j (by omega)]; congr 1; omega
theorem ways_zero (a b : Nat) : ways a b 0 = 1 := rfl
theorem psum_congr {f g : Nat → Nat} {a j : Nat} (h : ∀ d, a ≤ d → d < a + j → f d = g d) : psum f a j = psum g a j := by
  induction j with
  | zero => rfl
  | succ j ih => simp only [psum]; rw [ih fun d h1 h2 => h d h1 (by omega), h (a + j) (by omega) (by omega)]
theorem ways_succ {a b k : Nat} (h1 : 1 ≤ a) (hk : 1 ≤ k) : ways a b k = psum (fun d => ways a b (k - d)) a (dists a b k) := by
  obtain ⟨k, rfl⟩ : ∃ m, k = m + 1 := ⟨k - 1, by omega⟩
  show psum _ a _ = _
  refine psum_congr fun d hd hd2 => ?_
  unfold dists at hd2
  rw [waysT_get a b k (d - 1) (by omega)]
  congr 1; omega
/-- The first ways of so many places: those with one of the first j distances. -/
def waysP (a b k j : Nat) : Nat := psum (fun d => ways a b (k - d)) a j
theorem waysP_next (a b k j : Nat) : waysP a b k (j + 1) = waysP a b k j + ways a b (k - (a + j)) := rfl
theorem psum_mono {f : Nat → Nat} {a i j : Nat} (h : i ≤ j) : psum f a i ≤ psum f a j := by
  induction j with
  | zero => have : i = 0 := by omega
            subst this; exact Nat.le_refl _
  | succ j ih =>
    by_cases e : i = j + 1
    · subst e; exact Nat.le_refl _
    · have := ih (by omega); simp only [psum]; omega
theorem psum_le {f g : Nat → Nat} {a j : Nat} (h : ∀ d, a ≤ d → d < a + j → f d ≤ g d) : psum f a j ≤ psum g a j := by
  induction j with
  | zero => exact Nat.le_refl _
  | succ j ih => have := ih fun d h1 h2 => h d h1 (by omega)
                 have := h (a + j) (by omega) (by omega); simp only [psum]; omega
theorem psum_from {f : Nat → Nat} {a j : Nat} : psum f (a + 1) j ≤ psum f a (j + 1) := by
  induction j with
  | zero => simp [psum]
  | succ j ih =>
    have e : psum f (a + 1) (j + 1) = psum f (a + 1) j + f (a + 1 + j) := rfl
    have e2 : psum f a (j + 1 + 1) = psum f a (j + 1) + f (a + (j + 1)) := rfl
    have e3 : a + 1 + j = a + (j + 1) := by omega
    rw [e, e2, e3]; omega
theorem psum_has {f : Nat → Nat} {a j d : Nat} (h1 : a ≤ d) (h2 : d < a + j) : f d ≤ psum f a j := by
  induction j with
  | zero => omega
  | succ j ih =>
    simp only [psum]
    by_cases e : d = a + j
    · subst e; omega
    · have := ih (by omega); omega
theorem psum_some {f : Nat → Nat} {a j : Nat} (h : 1 ≤ psum f a j) : ∃ d, a ≤ d ∧ d < a + j ∧ 1 ≤ f d := by
  induction j with
  | zero => simp [psum] at h
  | succ j ih =>
    simp only [psum] at h
    by_cases e : 1 ≤ f (a + j)
    · exact ⟨a + j, by omega, by omega, e⟩
    · obtain ⟨d, h1, h2, h3⟩ := ih (by omega)
      exact ⟨d, h1, by omega, h3⟩
theorem ways_more {a b b' : Nat} (h1 : 1 ≤ a) (h : b ≤ b') (k : Nat) : ways a b k ≤ ways a b' k := by
  induction k using Nat.strongRecOn with
  | _ k ih =>
    rcases Nat.eq_zero_or_pos k with rfl | hk
    · exact Nat.le_refl _
    · rw [ways_succ h1 hk, ways_succ h1 hk]
      refine Nat.le_trans (psum_le fun d hd hd2 => ?_) (psum_mono (show dists a b k ≤ dists a b' k by unfold dists; omega))
      exact ih (k - d) (by omega)
theorem ways_less {a b : Nat} (h1 : 1 ≤ a) (k : Nat) : ways (a + 1) b k ≤ ways a b k := by
  induction k using Nat.strongRecOn with
  | _ k ih =>
    rcases Nat.eq_zero_or_pos k with rfl | hk
    · exact Nat.le_refl _
    · rw [ways_succ (by omega) hk, ways_succ h1 hk]
      have e : psum (fun d => ways (a + 1) b (k - d)) (a + 1) (dists (a + 1) b k) ≤ psum (fun d => ways a b (k - d)) (a + 1) (dists (a + 1) b k) :=
        psum_le fun d hd hd2 => ih (k - d) (by omega)
      refine Nat.le_trans e ?_
      by_cases z : dists (a + 1) b k = 0
      · rw [z]; exact Nat.zero_le _
      · exact Nat.le_trans psum_from (psum_mono (by unfold dists at *; omega))
theorem ways_free : ∀ k : Nat, k ≤ 15 → ways 1 16 (k + 1) = 2 ^ k := by decide +kernel
theorem ways_least {a b : Nat} (h1 : 1 ≤ a) (k : Nat) : ways a b k ≤ ways 1 b k := by
  obtain ⟨a, rfl⟩ : ∃ m, a = m + 1 := ⟨a - 1, by omega⟩
  clear h1
  induction a with
  | zero => exact Nat.le_refl _
  | succ a ih => exact Nat.le_trans (ways_less (by omega) k) ih
theorem ways_bound {a b k : Nat} (h1 : 1 ≤ a) (h2 : b ≤ 16) (hk : k ≤ 16) : ways a b k ≤ 32768 := by
  have u := Nat.le_trans (ways_least h1 k) (ways_more (Nat.le_refl 1) h2 k)
  rcases Nat.eq_zero_or_pos k with rfl | h
  · rw [ways_zero]; omega
  · obtain ⟨k, rfl⟩ : ∃ m, k = m + 1 := ⟨k - 1, by omega⟩
    rw [ways_free k (by omega)] at u
    have : 2 ^ k ≤ 2 ^ 15 := Nat.pow_le_pow_right (by omega) (by omega)
    omega
theorem waysP_bound {a b k j : Nat} (h1 : 1 ≤ a) (h2 : b ≤ 16) (hk1 : 1 ≤ k) (hk : k ≤ 16) (hj : j ≤ dists a b k) : waysP a b k j ≤ 32768 := by
  have := ways_bound h1 h2 hk
  rw [ways_succ h1 hk1] at this
  exact Nat.le_trans (psum_mono hj) this
theorem ways_alone : ∀ a : Nat, a ≤ 16 → 1 ≤ a → ∀ n : Nat, n ≤ 16 → 1 ≤ n → ways a a n = if n % a = 0 then 1 else 0 := by decide +kernel
theorem ways_ones : ∀ n : Nat, n ≤ 16 → ways 1 1 n = 1 := by decide +kernel
/-- Where there is a way there is a number of cuts. -/
theorem ways_number {a b : Nat} (h1 : 1 ≤ a) (k : Nat) (h : 1 ≤ ways a b k) : ∃ c : Nat, c * a ≤ k ∧ k ≤ c * b := by
  induction k using Nat.strongRecOn with
  | _ k ih =>
    rcases Nat.eq_zero_or_pos k with rfl | hk
    · exact ⟨0, by omega, by omega⟩
    · rw [ways_succ h1 hk] at h
      obtain ⟨d, h3, h4, h5⟩ := psum_some h
      unfold dists at h4
      obtain ⟨c, h6, h7⟩ := ih (k - d) (by omega) h5
      exact ⟨c + 1, by rw [Nat.add_mul]; omega, by rw [Nat.add_mul]; omega⟩
theorem ways_has {a b : Nat} (h1 : 1 ≤ a) {k d : Nat} (ha : a ≤ d) (hb : d ≤ b) (hk : d ≤ k) : ways a b (k - d) ≤ ways a b k := by
  rw [ways_succ h1 (show 1 ≤ k by omega)]
  exact psum_has (f := fun d => ways a b (k - d)) ha (by unfold dists; omega)
/-- .. and where there are cuts there is a way. -/
theorem goes_ways {a b : Nat} (h1 : 1 ≤ a) {e p : Int} {l : List Int} (h : goes a b e p l = true) : 1 ≤ ways a b (e - p).toNat := by
  induction l generalizing p with
  | nil => simp only [goes, decide_eq_true_eq] at h; subst h; simp [ways_zero]
  | cons x t ih =>
    have k := goes_cons.1 h; have u := ih k.2.2
    have le := goes_le (by omega) k.2.2
    have := ways_has (b := b) h1 (k := (e - p).toNat) (d := (x - p).toNat) (by omega) (by omega) (by omega)
    rw [show (e - p).toNat - (x - p).toNat = (e - x).toNat by omega] at this
    omega
/-- .. with as few and as many cuts as fit. -/
theorem number_ends {a b n c : Nat} (h1 : 1 ≤ a) (hb : 1 ≤ b) (h2 : c * a ≤ n) (h3 : n ≤ c * b) : (n + b - 1) / b ≤ c ∧ c ≤ n / a := by
  constructor
  · have : (n + b - 1) / b < c + 1 := (Nat.div_lt_iff_lt_mul (by omega)).2 (by rw [Nat.add_mul]; omega)
    omega
  · exact (Nat.le_div_iff_mul_le (by omega)).2 h2
theorem number_in {a b n k : Nat} (h1 : 1 ≤ a) (hab : a ≤ b) : (k * a ≤ n ∧ n ≤ k * b) ↔ ((n + b - 1) / b ≤ k ∧ k ≤ n / a) := by
  constructor
  · intro h; exact number_ends h1 (by omega) h.1 h.2
  · intro h
    refine ⟨(Nat.le_div_iff_mul_le (by omega)).1 h.2, ?_⟩
    have := (Nat.div_le_iff_le_mul_add_pred (show 0 < b by omega)).1 h.1
    rw [Nat.mul_comm] at this; omega
def manyB (n lo mo : Int) : Int := if isPlace n && isLim lo mo then (ways lo.toNat mo.toNat n.toNat : Nat) else -1
theorem manyB_yes {n a b : Nat} (h : 1 ≤ n) (hn : n ≤ 16) (h1 : 1 ≤ a) (h2 : a ≤ b) (h3 : b ≤ 16) : manyB n a b = (ways a b n : Nat) := by
  unfold manyB
  rw [if_pos (by rw [lim_yes h1 h2 h3, isPlace_iff.2 (by omega)]; rfl)]
  simp
theorem manyB_no {n lo mo : Int} (h : isPlace n = false ∨ isLim lo mo = false) : manyB n lo mo = -1 := by
  unfold manyB
  rw [if_neg]
  rcases h with h | h <;> simp [h]
theorem manyB_iff {n lo mo : Int} : 0 ≤ manyB n lo mo ↔ isPlace n = true ∧ isLim lo mo = true := by
  unfold manyB
  cases isPlace n <;> cases isLim lo mo <;> simp
/-- The least and the greatest number of cuts. -/
def yearsB (n lo mo : Int) : Option (Int × Int) := if manyB n lo mo < 1 then none else some ((n + mo - 1) / mo, n / lo)
end Go.Proofs.Ytihgfhddljicaab
