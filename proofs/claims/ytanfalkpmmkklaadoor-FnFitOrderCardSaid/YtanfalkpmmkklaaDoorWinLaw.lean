/- What the laws on windows need: mathematics, no program in it. -/
import Derived.Test.YtanfalkpmmkklaaDoorWin
namespace Go.Proofs.YtanfalkpmmkklaaDoor

theorem gW_set {l : List Wn} {k : Nat} (hk : k < l.length) (w : Wn) (i : Nat) : gW (l.set k w) i = if i = k then w else gW l i := by
  simp only [gW, List.getD, List.getElem?_set]
  by_cases e : k = i
  · subst e; simp [hk]
  · simp [e, Ne.symm e]
theorem gW_take {l : List Wn} {k i : Nat} (h : i < k) : gW (l.take k) i = gW l i := by
  simp only [gW, List.getD, List.getElem?_take, h, if_true]
variable {l s t : List Wn} {a : List Int}
theorem Tgt.le (h : Tgt l s t) {i : Nat} (hi : i < l.length) : (gW t i).1 ≤ (gW t i).2 := h.tight.le hi
theorem Tgt.in (h : Tgt l s t) {i : Nat} (hi : i < l.length) : (gW l i).1 ≤ (gW t i).1 ∧ (gW t i).2 ≤ (gW l i).2 := ⟨(h.tight.young.win i hi).1, (h.tight.old.win i hi).2⟩
theorem Tgt.range (h : Tgt l s t) {i : Nat} (hi : i < l.length) : 0 ≤ (gW t i).1 ∧ (gW t i).1 ≤ (gW t i).2 ∧ (gW t i).2 ≤ 100000 := by
  have a := h.win.okl i hi; have b := h.in hi; have c := h.le hi; omega
theorem Tgt.of (w : IsWin l s) (a : Nat → Int) (h : FitF (gW l) (gW s) l.length a) : Tgt l s (tiL l s) := tightOf_some (tightOf_fit w h)
theorem win_take (h : IsWin l s) {k : Nat} (h1 : 1 ≤ k) (hk : k ≤ l.length) : IsWin (l.take k) (s.take (k - 1)) := by
  have e := h.len
  have m := h.most
  have lk : (l.take k).length = k := by rw [List.length_take]; omega
  refine ⟨by omega, by omega, by rw [List.length_take]; omega, fun i hi => ?_, fun i hi => ?_⟩
  · rw [gW_take (by omega)]; exact h.okl i (by omega)
  · rw [gW_take (by omega)]; exact h.oks i (by omega)
theorem win_young {k : Nat} (hk : k < l.length) (y : Int) : isWin (l.set k (-1, y)) s = false := by
  cases c : isWin (l.set k (-1, y)) s
  · rfl
  · have := (isWin_iff.1 c).okl k (by simpa using hk)
    rw [gW_set hk, if_pos rfl] at this
    simp only at this; omega
theorem win_long (h : IsWin l s) : isWin l (s ++ [(0, 0)]) = false := by
  cases c : isWin l (s ++ [(0, 0)])
  · rfl
  · have a := (isWin_iff.1 c).len
    have b := h.len
    rw [List.length_append, List.length_singleton] at a; omega
theorem win_set (h : IsWin l s) {k : Nat} (hk : k < l.length) {w : Wn} (ok : 0 ≤ w.1 ∧ w.1 ≤ 100000 ∧ w.1 ≤ w.2 ∧ w.2 ≤ 100000) : IsWin (l.set k w) s := by
  have len : (l.set k w).length = l.length := by simp
  refine ⟨by rw [len]; exact h.one, by rw [len]; exact h.most, by rw [len]; exact h.len, fun i hi => ?_, fun i hi => h.oks i (by omega)⟩
  rw [gW_set hk]
  split
  · exact ok
  · exact h.okl i (by omega)
/-- Ages that fit, given as a list. -/
theorem fit_tight (h : fitB l s a = true) : ∃ t, tightOf l s = some t ∧ Tgt l s t ∧ a.length = l.length ∧ ∀ i, i < l.length → (gW t i).1 ≤ gI a i ∧ gI a i ≤ (gW t i).2 := by
  obtain ⟨w, hl, f⟩ := fitB_iff.1 h
  have e := tightOf_fit w f
  have tg := tightOf_some e
  exact ⟨_, e, tg, hl, fun i hi => tg.tight.all _ f i hi⟩
theorem tight_self (h : Tgt l s t) : tightOf t s = some t := by
  have w : IsWin t s := ⟨by rw [h.len]; exact h.win.one, by rw [h.len]; exact h.win.most, by rw [h.len]; exact h.win.len, fun i hi => by
    rw [h.len] at hi; have := h.range hi; omega, fun i hi => h.win.oks i (by rw [← h.len]; exact hi)⟩
  refine tightOf_is ⟨w, rfl, ⟨⟨fun i hi => ?_, fun i hi => ?_⟩, ⟨fun i hi => ?_, fun i hi => ?_⟩, fun a ha i hi => ha.win i hi⟩⟩
  · rw [h.len] at hi; have := h.le hi; (try simp only); omega
  · rw [h.len] at hi; exact h.tight.young.step i hi
  · rw [h.len] at hi; have := h.le hi; (try simp only); omega
  · rw [h.len] at hi; exact h.tight.old.step i hi
/-- One window narrowed to ages that it may have. -/
theorem narrow_fit {k : Nat} (hk : k < l.length) {w : Wn} {b : Nat → Int} (f : FitF (gW l) (gW s) l.length b) (h1 : w.1 ≤ b k) (h2 : b k ≤ w.2) : FitF (gW (l.set k w)) (gW s) (l.set k w).length b := by
  have len : (l.set k w).length = l.length := by simp
  rw [len]
  refine ⟨fun i hi => ?_, f.step⟩
  rw [gW_set hk]
  split
  · rename_i e; subst e; exact ⟨h1, h2⟩
  · exact f.win i hi
theorem fit_narrow {k : Nat} (hk : k < l.length) {w : Wn} {b : Nat → Int} (hw : (gW l k).1 ≤ w.1 ∧ w.2 ≤ (gW l k).2) (f : FitF (gW (l.set k w)) (gW s) (l.set k w).length b) : FitF (gW l) (gW s) l.length b ∧ w.1 ≤ b k ∧ b k ≤ w.2 := by
  have len : (l.set k w).length = l.length := by simp
  rw [len] at f
  have fk := f.win k hk
  rw [gW_set hk, if_pos rfl] at fk
  refine ⟨⟨fun i hi => ?_, f.step⟩, fk⟩
  have := f.win i hi
  rw [gW_set hk] at this
  split at this
  · rename_i e; subst e; omega
  · exact this
theorem tight_any (h : Tgt l s t) {k : Nat} (hk : k < l.length) {x : Int} (h1 : (gW t k).1 ≤ x) (h2 : x ≤ (gW t k).2) : ∃ y, tightOf (l.set k (x, x)) s = some y ∧ Tgt (l.set k (x, x)) s y ∧ gW y k = (x, x) := by
  obtain ⟨b, fb, bk⟩ := h.tight.any hk h1 h2
  have r := h.range hk
  have w := win_set h.win hk (w := (x, x)) (by (try simp only); omega)
  have e := tightOf_fit w (narrow_fit hk (w := (x, x)) fb (by (try simp only); omega) (by (try simp only); omega))
  have tg := tightOf_some e
  have k2 : k < (l.set k (x, x)).length := by simpa using hk
  refine ⟨_, e, tg, ?_⟩
  have i1 := tg.in k2
  have i2 := tg.le k2
  rw [gW_set hk, if_pos rfl] at i1
  exact Prod.ext (by (try simp only at *); omega) (by (try simp only at *); omega)
theorem tight_below (h : Tgt l s t) {k : Nat} (hk : k < l.length) : tightOf (l.set k ((gW l k).1, (gW t k).1 - 1)) s = none :=
  tightOf_no fun _ b f => by
    have r := h.range hk; have i := h.in hk
    obtain ⟨f1, f2, f3⟩ := fit_narrow hk (by (try simp only); omega) f
    have := h.tight.all b f1 k hk
    simp only at f3; omega
theorem tight_above (h : Tgt l s t) {k : Nat} (hk : k < l.length) : tightOf (l.set k ((gW t k).2 + 1, (gW l k).2)) s = none :=
  tightOf_no fun _ b f => by
    have r := h.range hk; have i := h.in hk
    obtain ⟨f1, f2, f3⟩ := fit_narrow hk (by (try simp only); omega) f
    have := h.tight.all b f1 k hk
    simp only at f2; omega
/-- No tighter: of two lists of windows. -/
def Widen (t y : List Wn) : Prop := y.length = t.length ∧ ∀ i, i < t.length → (gW y i).1 ≤ (gW t i).1 ∧ (gW t i).2 ≤ (gW y i).2
theorem widen_of {l' s' y : List Wn} (h : Tgt l s t) (k : Tgt l' s' y) (hl : l'.length = l.length) (hw : ∀ b, FitF (gW l) (gW s) l.length b → FitF (gW l') (gW s') l'.length b) : Widen t y := by
  refine ⟨by rw [k.len, h.len, hl], fun i hi => ?_⟩
  rw [h.len] at hi
  have kt := k.tight
  rw [hl] at kt hw
  exact h.tight.wider kt hw hi
theorem tight_wider (h : Tgt l s t) {k : Nat} (hk : k < l.length) :
    ((gW l k).2 + 1 > 100000 ∧ tightOf (l.set k ((gW l k).1, (gW l k).2 + 1)) s = none) ∨ ∃ y, tightOf (l.set k ((gW l k).1, (gW l k).2 + 1)) s = some y ∧ Widen t y := by
  by_cases c : (gW l k).2 + 1 > 100000
  · refine .inl ⟨c, tightOf_no fun w => ?_⟩
    have := w.okl k (by simpa using hk)
    rw [gW_set hk, if_pos rfl] at this
    simp only at this; omega
  · have o := h.win.okl k hk
    have w := win_set h.win hk (w := ((gW l k).1, (gW l k).2 + 1)) (by (try simp only); omega)
    have key : ∀ b, FitF (gW l) (gW s) l.length b → FitF (gW (l.set k ((gW l k).1, (gW l k).2 + 1))) (gW s) (l.set k ((gW l k).1, (gW l k).2 + 1)).length b := fun b f => by
      have := f.win k hk
      exact narrow_fit hk f (by (try simp only); omega) (by (try simp only); omega)
    have e := tightOf_fit w (key _ h.tight.young)
    exact .inr ⟨_, e, widen_of h (tightOf_some e) (by simp) key⟩
theorem tight_steps (h : Tgt l s t) {j : Nat} (hj : j < s.length) : ∃ y, tightOf l (s.set j (0, 100000)) = some y ∧ Widen t y := by
  have e := h.win.len
  have w : IsWin l (s.set j (0, 100000)) := ⟨h.win.one, h.win.most, by simpa using e, h.win.okl, fun i hi => by
    rw [gW_set hj]
    split
    · simp
    · exact h.win.oks i hi⟩
  have key : ∀ b, FitF (gW l) (gW s) l.length b → FitF (gW l) (gW (s.set j (0, 100000))) l.length b := fun b f => ⟨f.win, fun i hi => by
    have st := f.step i hi
    have a0 := f.win i (by omega); have a1 := f.win (i + 1) hi
    have b0 := h.win.okl i (by omega); have b1 := h.win.okl (i + 1) hi; have o := h.win.oks i hi
    rw [gW_set hj]
    split
    · (try simp only); omega
    · exact st⟩
  have e := tightOf_fit w (key _ h.tight.young)
  exact ⟨_, e, widen_of h (tightOf_some e) rfl key⟩
/-- The first windows are no tighter. -/
theorem tight_first (h : Tgt l s t) {k : Nat} (h1 : 1 ≤ k) (hk : k ≤ l.length) : ∃ x, tightOf (l.take k) (s.take (k - 1)) = some x ∧ x.length = k ∧ ∀ i, i < k → (gW x i).1 ≤ (gW t i).1 ∧ (gW t i).2 ≤ (gW x i).2 := by
  have w := win_take h.win h1 hk
  have lk : (l.take k).length = k := by rw [List.length_take]; omega
  have key : ∀ b, FitF (gW l) (gW s) l.length b → FitF (gW (l.take k)) (gW (s.take (k - 1))) k b := fun b f => ⟨fun i hi => by rw [gW_take hi]; exact f.win i (by omega), fun i hi => by rw [gW_take (by omega)]; exact f.step i (by omega)⟩
  have e := tightOf_fit w (a := fun i => (gW t i).1) (by rw [lk]; exact key _ h.tight.young)
  have tg := tightOf_some e
  have tt := tg.tight
  rw [lk] at tt
  exact ⟨_, e, by rw [tg.len, lk], fun i hi => ⟨(tt.all _ (key _ h.tight.young) i hi).1, (tt.all _ (key _ h.tight.old) i hi).2⟩⟩
/-- All of them older. -/
def olderW (w : Wn) : Wn := (w.1 + 5, w.2 + 5)
theorem gW_older {i : Nat} (hi : i < l.length) : gW (l.map olderW) i = olderW (gW l i) := by
  rw [gW_get (by simpa using hi), gW_get hi]; simp
theorem tight_shift (h : Tgt l s t) : tightOf (l.map olderW) s = none ∨ tightOf (l.map olderW) s = some (t.map olderW) := by
  cases c : tightOf (l.map olderW) s with
  | none => exact .inl rfl
  | some y =>
    right
    have w := (tightOf_some c).win
    rw [← c]
    have key : ∀ b, FitF (gW l) (gW s) l.length b → FitF (gW (l.map olderW)) (gW s) l.length fun i => b i + 5 := fun b f => ⟨fun i hi => by
      have := f.win i hi; rw [gW_older hi]; simp only [olderW]; omega, fun i hi => by have := f.step i hi; (try simp only); omega⟩
    have back : ∀ b, FitF (gW (l.map olderW)) (gW s) l.length b → FitF (gW l) (gW s) l.length fun i => b i - 5 := fun b f => ⟨fun i hi => by
      have := f.win i hi; rw [gW_older hi] at this; simp only [olderW] at this ⊢; omega, fun i hi => by have := f.step i hi; (try simp only); omega⟩
    have lm : (l.map olderW).length = l.length := by simp
    refine tightOf_is ⟨w, by simp [h.len], ?_⟩
    rw [lm]
    have gt : ∀ i, i < l.length → gW (t.map olderW) i = olderW (gW t i) := fun i hi => gW_older (by rw [h.len]; exact hi)
    refine ⟨⟨fun i hi => ?_, fun i hi => ?_⟩, ⟨fun i hi => ?_, fun i hi => ?_⟩, fun b hb i hi => ?_⟩
    · have := (key _ h.tight.young).win i hi; rw [gt i hi]; exact this
    · have := (key _ h.tight.young).step i hi; rw [gt i (by omega), gt (i + 1) hi]; exact this
    · have := (key _ h.tight.old).win i hi; rw [gt i hi]; exact this
    · have := (key _ h.tight.old).step i hi; rw [gt i (by omega), gt (i + 1) hi]; exact this
    · have := h.tight.all _ (back b hb) i hi; rw [gt i hi]; simp only [olderW]; omega
/-- The least ages fit, and with one of them less they do not. -/
theorem young_fit (h : Tgt l s t) : fitB l s (t.map Prod.fst) = true := by
  refine fitB_iff.2 ⟨h.win, by simp [h.len], ⟨fun i hi => ?_, fun i hi => ?_⟩⟩
  · rw [gI_fst (by rw [h.len]; exact hi)]; exact h.tight.young.win i hi
  · rw [gI_fst (by rw [h.len]; exact hi), gI_fst (by rw [h.len]; omega)]; exact h.tight.young.step i hi
theorem old_fit (h : Tgt l s t) : fitB l s (t.map Prod.snd) = true := by
  refine fitB_iff.2 ⟨h.win, by simp [h.len], ⟨fun i hi => ?_, fun i hi => ?_⟩⟩
  · rw [gI_snd (by rw [h.len]; exact hi)]; exact h.tight.old.win i hi
  · rw [gI_snd (by rw [h.len]; exact hi), gI_snd (by rw [h.len]; omega)]; exact h.tight.old.step i hi
theorem fit_not (h : Tgt l s t) {a : List Int} {k : Nat} (hk : k < l.length) (e : gI a k < (gW t k).1 ∨ (gW t k).2 < gI a k) : fitB l s a = false := by
  cases c : fitB l s a
  · rfl
  · have := h.tight.all _ (fitB_iff.1 c).2.2 k hk; omega
/-- Widths. -/
theorem sum_le {a b : List Int} (hl : a.length = b.length) (h : ∀ i, i < a.length → gI a i ≤ gI b i) : a.sum ≤ b.sum := by
  induction a generalizing b with
  | nil => cases b with
    | nil => exact Int.le_refl _
    | cons y b => simp at hl
  | cons x a ih =>
    cases b with
    | nil => simp at hl
    | cons y b =>
      have h0 := h 0 (by simp)
      have := ih (b := b) (by simpa using hl) fun i hi => by
        have := h (i + 1) (by simpa using hi)
        simpa [gI] using this
      simp only [gI, List.getD] at h0
      simp at h0
      simp only [List.sum_cons]; omega
theorem widths_eq (t : List Wn) : widths t = (t.map Prod.snd).sum - (t.map Prod.fst).sum := by
  induction t with
  | nil => rfl
  | cons w t ih => simp only [widths, List.map_cons, List.sum_cons] at ih ⊢; omega
theorem gI_width {t : List Wn} {i : Nat} (h : i < t.length) : gI (t.map fun w => w.2 - w.1) i = (gW t i).2 - (gW t i).1 := by
  rw [gI_get (by simpa using h), gW_get h]; simp
theorem widths_le {t y : List Wn} (h : Widen t y) : widths t ≤ widths y := by
  refine sum_le (by simp [h.1]) fun i hi => ?_
  rw [List.length_map] at hi
  rw [gI_width hi, gI_width (by rw [h.1]; exact hi)]
  have := h.2 i hi; omega
theorem widen_given (h : Tgt l s t) : Widen t l := ⟨h.len.symm, fun i hi => h.in (by rw [← h.len]; exact hi)⟩
theorem zeros_sum (n : Nat) : (List.replicate n (0 : Int)).sum = 0 := by
  induction n with
  | zero => rfl
  | succ n ih => rw [List.replicate_succ, List.sum_cons, ih]; rfl
theorem widths_nonneg (h : Tgt l s t) : 0 ≤ widths t := by
  have := sum_le (a := List.replicate t.length 0) (b := t.map fun w => w.2 - w.1) (by simp) fun i hi => by
    rw [List.length_replicate] at hi
    rw [gI_width hi, gI_get (by simpa using hi)]
    have := h.le (i := i) (by rw [← h.len]; exact hi)
    simp; omega
  rw [zeros_sum] at this
  exact this
theorem widths_zero (h : Tgt l s t) : widths t = 0 ↔ t.map Prod.snd = t.map Prod.fst := by
  constructor
  · intro e
    apply List.ext_getElem (by simp)
    intro i h1 h2
    rw [List.length_map] at h1
    have hi : i < l.length := by rw [← h.len]; exact h1
    rw [List.getElem_map, List.getElem_map, ← gW_get h1]
    have le := h.le hi
    rcases Int.lt_or_eq_of_le le with k | k
    · -- one window is wide: the sum is not nothing
      exfalso
      have := sum_le (a := (List.replicate t.length (0 : Int)).set i 1) (b := t.map fun w => w.2 - w.1) (by simp) fun j hj => by
        rw [List.length_set, List.length_replicate] at hj
        rw [gI_width hj, gI_get (by simpa using hj), List.getElem_set]
        have := h.le (i := j) (by rw [← h.len]; exact hj)
        split
        · rename_i e2; subst e2; omega
        · simp; omega
      have s1 : ((List.replicate t.length (0 : Int)).set i 1).sum = 1 := by
        have key : ∀ n i, i < n → ((List.replicate n (0 : Int)).set i 1).sum = 1 := by
          intro n
          induction n with
          | zero => intro i hi; omega
          | succ n ih =>
            intro i hi
            cases i with
            | zero => rw [List.replicate_succ, List.set_cons_zero, List.sum_cons, zeros_sum]; rfl
            | succ i => rw [List.replicate_succ, List.set_cons_succ, List.sum_cons, ih i (by omega)]; rfl
        exact key _ _ h1
      rw [s1] at this
      unfold widths at e
      omega
    · exact k.symm
  · intro e; rw [widths_eq, e]; omega
/-- A known age tells more. -/
theorem wide_one (h : Tgt l s t) {k : Nat} (hk : k < l.length) : ∃ y, tightOf (l.set k ((gW t k).1, (gW t k).1)) s = some y ∧ Tgt (l.set k ((gW t k).1, (gW t k).1)) s y ∧ widths y ≤ widths t := by
  obtain ⟨y, e, tg, _⟩ := tight_any h hk (x := (gW t k).1) (Int.le_refl _) (h.le hk)
  have i := h.in hk; have le := h.le hk
  refine ⟨y, e, tg, widths_le ?_⟩
  exact widen_of tg h (by simp) fun b f => (fit_narrow hk (by (try simp only); omega) f).1
/-- The first ages fit. -/
theorem fit_first (h : fitB l s a = true) {k : Nat} (h1 : 1 ≤ k) (hk : k ≤ l.length) : fitB (l.take k) (s.take (k - 1)) (a.take k) = true := by
  obtain ⟨w, hl, f⟩ := fitB_iff.1 h
  have lk : (l.take k).length = k := by rw [List.length_take]; omega
  have gi : ∀ i, i < k → gI (a.take k) i = gI a i := fun i hi => by simp only [gI, List.getD, List.getElem?_take, hi, if_true]
  refine fitB_iff.2 ⟨win_take w h1 hk, by rw [List.length_take, lk]; omega, ?_⟩
  rw [lk]
  refine ⟨fun i hi => ?_, fun i hi => ?_⟩
  · rw [gW_take hi, gi i hi]; exact f.win i (by omega)
  · rw [gW_take (by omega), gi i (by omega), gi (i + 1) hi]; exact f.step i (by omega)
/-- A single window. -/
theorem one_win (h : IsWin l s) {k : Nat} (hk : k < l.length) : tightOf [gW l k] [] = some [gW l k] := by
  have o := h.okl k hk
  have g0 : gW [gW l k] 0 = gW l k := rfl
  refine tightOf_is ⟨⟨by simp, by simp, by simp, fun i hi => ?_, fun i hi => ?_⟩, rfl, ⟨⟨fun i hi => ?_, fun i hi => ?_⟩, ⟨fun i hi => ?_, fun i hi => ?_⟩, fun b hb i hi => ?_⟩⟩
  · obtain rfl : i = 0 := by simpa using hi
    rw [g0]; exact o
  · simp at hi
  · obtain rfl : i = 0 := by simpa using hi
    rw [g0]; omega
  · simp at hi
  · obtain rfl : i = 0 := by simpa using hi
    rw [g0]; omega
  · simp at hi
  · obtain rfl : i = 0 := by simpa using hi
    have := hb.win 0 (by simp)
    rw [g0] at this ⊢; exact this
/-- Windows without steps. -/
theorem tight_alone (h : Tgt l [] t) : t = l := by
  have e := h.win.len
  have one := h.win.one
  simp only [List.length_nil] at e
  refine tgt_one h ?_
  have o := one_win h.win (k := 0) (by omega)
  have le : [gW l 0] = l := by
    apply List.ext_getElem (by simp; omega)
    intro i h1 h2
    obtain rfl : i = 0 := by simpa using h1
    rw [← gW_get h2]; rfl
  rw [le] at o
  exact tightOf_some o
end Go.Proofs.YtanfalkpmmkklaaDoor
