/- Windows of ages: which ages fit, and the least and the greatest ones. Plain mathematics, no program in it. -/
import Derived.Test.YtanfalkpmmkklaaDoorRows
namespace Go.Proofs.YtanfalkpmmkklaaDoor

abbrev Wn := Int × Int
def okW (w : Wn) : Bool := decide (0 ≤ w.1) && decide (w.1 ≤ 100000) && decide (w.1 ≤ w.2) && decide (w.2 ≤ 100000)
theorem okW_iff {w : Wn} : okW w = true ↔ 0 ≤ w.1 ∧ w.1 ≤ 100000 ∧ w.1 ≤ w.2 ∧ w.2 ≤ 100000 := by
  simp only [okW, Bool.and_eq_true, decide_eq_true_eq, and_assoc]
def gW (l : List Wn) (i : Nat) : Wn := l.getD i (0, 0)
theorem gW_get {l : List Wn} {i : Nat} (h : i < l.length) : gW l i = l[i] := by simp [gW, List.getD, h]
def isWin (l s : List Wn) : Bool := decide (1 ≤ l.length) && decide (l.length ≤ 12) && decide (s.length + 1 = l.length) && l.all okW && s.all okW
structure IsWin (l s : List Wn) : Prop where
  one : 1 ≤ l.length
  most : l.length ≤ 12
  len : s.length + 1 = l.length
  okl : ∀ i, i < l.length → 0 ≤ (gW l i).1 ∧ (gW l i).1 ≤ 100000 ∧ (gW l i).1 ≤ (gW l i).2 ∧ (gW l i).2 ≤ 100000
  oks : ∀ i, i + 1 < l.length → 0 ≤ (gW s i).1 ∧ (gW s i).1 ≤ 100000 ∧ (gW s i).1 ≤ (gW s i).2 ∧ (gW s i).2 ≤ 100000
theorem all_okW {l : List Wn} : l.all okW = true ↔ ∀ i, i < l.length → 0 ≤ (gW l i).1 ∧ (gW l i).1 ≤ 100000 ∧ (gW l i).1 ≤ (gW l i).2 ∧ (gW l i).2 ≤ 100000 := by
  rw [List.all_eq_true]
  constructor
  · intro h i hi
    rw [gW_get hi]
    exact okW_iff.1 (h _ (List.getElem_mem hi))
  · intro h w hw
    obtain ⟨i, hi, rfl⟩ := List.getElem_of_mem hw
    have := h i hi
    rw [gW_get hi] at this
    exact okW_iff.2 this
theorem isWin_iff {l s : List Wn} : isWin l s = true ↔ IsWin l s := by
  simp only [isWin, Bool.and_eq_true, decide_eq_true_eq, all_okW]
  constructor
  · rintro ⟨⟨⟨⟨h1, h2⟩, h3⟩, h4⟩, h5⟩
    exact ⟨h1, h2, h3, h4, fun i hi => h5 i (by omega)⟩
  · intro h
    exact ⟨⟨⟨⟨h.one, h.most⟩, h.len⟩, h.okl⟩, fun i hi => h.oks i (by have := h.len; omega)⟩

/-- Ages that fit. -/
structure FitF (L S : Nat → Wn) (n : Nat) (a : Nat → Int) : Prop where
  win : ∀ i, i < n → (L i).1 ≤ a i ∧ a i ≤ (L i).2
  step : ∀ i, i + 1 < n → (S i).1 ≤ a (i + 1) - a i ∧ a (i + 1) - a i ≤ (S i).2
/-- Tight windows: both their ends fit, and all ages that fit lie within. -/
structure TightF (L S : Nat → Wn) (n : Nat) (T : Nat → Wn) : Prop where
  young : FitF L S n fun i => (T i).1
  old : FitF L S n fun i => (T i).2
  all : ∀ a, FitF L S n a → ∀ i, i < n → (T i).1 ≤ a i ∧ a i ≤ (T i).2
variable {L S T T' : Nat → Wn} {n : Nat} {a b : Nat → Int}
theorem TightF.le (h : TightF L S n T) {i : Nat} (hi : i < n) : (T i).1 ≤ (T i).2 := (h.all _ h.old i hi).1
theorem TightF.one (h : TightF L S n T) (k : TightF L S n T') {i : Nat} (hi : i < n) : T i = T' i := by
  have a1 := h.all _ k.young i hi
  have a2 := k.all _ h.young i hi
  have a3 := h.all _ k.old i hi
  have a4 := k.all _ h.old i hi
  exact Prod.ext (by omega) (by omega)
/-- The lesser ones of two. -/
theorem FitF.least (h : FitF L S n a) (k : FitF L S n b) : FitF L S n fun i => min (a i) (b i) := by
  refine ⟨fun i hi => ?_, fun i hi => ?_⟩
  · have := h.win i hi; have := k.win i hi; omega
  · have := h.step i hi; have := k.step i hi; omega
theorem FitF.greatest (h : FitF L S n a) (k : FitF L S n b) : FitF L S n fun i => max (a i) (b i) := by
  refine ⟨fun i hi => ?_, fun i hi => ?_⟩
  · have := h.win i hi; have := k.win i hi; omega
  · have := h.step i hi; have := k.step i hi; omega
/-- Each age within is possible. -/
theorem TightF.any (h : TightF L S n T) {k : Nat} {x : Int} (_hk : k < n) (h1 : (T k).1 ≤ x) (h2 : x ≤ (T k).2) : ∃ a, FitF L S n a ∧ a k = x := by
  refine ⟨fun i => min ((T i).2) ((T i).1 + (x - (T k).1)), ⟨fun i hi => ?_, fun i hi => ?_⟩, by simp only; omega⟩
  · have := h.young.win i hi; have := h.old.win i hi; have := h.le hi; (try simp only at *); omega
  · have := h.young.step i hi; have := h.old.step i hi; (try simp only at *); omega
/-- Windows that more ages fit are no tighter. -/
theorem TightF.wider {L' S' : Nat → Wn} (h : TightF L S n T) (k : TightF L' S' n T') (hw : ∀ a, FitF L S n a → FitF L' S' n a) {i : Nat} (hi : i < n) : (T' i).1 ≤ (T i).1 ∧ (T i).2 ≤ (T' i).2 :=
  ⟨(k.all _ (hw _ h.young) i hi).1, (k.all _ (hw _ h.old) i hi).2⟩

/-! How they are found: down, and up again. -/
def bothW (w : Wn) (lo hi : Int) : Wn := (max w.1 lo, min w.2 hi)
def fwW (l s : List Wn) : Nat → Wn
  | 0 => gW l 0
  | i + 1 => bothW (gW l (i + 1)) ((fwW l s i).1 + (gW s i).1) ((fwW l s i).2 + (gW s i).2)
/-- The k-th window from below. -/
def bwW (l s : List Wn) : Nat → Wn
  | 0 => fwW l s (l.length - 1)
  | k + 1 => bothW (fwW l s (l.length - 1 - (k + 1))) ((bwW l s k).1 - (gW s (l.length - 1 - (k + 1))).2) ((bwW l s k).2 - (gW s (l.length - 1 - (k + 1))).1)
def tiW (l s : List Wn) (i : Nat) : Wn := bwW l s (l.length - 1 - i)
theorem tiW_last (l s : List Wn) : tiW l s (l.length - 1) = fwW l s (l.length - 1) := by simp [tiW, bwW]
theorem tiW_next {l s : List Wn} {i : Nat} (h : i + 1 < l.length) : tiW l s i = bothW (fwW l s i) ((tiW l s (i + 1)).1 - (gW s i).2) ((tiW l s (i + 1)).2 - (gW s i).1) := by
  unfold tiW
  obtain ⟨k, hk⟩ : ∃ k, l.length - 1 - (i + 1) = k := ⟨_, rfl⟩
  rw [show l.length - 1 - i = k + 1 by omega, hk]
  simp only [bwW]
  rw [show l.length - 1 - (k + 1) = i by omega]
theorem fw_sound {l s : List Wn} (h : FitF (gW l) (gW s) l.length a) : ∀ i, i < l.length → (fwW l s i).1 ≤ a i ∧ a i ≤ (fwW l s i).2
  | 0, hi => h.win 0 hi
  | i + 1, hi => by
    have ih := fw_sound h i (by omega)
    have w := h.win (i + 1) hi
    have st := h.step i hi
    simp only [fwW, bothW]; omega
theorem ti_sound {l s : List Wn} (h : FitF (gW l) (gW s) l.length a) : ∀ k i, i + k + 1 = l.length → (tiW l s i).1 ≤ a i ∧ a i ≤ (tiW l s i).2
  | 0, i, e => by
    have := fw_sound h i (by omega)
    have e2 : i = l.length - 1 := by omega
    rw [e2, tiW_last, ← e2]; exact this
  | k + 1, i, e => by
    have ih := ti_sound h k (i + 1) (by omega)
    have w := fw_sound h i (by omega)
    have st := h.step i (by omega)
    rw [tiW_next (show i + 1 < l.length by omega)]
    simp only [bothW]; omega
theorem fw_in {l s : List Wn} (i : Nat) : (gW l i).1 ≤ (fwW l s i).1 ∧ (fwW l s i).2 ≤ (gW l i).2 := by
  cases i with
  | zero => exact ⟨Int.le_refl _, Int.le_refl _⟩
  | succ i => simp only [fwW, bothW]; omega
theorem ti_in {l s : List Wn} {i : Nat} (hi : i < l.length) : (fwW l s i).1 ≤ (tiW l s i).1 ∧ (tiW l s i).2 ≤ (fwW l s i).2 := by
  by_cases h : i + 1 < l.length
  · rw [tiW_next h]; simp only [bothW]; omega
  · have : i = l.length - 1 := by omega
    rw [this, tiW_last]; omega
/-- Where no window is empty they are tight. -/
theorem ti_tight {l s : List Wn} (hs : ∀ i, i + 1 < l.length → (gW s i).1 ≤ (gW s i).2) (hne : ∀ i, i < l.length → (tiW l s i).1 ≤ (tiW l s i).2) : TightF (gW l) (gW s) l.length (tiW l s) := by
  have key : ∀ i, i + 1 < l.length → (gW s i).1 ≤ (tiW l s (i + 1)).1 - (tiW l s i).1 ∧ (tiW l s (i + 1)).1 - (tiW l s i).1 ≤ (gW s i).2 ∧ (gW s i).1 ≤ (tiW l s (i + 1)).2 - (tiW l s i).2 ∧ (tiW l s (i + 1)).2 - (tiW l s i).2 ≤ (gW s i).2 := by
    intro i hi
    have e := tiW_next (s := s) hi
    have f := ti_in (s := s) hi
    have f2 : fwW l s (i + 1) = bothW (gW l (i + 1)) ((fwW l s i).1 + (gW s i).1) ((fwW l s i).2 + (gW s i).2) := rfl
    have g := hs i hi
    rw [f2] at f
    rw [e]
    simp only [bothW] at f ⊢
    omega
  refine ⟨⟨fun i hi => ?_, fun i hi => ?_⟩, ⟨fun i hi => ?_, fun i hi => ?_⟩, fun a ha i hi => ti_sound ha (l.length - 1 - i) i (by omega)⟩
  · have := fw_in (l := l) (s := s) i; have := ti_in (s := s) hi; have := hne i hi; (try simp only); omega
  · have := key i hi; (try simp only); omega
  · have := fw_in (l := l) (s := s) i; have := ti_in (s := s) hi; have := hne i hi; (try simp only); omega
  · have := key i hi; (try simp only); omega
/-- .. which is so where any ages fit. -/
theorem ti_ne {l s : List Wn} (h : FitF (gW l) (gW s) l.length a) {i : Nat} (hi : i < l.length) : (tiW l s i).1 ≤ (tiW l s i).2 := by
  have := ti_sound h (l.length - 1 - i) i (by omega); omega
def fwL (l s : List Wn) : List Wn := (List.range l.length).map (fwW l s)
def tiL (l s : List Wn) : List Wn := (List.range l.length).map (tiW l s)
theorem tiL_length (l s : List Wn) : (tiL l s).length = l.length := by simp [tiL]
theorem fwL_length (l s : List Wn) : (fwL l s).length = l.length := by simp [fwL]
theorem tiL_get {l s : List Wn} {i : Nat} (hi : i < (tiL l s).length) : (tiL l s)[i] = tiW l s i := by simp [tiL]
theorem fwL_get {l s : List Wn} {i : Nat} (hi : i < (fwL l s).length) : (fwL l s)[i] = fwW l s i := by simp [fwL]
theorem gW_ti {l s : List Wn} {i : Nat} (hi : i < l.length) : gW (tiL l s) i = tiW l s i := by
  rw [gW_get (by rw [tiL_length]; exact hi), tiL_get]
def goodW (t : List Wn) : Bool := t.all fun w => decide (w.1 ≤ w.2)
theorem goodW_iff {t : List Wn} : goodW t = true ↔ ∀ i, i < t.length → (gW t i).1 ≤ (gW t i).2 := by
  simp only [goodW, List.all_eq_true, decide_eq_true_eq]
  constructor
  · intro h i hi; rw [gW_get hi]; exact h _ (List.getElem_mem hi)
  · intro h w hw
    obtain ⟨i, hi, rfl⟩ := List.getElem_of_mem hw
    have := h i hi; rwa [gW_get hi] at this
/-- What the function answers. -/
def tightOf (l s : List Wn) : Option (List Wn) := if isWin l s = true ∧ goodW (tiL l s) = true then some (tiL l s) else none
/-- Tight windows of a list. -/
structure Tgt (l s t : List Wn) : Prop where
  win : IsWin l s
  len : t.length = l.length
  tight : TightF (gW l) (gW s) l.length (gW t)
theorem tightOf_some {l s t : List Wn} (h : tightOf l s = some t) : Tgt l s t := by
  unfold tightOf at h
  split at h
  · rename_i c
    obtain rfl := Option.some.inj h
    have w := isWin_iff.1 c.1
    refine ⟨w, tiL_length l s, ?_⟩
    have g := goodW_iff.1 c.2
    have tt := ti_tight (l := l) (s := s) (fun i hi => (w.oks i hi).2.2.1) fun i hi => by
      have := g i (by rw [tiL_length]; exact hi); rwa [gW_ti hi] at this
    refine ⟨⟨fun i hi => ?_, fun i hi => ?_⟩, ⟨fun i hi => ?_, fun i hi => ?_⟩, fun a ha i hi => ?_⟩
    · have := tt.young.win i hi; rw [gW_ti hi]; exact this
    · have := tt.young.step i hi; rw [gW_ti hi, gW_ti (by omega)]; exact this
    · have := tt.old.win i hi; rw [gW_ti hi]; exact this
    · have := tt.old.step i hi; rw [gW_ti hi, gW_ti (by omega)]; exact this
    · have := tt.all a ha i hi; rw [gW_ti hi]; exact this
  · cases h
/-- Lists that have ages that fit have tight windows. -/
theorem tightOf_fit {l s : List Wn} (w : IsWin l s) (h : FitF (gW l) (gW s) l.length a) : tightOf l s = some (tiL l s) := by
  refine if_pos ⟨isWin_iff.2 w, goodW_iff.2 fun i hi => ?_⟩
  rw [tiL_length] at hi
  rw [gW_ti hi]; exact ti_ne h hi
theorem tgt_one {l s t t' : List Wn} (h : Tgt l s t) (k : Tgt l s t') : t = t' := by
  apply List.ext_getElem (by rw [h.len, k.len])
  intro i h1 h2
  have := h.tight.one k.tight (by rw [← h.len]; exact h1)
  rwa [gW_get h1, gW_get h2] at this
theorem tightOf_is {l s t : List Wn} (h : Tgt l s t) : tightOf l s = some t := by
  have e := tightOf_fit h.win h.tight.young
  rw [e, tgt_one h (tightOf_some e)]
theorem tightOf_none {l s : List Wn} (h : tightOf l s = none) (w : IsWin l s) (a : Nat → Int) : ¬ FitF (gW l) (gW s) l.length a := fun k => by
  rw [tightOf_fit w k] at h; cases h
theorem tightOf_no {l s : List Wn} (h : IsWin l s → ∀ a, ¬ FitF (gW l) (gW s) l.length a) : tightOf l s = none := by
  cases c : tightOf l s with
  | none => rfl
  | some t => exact absurd (tightOf_some c).tight.young (h (tightOf_some c).win _)

/-! The other functions. -/
def youngOf (l s : List Wn) : Option (List Int) := (tightOf l s).map fun t => t.map Prod.fst
def oldOf (l s : List Wn) : Option (List Int) := (tightOf l s).map fun t => t.map Prod.snd
def widths (t : List Wn) : Int := (t.map fun w => w.2 - w.1).sum
def wideOf (l s : List Wn) : Int := match tightOf l s with | some t => widths t | none => -1
def gI (a : List Int) (i : Nat) : Int := a.getD i 0
theorem gI_get {a : List Int} {i : Nat} (h : i < a.length) : gI a i = a[i] := by simp [gI, List.getD, h]
def inW (w : Wn) (x : Int) : Bool := decide (w.1 ≤ x) && decide (x ≤ w.2)
def fitB (l s : List Wn) (a : List Int) : Bool :=
  isWin l s && decide (a.length = l.length) && (List.range l.length).all fun i => inW (gW l i) (gI a i) && (i == 0 || inW (gW s (i - 1)) (gI a i - gI a (i - 1)))
theorem fitB_iff {l s : List Wn} {a : List Int} : fitB l s a = true ↔ IsWin l s ∧ a.length = l.length ∧ FitF (gW l) (gW s) l.length (gI a) := by
  simp only [fitB, Bool.and_eq_true, isWin_iff, decide_eq_true_eq, List.all_eq_true, List.mem_range, inW, Bool.or_eq_true, beq_iff_eq, and_assoc]
  refine and_congr_right fun w => and_congr_right fun hl => ⟨fun h => ⟨fun i hi => ⟨(h i hi).1, (h i hi).2.1⟩, fun i hi => ?_⟩, fun h i hi => ⟨(h.win i hi).1, (h.win i hi).2, ?_⟩⟩
  · have := (h (i + 1) hi).2.2
    simp only [Nat.add_sub_cancel] at this
    rcases this with e | e
    · omega
    · exact e
  · cases i with
    | zero => exact .inl rfl
    | succ i => right; simp only [Nat.add_sub_cancel]; exact h.step i hi
theorem youngOf_some {l s : List Wn} {y : List Int} (h : youngOf l s = some y) : ∃ t, tightOf l s = some t ∧ Tgt l s t ∧ y = t.map Prod.fst := by
  unfold youngOf at h
  cases c : tightOf l s with
  | none => rw [c] at h; cases h
  | some t => rw [c] at h; exact ⟨t, rfl, tightOf_some c, (Option.some.inj h).symm⟩
theorem oldOf_some {l s : List Wn} {y : List Int} (h : oldOf l s = some y) : ∃ t, tightOf l s = some t ∧ Tgt l s t ∧ y = t.map Prod.snd := by
  unfold oldOf at h
  cases c : tightOf l s with
  | none => rw [c] at h; cases h
  | some t => rw [c] at h; exact ⟨t, rfl, tightOf_some c, (Option.some.inj h).symm⟩
theorem gI_fst {t : List Wn} {i : Nat} (h : i < t.length) : gI (t.map Prod.fst) i = (gW t i).1 := by
  rw [gI_get (by simpa using h), gW_get h]; simp
theorem gI_snd {t : List Wn} {i : Nat} (h : i < t.length) : gI (t.map Prod.snd) i = (gW t i).2 := by
  rw [gI_get (by simpa using h), gW_get h]; simp
end Go.Proofs.YtanfalkpmmkklaaDoor
