/- How the model finds tight windows: the list on the way, and how great its numbers become. Mathematics, no program in it. -/
import Derived.Test.YtanfalkpmmkklaaDoorWinLaw
namespace Go.Proofs.YtanfalkpmmkklaaDoor

def mixW (A B : List Wn) (k : Nat) : List Wn := A.take k ++ B.drop k
variable {A B : List Wn} {n k : Nat}
theorem mix_len (ha : A.length = n) (hb : B.length = n) (hk : k ≤ n) : (mixW A B k).length = n := by
  simp only [mixW, List.length_append, List.length_take, List.length_drop]; omega
theorem mix_lt (ha : A.length = n) (hb : B.length = n) (hk : k ≤ n) {j : Nat} (hj : j < k) (h : j < (mixW A B k).length) : (mixW A B k)[j] = A[j] := by
  simp only [mixW]
  rw [List.getElem_append_left (by rw [List.length_take]; omega), List.getElem_take]
theorem mix_ge (ha : A.length = n) (hb : B.length = n) (hk : k ≤ n) {j : Nat} (hj : k ≤ j) (h : j < (mixW A B k).length) : (mixW A B k)[j] = B[j]'(by rw [mix_len ha hb hk] at h; omega) := by
  simp only [mixW]
  rw [List.getElem_append_right (by rw [List.length_take]; omega), List.getElem_drop]
  congr 1
  rw [List.length_take]; omega
theorem mix_next (ha : A.length = n) (hb : B.length = n) (hk : k < n) : (mixW A B k).set k (A[k]'(by omega)) = mixW A B (k + 1) := by
  apply List.ext_getElem (by rw [List.length_set, mix_len ha hb (by omega), mix_len ha hb (by omega)])
  intro j h1 h2
  rw [List.length_set] at h1
  rw [List.getElem_set]
  split
  · rename_i e; subst e; rw [mix_lt ha hb (by omega) (by omega)]
  · rcases Nat.lt_or_ge j k with c | c
    · rw [mix_lt ha hb (by omega) c, mix_lt ha hb (by omega) (by omega)]
    · rw [mix_ge ha hb (by omega) c, mix_ge ha hb (by omega) (by omega)]
theorem mix_prev (ha : A.length = n) (hb : B.length = n) (hk : k < n) : (mixW A B (k + 1)).set k (B[k]'(by omega)) = mixW A B k := by
  apply List.ext_getElem (by rw [List.length_set, mix_len ha hb (by omega), mix_len ha hb (by omega)])
  intro j h1 h2
  rw [List.length_set] at h1
  rw [List.getElem_set]
  split
  · rename_i e; subst e; rw [mix_ge ha hb (by omega) (by omega)]
  · rcases Nat.lt_or_ge j k with c | c
    · rw [mix_lt ha hb (by omega) (by omega), mix_lt ha hb (by omega) (by omega)]
    · rw [mix_ge ha hb (by omega) (by omega), mix_ge ha hb (by omega) (by omega)]
variable {l s : List Wn}
theorem mix_start (w : IsWin l s) : mixW (fwL l s) l 1 = l := by
  have o := w.one
  have e : (fwL l s)[0]'(by rw [fwL_length]; omega) = l[0]'(by omega) := by rw [fwL_get, ← gW_get]; rfl
  have := mix_next (A := fwL l s) (B := l) (n := l.length) (k := 0) (fwL_length l s) rfl (by omega)
  rw [e] at this
  rw [← this]
  show (List.take 0 (fwL l s) ++ List.drop 0 l).set 0 l[0] = l
  simp
theorem mix_full (A B : List Wn) (h : A.length = n) (hb : B.length = n) : mixW A B n = A := by
  unfold mixW; rw [List.take_of_length_le (by omega), List.drop_of_length_le (by omega), List.append_nil]
theorem mix_zero (A B : List Wn) : mixW A B 0 = B := rfl
theorem mix_turn (w : IsWin l s) : mixW (fwL l s) (tiL l s) (l.length - 1) = fwL l s := by
  have o := w.one
  have ha := fwL_length l s
  have hb := tiL_length l s
  apply List.ext_getElem (by rw [mix_len ha hb (by omega), ha])
  intro j h1 h2
  rcases Nat.lt_or_ge j (l.length - 1) with c | c
  · rw [mix_lt ha hb (by omega) c]
  · have e : j = l.length - 1 := by omega
    subst e
    rw [mix_ge ha hb (by omega) (Nat.le_refl _), tiL_get, fwL_get, tiW_last]
theorem fw_bd (w : IsWin l s) : ∀ i, i < l.length → 0 ≤ (fwW l s i).1 ∧ (fwW l s i).1 ≤ 100000 * ((i : Int) + 1) ∧ 0 ≤ (fwW l s i).2 ∧ (fwW l s i).2 ≤ 100000
  | 0, hi => by have := w.okl 0 hi; simp only [fwW]; omega
  | i + 1, hi => by
    have ih := fw_bd w i (by omega)
    have a := w.okl (i + 1) hi
    have b := w.oks i hi
    simp only [fwW, bothW]; omega
theorem ti_bd (w : IsWin l s) : ∀ k i, i + k + 1 = l.length → 0 ≤ (tiW l s i).1 ∧ (tiW l s i).1 ≤ 1200000 ∧ -(100000 * (k : Int)) ≤ (tiW l s i).2 ∧ (tiW l s i).2 ≤ 100000
  | 0, i, e => by
    have := fw_bd w i (by omega)
    have m := w.most
    have e2 : i = l.length - 1 := by omega
    rw [e2, tiW_last, ← e2]; omega
  | k + 1, i, e => by
    have ih := ti_bd w k (i + 1) (by omega)
    have a := fw_bd w i (by omega)
    have b := w.oks i (by omega)
    have m := w.most
    rw [tiW_next (show i + 1 < l.length by omega)]
    simp only [bothW]; omega
theorem fw_next {i : Nat} : fwW l s (i + 1) = bothW (gW l (i + 1)) ((fwW l s i).1 + (gW s i).1) ((fwW l s i).2 + (gW s i).2) := rfl
theorem good_not {t : List Wn} {j : Nat} (hj : j < t.length) (h : t[j].2 < t[j].1) : goodW t = false := by
  cases c : goodW t
  · rfl
  · have := goodW_iff.1 c j hj; rw [gW_get hj] at this; omega
theorem tight_bad (h : goodW (tiL l s) = false) : tightOf l s = none := if_neg (by rw [h]; simp)
theorem tight_invalid (h : isWin l s = false) : tightOf l s = none := if_neg (by rw [h]; simp)
theorem tight_good (h : isWin l s = true) (k : goodW (tiL l s) = true) : tightOf l s = some (tiL l s) := if_pos ⟨h, k⟩
theorem good_take {t : List Wn} {j : Nat} (hj : j < t.length) (h : goodW (t.take j) = true) (k : t[j].1 ≤ t[j].2) : goodW (t.take (j + 1)) = true := by
  unfold goodW at h ⊢
  rw [List.take_succ_eq_append_getElem hj, List.all_append, h]; simp [k]
end Go.Proofs.YtanfalkpmmkklaaDoor
