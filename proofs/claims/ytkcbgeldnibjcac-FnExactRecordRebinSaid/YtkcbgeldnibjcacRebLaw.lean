/- Lists of fractions as lists of pairs, and how a record's amounts in other bins are found one by one. -/
import Derived.Test.YtkcbgeldnibjcacRecordLaw
import Derived.Test.YtkcbgeldnibjcacPair
namespace Go.Proofs.Ytkcbgeldnibjcac
open Go.RowKit

/-- A rational number as a pair. -/
def pr (r : Rat) : Pc := (r.num, (r.den : Int))
theorem pr_is {n d : Int} {r : Rat} (hf : fv n d = true) (hq : fq n d = r) : pr r = (n, d) := by
  subst hq; unfold pr; rw [fq_num hf, fq_den hf]
theorem pr_inj {r s : Rat} (h : pr r = pr s) : r = s := by
  unfold pr at h
  rw [Prod.mk.injEq] at h
  rw [← fq_self r, ← fq_self s, h.1, h.2]
theorem prs_inj {a b : List Rat} (h : a.map pr = b.map pr) : a = b := (List.map_inj_right fun _ _ => pr_inj).1 h
theorem bets_step {l m o : List Int} {j : Nat} (h : j + 1 < o.length) : bets l m (o.getD j 0) (o.drop (j + 1)) = (bet l m (o.getD j 0) o[j + 1]).bind fun r => (bets l m (o.getD (j + 1) 0) (o.drop (j + 1 + 1))).map (r :: ·) := by
  rw [List.drop_eq_getElem_cons h]
  simp only [bets]
  rw [show o.getD (j + 1) 0 = o[j + 1] by simp [h]]
  cases bet l m (o.getD j 0) o[j + 1] <;> rfl
/-- The first j amounts are rs. -/
def RebAt (l m o : List Int) (j : Nat) (rs : List Rat) : Prop := rs.length = j ∧ rebOf l m o = (bets l m (o.getD j 0) (o.drop (j + 1))).map (rs ++ ·)
theorem reb_start {l m o : List Int} (hr : isRec l m = true) (he : isEdges o = true) : RebAt l m o 0 [] := by
  obtain ⟨e, f, r, e1, _⟩ := isEdges_iff.1 he
  subst e1
  refine ⟨rfl, ?_⟩
  unfold rebOf
  simp only [hr, he, Bool.and_self, if_true, List.getD_cons_zero, List.drop_succ_cons, List.drop_zero, List.nil_append]
  cases bets l m e (f :: r) <;> rfl
theorem reb_start_any {l m o : List Int} (he : isEdges o = true) : RebAt l m o 0 [] := by
  cases hr : isRec l m
  · obtain ⟨e, f, r, e1, _⟩ := isEdges_iff.1 he
    subst e1
    refine ⟨rfl, ?_⟩
    have h0 : bet l m e f = none := by unfold bet betOk; rw [hr]; rfl
    unfold rebOf
    simp only [hr, Bool.false_and, Bool.false_eq_true, if_false, List.getD_cons_zero, List.drop_succ_cons, List.drop_zero, bets, h0, Option.map_none]
  · exact reb_start hr he
theorem RebAt.next {l m o : List Int} {j : Nat} {rs : List Rat} (h : RebAt l m o j rs) (hj : j + 1 < o.length) {r : Rat} (hb : bet l m (o.getD j 0) o[j + 1] = some r) : RebAt l m o (j + 1) (rs ++ [r]) := by
  refine ⟨by rw [List.length_append, h.1]; rfl, ?_⟩
  rw [h.2, bets_step hj, hb]
  cases bets l m (o.getD (j + 1) 0) (o.drop (j + 1 + 1)) with
  | none => rfl
  | some q => simp
theorem RebAt.none {l m o : List Int} {j : Nat} {rs : List Rat} (h : RebAt l m o j rs) (hj : j + 1 < o.length) (hb : bet l m (o.getD j 0) o[j + 1] = none) : rebOf l m o = none := by
  rw [h.2, bets_step hj, hb]; rfl
theorem RebAt.all {l m o : List Int} {j : Nat} {rs : List Rat} (h : RebAt l m o j rs) (hj : o.length ≤ j + 1) : rebOf l m o = some rs := by
  rw [h.2, List.drop_of_length_le hj]
  simp [bets]
theorem reb_no_rec {l m o : List Int} (h : isRec l m = false) : rebOf l m o = none := by
  unfold rebOf
  split
  · rw [h]; rfl
  · rfl
theorem reb_no_edges {l m o : List Int} (h : isEdges o = false) : rebOf l m o = none := by
  unfold rebOf
  split
  · rw [h, Bool.and_false]; rfl
  · rfl
theorem bets_fits {l m : List Int} {t : Int} {o : List Int} {rs : List Rat} (h : bets l m t o = some rs) : ∀ r ∈ rs, fits r = true := by
  induction o generalizing t rs with
  | nil => simp only [bets, Option.some.injEq] at h; subst h; intro r hr; cases hr
  | cons u o ih =>
    simp only [bets] at h
    split at h
    · rename_i r hr
      cases hb : bets l m u o with
      | none => rw [hb] at h; cases h
      | some qs =>
        rw [hb] at h
        simp only [Option.map_some, Option.some.injEq] at h
        subst h
        intro x hx
        rcases List.mem_cons.1 hx with rfl | hx
        · exact (bet_is hr).2.1
        · exact ih hb x hx
    · cases h
theorem rebOf_fits {l m o : List Int} {rs : List Rat} (h : rebOf l m o = some rs) : ∀ r ∈ rs, fits r = true := by
  obtain ⟨t, o', _, _, _, h3⟩ := rebOf_is h
  exact bets_fits h3
end Go.Proofs.Ytkcbgeldnibjcac
