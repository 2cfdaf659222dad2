/- The contracts of RecordMean, of the program's and of the model's. -/
import Derived.Test.YtkcbgeldnibjcaaSpecRecBet
namespace Go.Proofs.Ytkcbgeldnibjcaa
open Go.RowKit

theorem fv_int {k : Int} (h0 : -1000000000 ≤ k) (h1 : k ≤ 1000000000) : fv k 1 = true := fv_iff.2 ⟨by omega, by omega, h0, h1, Int.gcd_one_right k⟩
theorem meanOf_none {l m : List Int} {t b : Int} (h : bet l m t b = none) : meanOf l m t b = none := by unfold meanOf; rw [h]
theorem meanOf_flat {l m : List Int} {t : Int} : meanOf l m t t = none := by
  unfold meanOf
  split
  · rw [if_neg]; intro h; omega
  · rfl
theorem mean_res {l m : List Int} {t b n d x y : Int} {r : Rat} {ok : Bool} (hb : bet l m t b = some r) (hf : fv n d = true) (hq : fq n d = r)
    (h : Res (fv n d && fv (b - t) 1 && !((b - t) == 0)) (fq n d / fq (b - t) 1) x y ok) : Res (meanOf l m t b).isSome ((meanOf l m t b).getD 0) x y ok := by
  obtain ⟨_, _, _, h0, h1, h2⟩ := bet_is hb
  have e : fq n d / fq (b - t) 1 = meanR t b r := by rw [hq, fq_whole]; rfl
  have v : (fv n d && fv (b - t) 1) = true := by rw [hf, fv_int (by omega) (by omega)]; rfl
  rw [e, v] at h
  simp only [Bool.true_and] at h
  rcases h with ⟨rfl, k2, k3, k4⟩ | ⟨rfl, rfl, rfl, k4⟩
  · have hne : t < b := by
      rcases Int.lt_or_eq_of_le h1 with q | q
      · exact q
      · subst q; simp at k2
    have := meanOf_of hb hne (by rw [← k4]; exact fq_fits k3)
    rw [this]
    exact Res.yes rfl k3 k4
  · have : meanOf l m t b = none := by
      unfold meanOf
      rw [hb]
      refine if_neg fun k => ?_
      rcases k4 with k4 | k4
      · have : ((b - t) == 0) = true := by simpa using k4
        have : b - t = 0 := by simpa using this
        omega
      · rw [k.2] at k4; cases k4
    rw [this]
    exact Res.no (.inl rfl)
end Go.Proofs.Ytkcbgeldnibjcaa
