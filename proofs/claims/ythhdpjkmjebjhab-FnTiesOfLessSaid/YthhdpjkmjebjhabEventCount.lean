/- The contracts of the model's functions on events: the number of matchings. -/
import Derived.Test.YthhdpjkmjebjhabEvent
namespace Go.Proofs.Ythhdpjkmjebjhab
open Go.RowKit

/-- The matchings of what is left from two places on. -/
def cf (tol : Int) (s t : List Int) (i f : Nat) : Int := ((cnt tol (s.drop i) (t.drop f) : Nat) : Int)
theorem cf_end (tol : Int) (s t : List Int) (f : Nat) : cf tol s t s.length f = 1 := by unfold cf; rw [List.drop_length, cnt_nil]; rfl
/-- Those in which the event i has a partner from the place j on. -/
def wf (tol : Int) (s t : List Int) (i j : Nat) : Int := ((cnt.with1 tol (s.getD i 0) (s.drop (i + 1)) (t.drop j) : Nat) : Int)
theorem wf_nonneg (tol : Int) (s t : List Int) (i j : Nat) : 0 ≤ wf tol s t i j := Int.natCast_nonneg _
theorem cf_nonneg (tol : Int) (s t : List Int) (i j : Nat) : 0 ≤ cf tol s t i j := Int.natCast_nonneg _
theorem wf_end (tol : Int) (s t : List Int) (i : Nat) : wf tol s t i t.length = 0 := by unfold wf; rw [List.drop_length, with1_nil]; rfl
theorem cf_step {tol : Int} {s t : List Int} {i f : Nat} (hi : i < s.length) : cf tol s t i f = cf tol s t (i + 1) f + wf tol s t i f := by
  unfold cf wf
  have hd : s.getD i 0 = s[i] := by rw [List.getD_eq_getElem?_getD, List.getElem?_eq_getElem hi]; rfl
  rw [hd, List.drop_eq_getElem_cons hi, cnt_cons]; omega
theorem wf_step {tol : Int} {s t : List Int} {i j : Nat} (hj : j < t.length) : wf tol s t i j = (if like tol (s.getD i 0) t[j] then cf tol s t (i + 1) (j + 1) else 0) + wf tol s t i (j + 1) := by
  unfold cf wf
  rw [List.drop_eq_getElem_cons hj, with1_cons]
  split <;> omega
theorem cf_le {tol : Int} {a b : List Ev} (ha : isEv a = true) (hb : isEv b = true) (i f : Nat) : cf tol (sizes a) (sizes b) i f ≤ 12870 := by
  have n8 := (isEv_iff.1 ha).1
  have m8 := (isEv_iff.1 hb).1
  have h := cnt_le tol ((sizes a).drop i) ((sizes b).drop f)
  have k := all2_bound ((sizes a).drop i).length (by rw [List.length_drop, sizes_length]; omega) ((sizes b).drop f).length (by rw [List.length_drop, sizes_length]; omega)
  unfold cf; omega
end Go.Proofs.Ythhdpjkmjebjhab
