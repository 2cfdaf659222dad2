/- What the walk of the law on exchanged letters names. -/
import Derived.Test.YtcemgdekcfdfhaaDoorLawV
namespace Go.Proofs.YtcemgdekcfdfhaaDoor
open Go.RowKit

def turnC (c : UInt8) : UInt8 := if c = 97 then 98 else if c = 98 then 97 else 124
def turnB (s : List UInt8) : List UInt8 := s.map turnC
theorem turnB_length (s : List UInt8) : (turnB s).length = s.length := by simp [turnB]
theorem turnB_body (t : Tx) : turnB (body t) = body (turn t) := by
  induction t with
  | nil => rfl
  | cons x t ih =>
    show turnC (byt x) :: turnB (body t) = byt (!x) :: body (turn t)
    rw [ih]
    cases x <;> rfl
theorem turnB_jn (ts : List Tx) : turnB (jn ts) = jn (ts.map turn) := by
  induction ts with
  | nil => rfl
  | cons t ts ih =>
    cases ts with
    | nil => exact turnB_body t
    | cons u us =>
      rw [jn_more]
      show turnB (body t ++ 124 :: jn (u :: us)) = jn (turn t :: turn u :: us.map turn)
      rw [jn_more, ← turnB_body]
      have ih' : turnB (jn (u :: us)) = jn (turn u :: us.map turn) := ih
      rw [← ih']
      show List.map turnC (body t ++ 124 :: jn (u :: us)) = _
      rw [List.map_append, List.map_cons]
      rfl
theorem turnB_next {s : List UInt8} {p : Nat} (h : p < s.length) : turnB (s.take (p + 1)) = turnB (s.take p) ++ [turnC s[p]] := by
  rw [List.take_succ_eq_append_getElem h]
  show List.map turnC (s.take p ++ [s[p]]) = _
  rw [List.map_append]; rfl
theorem rank_turn {s : List UInt8} {r : Int} (h : rankOf s = r) (hr : 0 ≤ r) : ∃ (a b : List Int) (c r2 : Int), partsOf s = some (a, b) ∧ countOf a b = c ∧ rankOf (turnB s) = r2 ∧ r2 + r = c - 1 ∧ 0 ≤ r2 ∧ c ≤ 728933458176 := by
  unfold rankOf at h
  split at h
  · rename_i ts e
    split at h
    · rename_i c
      have w := isPar_iff.1 c
      have e1 := rks_turn ts
      have hc : countOf (intA ts) (intB ts) = (cnt (ts.map cts) : Nat) := by rw [count_of w, par_int]
      have c9 := cnt_four w.small (by rw [par_length _ _ w.len]; exact w.most)
      rw [par_int] at c9
      obtain ⟨e2, ne⟩ := jn_sp e
      have ht : sp (turnB s) = some (ts.map turn) := by rw [← e2, turnB_jn]; exact sp_jn _ (by simpa using ne)
      have ha : intA (ts.map turn) = intB ts := by unfold intA intB; rw [List.map_map]; exact List.map_congr_left fun x _ => by simp [turn_na]
      have hb : intB (ts.map turn) = intA ts := by unfold intA intB; rw [List.map_map]; exact List.map_congr_left fun x _ => by simp [turn_nb]
      refine ⟨intA ts, intB ts, _, _, ?_, hc, rankOf_some ht (by rw [ha, hb]; exact isPar_iff.2 w.swap), by omega, by omega, by omega⟩
      unfold partsOf; rw [e]; simp only [c, if_true]
    · omega
  · omega
end Go.Proofs.YtcemgdekcfdfhaaDoor
