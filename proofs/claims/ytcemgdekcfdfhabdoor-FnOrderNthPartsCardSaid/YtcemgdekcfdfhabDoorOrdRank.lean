/- The contracts of the model's ranks: of the text of a part, of orders. -/
import Derived.Test.YtcemgdekcfdfhabDoorOrdParts
import Derived.Laws.Strings2
namespace Go.Proofs.YtcemgdekcfdfhabDoor
open Go.RowKit

theorem body_get (t : Tx) (j : Nat) (h : j < (body t).length) (h2 : j < t.length) : (body t)[j] = byt t[j] := by simp [body]
theorem rk_a (t : Tx) : rk (false :: t) = rk t := rfl
theorem rk_b (t : Tx) : rk (true :: t) = (if na t = 0 then 0 else ch (na t - 1) (nb t + 1)) + rk t := rfl
/-- Where a part begins in the text. -/
def ofs : List Tx → Nat → Nat
  | _, 0 => 0
  | [], _ + 1 => 0
  | t :: ts, j + 1 => t.length + 1 + ofs ts j
theorem jn_part : ∀ (ts : List Tx) (j : Nat) (h : j < ts.length), ((jn ts).drop (ofs ts j)).take ts[j].length = body ts[j] ∧ ofs ts j + ts[j].length ≤ (jn ts).length
  | [], j, h => by simp at h
  | [t], 0, _ => by
    have hl : (body t).length = t.length := body_length t
    simp only [ofs, List.drop_zero, List.getElem_cons_zero, jn_one]
    exact ⟨by rw [← hl, List.take_length], by omega⟩
  | [t], j + 1, h => by simp at h
  | t :: u :: ts, 0, _ => by
    rw [jn_more]
    simp only [ofs, List.drop_zero, List.getElem_cons_zero]
    have hl : (body t).length = t.length := body_length t
    refine ⟨?_, by simp [hl]⟩
    rw [← hl, List.take_left]
  | t :: u :: ts, j + 1, h => by
    have ih := jn_part (u :: ts) j (by simpa using h)
    rw [jn_more]
    simp only [ofs, List.getElem_cons_succ]
    have hl : (body t).length = t.length := body_length t
    refine ⟨?_, ?_⟩
    · rw [show t.length + 1 + ofs (u :: ts) j = (body t).length + (ofs (u :: ts) j + 1) by omega, List.drop_append, show (body t).length + (ofs (u :: ts) j + 1) - (body t).length = ofs (u :: ts) j + 1 by omega, List.drop_of_length_le (by omega), List.nil_append, List.drop_succ_cons]
      exact ih.1
    · have := ih.2
      simp only [List.length_append, List.length_cons, hl]
      omega
theorem ofs_next : ∀ (ts : List Tx) (j : Nat) (h : j < ts.length), ofs ts (j + 1) = ofs ts j + (ts[j]'h).length + 1
  | [], j, h => by simp at h
  | t :: ts, 0, _ => by cases ts <;> simp [ofs]
  | t :: ts, j + 1, h => by
    have ih := ofs_next ts j (by simpa using h)
    simp only [ofs, List.getElem_cons_succ] at ih ⊢
    rw [ih]; omega
theorem str_extract (L : List UInt8) (lo n : Nat) : (str L).extract lo (lo + n) = str ((L.drop lo).take n) := by
  unfold str
  rw [ByteArray.extract_mk]
  congr 1
  simp
end Go.Proofs.YtcemgdekcfdfhabDoor
