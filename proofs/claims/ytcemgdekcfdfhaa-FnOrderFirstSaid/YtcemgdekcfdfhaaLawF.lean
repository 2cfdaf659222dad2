/- What the walk of the law on the first orders names. -/
import Derived.Test.YtcemgdekcfdfhaaLawN
namespace Go.Proofs.Ytcemgdekcfdfhaa
open Go.RowKit

theorem body_ab (A B : Nat) : body (List.replicate A false ++ List.replicate B true) = List.replicate A 97 ++ List.replicate B 98 := by simp [body, byt]
theorem body_ba (A B : Nat) : body (List.replicate B true ++ List.replicate A false) = List.replicate B 98 ++ List.replicate A 97 := by simp [body, byt]
theorem first_step {a b : List Int} {F G : List Tx} {j A B : Nat} (h : IsPar a b) (hF : (par a b).map (fun p => List.replicate p.1 false ++ List.replicate p.2 true) = F) (hG : (par a b).map (fun p => List.replicate p.2 true ++ List.replicate p.1 false) = G) (hj : j < a.length) (hA : a[j] = (A : Int)) (hB : b[j]'(by rw [h.len]; exact hj) = (B : Int)) :
    jn (F.take (j + 1)) = (if j = 0 then [] ++ List.replicate A 97 ++ List.replicate B 98 else jn (F.take j) ++ [124] ++ List.replicate A 97 ++ List.replicate B 98) ∧
    jn (G.take (j + 1)) = (if j = 0 then [] ++ List.replicate B 98 ++ List.replicate A 97 else jn (G.take j) ++ [124] ++ List.replicate B 98 ++ List.replicate A 97) ∧ (jn (F.take j)).length ≤ 52 ∧ (jn (G.take j)).length ≤ 52 := by
  have hl := par_length a b h.len
  have hp : j < (par a b).length := by omega
  have fl : F.length = a.length := by rw [← hF, List.length_map, hl]
  have gl : G.length = a.length := by rw [← hG, List.length_map, hl]
  have pj := par_get a b j hp hj (by rw [h.len]; exact hj)
  have eF : F[j]'(by omega) = List.replicate A false ++ List.replicate B true := by
    subst hF
    simp only [List.getElem_map, pj, hA, hB, Int.toNat_natCast]
  have eG : G[j]'(by omega) = List.replicate B true ++ List.replicate A false := by
    subst hG
    simp only [List.getElem_map, pj, hA, hB, Int.toNat_natCast]
  have bd : ∀ (H : List Tx), H.length = a.length → (∀ t ∈ H, t.length ≤ 12) → (jn (H.take j)).length ≤ 52 := fun H hH h12 => by
    have k := jn_le (H.take j) fun t ht => h12 t (List.mem_of_mem_take ht)
    have := h.most
    rw [List.length_take] at k
    omega
  refine ⟨?_, ?_, bd F fl fun t ht => ?_, bd G gl fun t ht => ?_⟩
  · rw [jn_take (by omega), eF, body_ab]
    split <;> simp
  · rw [jn_take (by omega), eG, body_ba]
    split <;> simp
  · rw [← hF] at ht
    obtain ⟨p, hp, rfl⟩ := List.mem_map.1 ht
    have := h.small p hp
    simp; omega
  · rw [← hG] at ht
    obtain ⟨p, hp, rfl⟩ := List.mem_map.1 ht
    have := h.small p hp
    simp; omega
end Go.Proofs.Ytcemgdekcfdfhaa
