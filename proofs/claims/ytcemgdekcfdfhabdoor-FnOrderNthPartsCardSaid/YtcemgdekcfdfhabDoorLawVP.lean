/- What the walk of the law on the orders of the first part names. -/
import Derived.Test.YtcemgdekcfdfhabDoorLawV
namespace Go.Proofs.YtcemgdekcfdfhabDoor
open Go.RowKit

theorem nth_first {a b : List Int} {N r : Nat} {x y : List UInt8} (h : IsPar a b) (hN : N < cnt (par a b)) (hl : 1 < a.length) (hr : cnt (par (a.drop 1) (b.drop 1)) = r) (hx : jn (txs (par (a.take 1) (b.take 1)) (N / r)) = x) (hy : jn (txs (par (a.drop 1) (b.drop 1)) (N % r)) = y) :
    countOf (a.drop 1) (b.drop 1) = (r : Int) ∧ nthOf (a.take 1) (b.take 1) ((N / r : Nat) : Int) = some x ∧ nthOf (a.drop 1) (b.drop 1) ((N % r : Nat) : Int) = some y ∧ jn (txs (par a b) N) = x ++ 124 :: y ∧ 1 ≤ r ∧ N ≤ 728933458176 := by
  have PT := h.take (k := 1) (by omega) hl
  have PD := h.drop hl
  have cp := cnt_parts (a := a) (b := b) 1
  have c9 := cnt_four h.small (by rw [par_length a b h.len]; exact h.most)
  rw [hr] at cp
  have rp : 1 ≤ r := by rw [← hr]; exact cnt_pos _
  have hm : N % r < r := Nat.mod_lt _ (by omega)
  have hd : N / r < cnt (par (a.take 1) (b.take 1)) := by rw [Nat.div_lt_iff_lt_mul (by omega), cp]; exact hN
  refine ⟨by rw [count_of PD, hr], by rw [nth_of PT hd, hx], by rw [nth_of PD (by rw [hr]; exact hm), hy], ?_, rp, by omega⟩
  have hb := h.len
  match a, b, hl, hb with
  | p :: p2 :: ps, q :: q2 :: qs, _, _ =>
    have e1 : par ((p :: p2 :: ps).take 1) ((q :: q2 :: qs).take 1) = [(p.toNat, q.toNat)] := rfl
    have e2 : par ((p :: p2 :: ps).drop 1) ((q :: q2 :: qs).drop 1) = par (p2 :: ps) (q2 :: qs) := rfl
    rw [e1] at hx; rw [e2] at hy hr
    rw [show par (p :: p2 :: ps) (q :: q2 :: qs) = (p.toNat, q.toNat) :: par (p2 :: ps) (q2 :: qs) from rfl]
    show jn (tx p.toNat q.toNat (N / cnt (par (p2 :: ps) (q2 :: qs))) :: txs (par (p2 :: ps) (q2 :: qs)) (N % cnt (par (p2 :: ps) (q2 :: qs)))) = _
    rw [hr]
    have hx' : body (tx p.toNat q.toNat (N / r)) = x := by
      rw [← hx]
      show _ = jn [tx p.toNat q.toNat (N / r / 1)]
      rw [Nat.div_one, jn_one]
    have hz : ∃ z zs, txs (par (p2 :: ps) (q2 :: qs)) (N % r) = z :: zs := ⟨_, _, rfl⟩
    obtain ⟨z, zs, hz⟩ := hz
    rw [hz] at hy ⊢
    rw [jn_more, hx', hy]
end Go.Proofs.YtcemgdekcfdfhabDoor
