/- The contracts of the model's functions on orders: the text of a part, the orders with a rank. -/
import Derived.Test.YtcemgdekcfdfhacDoorOrdSpec
import Derived.Laws.Concat
namespace Go.Proofs.YtcemgdekcfdfhacDoor
open Go.RowKit

/-- A text of bytes. -/
def str (l : List UInt8) : ByteArray := ⟨l.toArray⟩
theorem str_append (l m : List UInt8) : str l ++ str m = str (l ++ m) := by
  unfold str; simp [ByteArray.mk_append_mk]
theorem str_size (l : List UInt8) : (str l).size = l.length := by simp [str, ByteArray.size]
theorem add_str (o p : List UInt8) (w : World) (h : o.length + p.length ≤ 1000000) : (Op.stringOp .add (str o) (str p)).run Tryd.prog w = .ok (.string (str (o ++ p))) w := by
  rw [run_string_add_sum w _ _ (by rw [str_size, str_size]; omega), str_append]
theorem tx_a {a b n : Nat} (h : n < ch a b) : tx (a + 1) b n = false :: tx a b n := by
  cases b with
  | zero => rw [ch_left] at h; rw [tx_left, show n = 0 by omega]
  | succ b => rw [tx_step, if_pos h]
theorem tx_b {a b n : Nat} (h : ¬ n < ch a b) (hn : n < ch (a + 1) b) : ∃ b', b = b' + 1 ∧ tx (a + 1) b n = true :: tx (a + 1) b' (n - ch a b) ∧ n - ch a b < ch (a + 1) b' := by
  cases b with
  | zero => rw [ch_left] at h hn; omega
  | succ b => rw [ch_step] at hn; exact ⟨b, rfl, by rw [tx_step, if_neg h], by omega⟩
theorem tx_0 (b n : Nat) : tx 0 (b + 1) n = true :: tx 0 b n := by rw [tx_none, tx_none, List.replicate_succ]
/-- A text, and whether there is one. -/
def NthB (w : World) (o : Option (List UInt8)) (e : Ending) (w' : World) : Prop := e = .returned (.tuple #[.string (str (o.getD [])), .bool o.isSome]) ∧ Below w.heap.size w w'
theorem nthOf_no {a b : List Int} {n : Int} (h : isIn n 0 (countOf a b - 1) = false) : nthOf a b n = none := by
  unfold nthOf
  rw [if_neg]
  rintro ⟨h1, h2, h3⟩
  unfold countOf at h
  rw [if_pos h1] at h
  simp only [isIn, decide_eq_false_iff_not] at h
  omega
theorem nthOf_yes {a b : List Int} {n : Int} (h : isIn n 0 (countOf a b - 1) = true) : IsPar a b ∧ 0 ≤ n ∧ n < (cnt (par a b) : Int) ∧ nthOf a b n = some (jn (txs (par a b) n.toNat)) := by
  unfold countOf at h
  simp only [isIn, decide_eq_true_eq] at h
  by_cases hp : isPar a b = true
  · rw [if_pos hp] at h
    have h3 : n < (cnt (par a b) : Int) := by omega
    exact ⟨isPar_iff.1 hp, h.1, h3, by unfold nthOf; rw [if_pos ⟨hp, h.1, h3⟩]⟩
  · rw [if_neg hp] at h; omega
theorem jn_take {ts : List Tx} {j : Nat} (hj : j < ts.length) : jn (ts.take (j + 1)) = if j = 0 then body ts[j] else jn (ts.take j) ++ 124 :: body ts[j] := by
  rw [List.take_succ_eq_append_getElem hj]
  split
  · rename_i h; subst h; rfl
  · rename_i h
    exact jn_snoc _ (fun e => by have h9 := congrArg List.length e; rw [List.length_take, List.length_nil] at h9; omega) _
theorem txs_drop {ps : List Pt} {j m : Nat} (hj : j < ps.length) : txs (ps.drop j) m = tx ps[j].1 ps[j].2 (m / cnt (ps.drop (j + 1))) :: txs (ps.drop (j + 1)) (m % cnt (ps.drop (j + 1))) := by
  rw [List.drop_eq_getElem_cons hj]; rfl
theorem cnt_drop {ps : List Pt} {j : Nat} (hj : j < ps.length) : cnt (ps.drop j) = ch ps[j].1 ps[j].2 * cnt (ps.drop (j + 1)) := by
  rw [List.drop_eq_getElem_cons hj]; rfl
theorem body_le {x y n : Nat} (hx : x ≤ 6) (hy : y ≤ 6) : (body (tx x y n)).length ≤ 12 := by rw [body_length, tx_length]; omega
end Go.Proofs.YtcemgdekcfdfhacDoor
