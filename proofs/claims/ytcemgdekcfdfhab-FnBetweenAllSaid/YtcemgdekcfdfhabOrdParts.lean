/- The contract of the model's OrderParts: letters are counted part by part. -/
import Derived.Test.YtcemgdekcfdfhabOrdText
import Derived.Test.YtcemgdekcfdfhabTwoIP
namespace Go.Proofs.Ytcemgdekcfdfhab
open Go.RowKit

theorem inP : IntT 23 := Try.underlying23
theorem intA_snoc (us : List Tx) (t : Tx) : intA (us ++ [t]) = intA us ++ [(na t : Int)] := by simp [intA]
theorem intB_snoc (us : List Tx) (t : Tx) : intB (us ++ [t]) = intB us ++ [(nb t : Int)] := by simp [intB]
theorem na_more (t : Tx) (x : Bool) : na (t ++ [x]) = na t + (if x then 0 else 1) := by cases x <;> simp [na]
theorem nb_more (t : Tx) (x : Bool) : nb (t ++ [x]) = nb t + (if x then 1 else 0) := by cases x <;> simp [nb]
theorem last_set (xs : List Int) (x y : Int) : (xs ++ [x]).set xs.length y = xs ++ [y] := by simp
theorem sp_snoc {s : List UInt8} {ts : List Tx} (h : sp s = some ts) : ∃ us t, ts = us ++ [t] := by
  have ne := (jn_sp h).2
  exact ⟨ts.dropLast, ts.getLast ne, (List.dropLast_concat_getLast ne).symm⟩
/-- Two lists of numbers of the call's own, apart from each other, and whether there are any. -/
def PartsB (w : World) (o : Option (List Int × List Int)) (e : Ending) (w' : World) : Prop :=
  ∃ v u, e = .returned (.tuple #[v, u, .bool o.isSome]) ∧ IOwn w' w.heap.size v ((o.map Prod.fst).getD []) ∧ IOwn w' w.heap.size u ((o.map Prod.snd).getD []) ∧ Apt v u ∧ Below w.heap.size w w'
theorem parts_letters {s : List UInt8} {ts : List Tx} (h : sp s = some ts) : ts.flatten.length + ts.length = s.length + 1 := by
  obtain ⟨e, ne⟩ := jn_sp h
  rw [← e]
  clear e h
  induction ts with
  | nil => exact absurd rfl ne
  | cons t ts ih =>
    cases ts with
    | nil => simp [jn, body]
    | cons u ts =>
      rw [jn_more]
      have := ih (by simp)
      simp only [List.flatten_cons, List.length_append, List.length_cons, body_length] at this ⊢
      omega
theorem na_le (us : List Tx) (t : Tx) : na t ≤ (us ++ [t]).flatten.length ∧ nb t ≤ (us ++ [t]).flatten.length := by
  have := na_nb t
  simp only [List.flatten_append, List.length_append, List.flatten_cons, List.flatten_nil, List.length_nil]
  omega
theorem newI (w1 : World) {w : World} (k : Below w.heap.size w w1) : Hid (IOwn ((w1.alloc (.cells #[] 3)).alloc (.cells #[] 3)) w.heap.size (.slice (some ⟨w1.heap.size, 0, none⟩) 0 0) [] ∧
    IOwn ((w1.alloc (.cells #[] 3)).alloc (.cells #[] 3)) w.heap.size (.slice (some ⟨w1.heap.size + 1, 0, none⟩) 0 0) [] ∧ Apt (.slice (some ⟨w1.heap.size, 0, none⟩) 0 0) (.slice (some ⟨w1.heap.size + 1, 0, none⟩) 0 0) ∧ Below w.heap.size w ((w1.alloc (.cells #[] 3)).alloc (.cells #[] 3))) := Lib.hid (by
  refine ⟨(iown_new k.size).grow ((Below.refl _ _).alloc (Nat.le_refl _) _), ?_, fun b h1 h2 => ?_, (k.alloc k.size _).alloc (by have := k.size; simp; omega) _⟩
  · have h9 := iown_new (w := w1.alloc (.cells #[] 3)) (B := w.heap.size) (by have := k.size; simp; omega)
    rw [World.size_alloc] at h9
    exact h9
  · have h8 : w1.heap.size = b := Option.some.inj h1
    have h9 : w1.heap.size + 1 = b := Option.some.inj h2
    omega)
end Go.Proofs.Ytcemgdekcfdfhab
