/- What the walks of the laws on the orders with a rank name. -/
import Derived.Test.YtcemgdekcfdfhaaDoorLawP
import Derived.Test.YtcemgdekcfdfhaaDoorOrdN2
namespace Go.Proofs.YtcemgdekcfdfhaaDoor
open Go.RowKit

variable {w : World} {v u : Value} {a b : List Int} {n : Int} {t : List UInt8}
theorem nI_yes (h : IRow w v a) (h' : IRow w u b) (e : nthOf a b n = some t) : Calls Tryd.prog 8 #[v, u, .int .i64 n] w fun e w' => e = .returned (.tuple #[.string (str t), .bool true]) ∧ Below w.heap.size w w' := by
  have := nthImpl_any n h h'; rw [e] at this; exact this
theorem nI_no (h : IRow w v a) (h' : IRow w u b) (e : nthOf a b n = none) : Calls Tryd.prog 8 #[v, u, .int .i64 n] w fun e w' => e = .returned (.tuple #[.string (str []), .bool false]) ∧ Below w.heap.size w w' := by
  have := nthImpl_any n h h'; rw [e] at this; exact this
theorem nS_yes (h : IRow w v a) (h' : IRow w u b) (i : I63 n) (e : nthOf a b n = some t) : Calls Tryd.prog 9 #[v, u, .int .i64 n] w fun e w' => e = .returned (.tuple #[.string (str t), .bool true]) ∧ Below w.heap.size w w' := by
  have := specNth_any n h h' i; rw [e] at this; exact this
theorem nS_no (h : IRow w v a) (h' : IRow w u b) (i : I63 n) (e : nthOf a b n = none) : Calls Tryd.prog 9 #[v, u, .int .i64 n] w fun e w' => e = .returned (.tuple #[.string (str []), .bool false]) ∧ Below w.heap.size w w' := by
  have := specNth_any n h h' i; rw [e] at this; exact this
theorem nth_cases (a b : List Int) (n : Int) : nthOf a b n = none ∨ ∃ N : Nat, n = (N : Int) ∧ IsPar a b ∧ N < cnt (par a b) ∧ nthOf a b n = some (jn (txs (par a b) N)) := by
  unfold nthOf
  by_cases h : isPar a b = true ∧ 0 ≤ n ∧ n < (cnt (par a b) : Int)
  · obtain ⟨h1, h2, h3⟩ := h
    refine .inr ⟨n.toNat, by omega, isPar_iff.1 h1, by omega, ?_⟩
    rw [if_pos ⟨h1, h2, h3⟩]
  · exact .inl (by rw [if_neg h])
theorem nth_of {a b : List Int} (h : IsPar a b) {N : Nat} (hN : N < cnt (par a b)) : nthOf a b (N : Int) = some (jn (txs (par a b) N)) := by
  unfold nthOf
  rw [if_pos ⟨isPar_iff.2 h, by omega, by omega⟩, Int.toNat_natCast]
theorem nth_over {a b : List Int} {N : Nat} (hN : cnt (par a b) ≤ N) : nthOf a b (N : Int) = none := nth_no (.inr (.inr (by omega)))
theorem jn_len (ts : List Tx) (h : ts ≠ []) : (jn ts).length + 1 = (ts.map fun t => na t + nb t).sum + ts.length := by
  induction ts with
  | nil => exact absurd rfl h
  | cons t ts ih =>
    have e := na_nb t
    cases ts with
    | nil => rw [jn_one, body_length]; simp; omega
    | cons u ts =>
      have := ih (by simp)
      rw [jn_more]
      simp only [List.length_append, List.length_cons, body_length, List.map_cons, List.sum_cons] at this ⊢
      omega
theorem jn_same {ts us : List Tx} (h : ts ≠ []) (e : ts.map cts = us.map cts) : (jn ts).length = (jn us).length := by
  have hu : us ≠ [] := fun c => by subst c; simp at e; exact h e
  have h1 := jn_len ts h; have h2 := jn_len us hu
  have el : ts.length = us.length := by simpa using congrArg List.length e
  have es : (ts.map fun t => na t + nb t) = (us.map fun t => na t + nb t) := by
    have := congrArg (List.map fun p : Pt => p.1 + p.2) e
    simpa [List.map_map, Function.comp_def, cts] using this
  rw [es, el] at h1
  omega
theorem txs_ne {a b : List Int} (h : IsPar a b) (N : Nat) : txs (par a b) N ≠ [] := fun c => by
  have := congrArg List.length c
  rw [txs_length, par_length a b h.len, List.length_nil] at this
  have := h.one
  omega
theorem nth_same {a b : List Int} (h : IsPar a b) (N M : Nat) : (jn (txs (par a b) N)).length = (jn (txs (par a b) M)).length := jn_same (txs_ne h N) (by rw [txs_cts, txs_cts])
theorem nth_len {a b : List Int} (h : IsPar a b) (N : Nat) : (jn (txs (par a b) N)).length ≤ 52 := by
  have k := jn_le12 (txs (par a b) N) (fun t ht => by
    have m : cts t ∈ par a b := by rw [← txs_cts (par a b) N]; exact List.mem_map_of_mem ht
    have := h.small _ m
    have := na_nb t
    simp only [cts] at *
    omega)
  rw [txs_length, par_length a b h.len] at k
  have := h.most
  omega
theorem bless_cons (a : UInt8) (x y : List UInt8) : Op.bytesLess (a :: x) (a :: y) = Op.bytesLess x y := by
  simp [Op.bytesLess]
theorem bless_same (l x y : List UInt8) : Op.bytesLess (l ++ x) (l ++ y) = Op.bytesLess x y := by
  induction l with
  | nil => rfl
  | cons a l ih => rw [List.cons_append, List.cons_append, bless_cons, ih]
theorem body_less : ∀ (t u : Tx) (x y : List UInt8), t.length = u.length → lesser t u = true → Op.bytesLess (body t ++ x) (body u ++ y) = true
  | [], [], _, _, _, h => by simp [lesser] at h
  | [], _ :: _, _, _, hl, _ => by simp at hl
  | _ :: _, [], _, _, hl, _ => by simp at hl
  | a :: t, b :: u, x, y, hl, h => by
    show Op.bytesLess (byt a :: (body t ++ x)) (byt b :: (body u ++ y)) = true
    by_cases e : a = b
    · subst e
      rw [bless_cons]
      simp only [lesser, if_true] at h
      exact body_less t u x y (by simpa using hl) h
    · simp only [lesser, if_neg e, Bool.and_eq_true, Bool.not_eq_true'] at h
      obtain ⟨rfl, rfl⟩ := h
      simp [Op.bytesLess, byt]
theorem jn_less : ∀ (ts us : List Tx), ts.map cts = us.map cts → lessers ts us = true → Op.bytesLess (jn ts) (jn us) = true
  | [], _, _, h => by simp [lessers] at h
  | _ :: _, [], e, _ => by simp at e
  | t :: ts, u :: us, e, h => by
    simp only [List.map_cons, List.cons.injEq] at e
    have hl : t.length = u.length := by
      have h1 := na_nb t; have h2 := na_nb u
      have := congrArg Prod.fst e.1; have := congrArg Prod.snd e.1
      simp only [cts] at *
      omega
    by_cases c : t = u
    · subst c
      simp only [lessers, if_true] at h
      cases ts with
      | nil => simp [lessers] at h
      | cons t1 ts =>
        cases us with
        | nil => simp at e
        | cons u1 us =>
          rw [jn_more, jn_more, bless_same, bless_cons]
          exact jn_less (t1 :: ts) (u1 :: us) e.2 h
    · simp only [lessers, if_neg c] at h
      have j1 : ∃ x, jn (t :: ts) = body t ++ x := by
        cases ts with
        | nil => exact ⟨[], by rw [jn_one, List.append_nil]⟩
        | cons t1 ts => exact ⟨_, jn_more t t1 ts⟩
      have j2 : ∃ x, jn (u :: us) = body u ++ x := by
        cases us with
        | nil => exact ⟨[], by rw [jn_one, List.append_nil]⟩
        | cons u1 us => exact ⟨_, jn_more u u1 us⟩
      obtain ⟨x, hx⟩ := j1
      obtain ⟨y, hy⟩ := j2
      rw [hx, hy]
      exact body_less t u x y hl h
theorem str_toList (l : List UInt8) : (str l).toList = l := by rw [Lib.toList_data]; rfl
theorem nth_less {a b : List Int} {N M : Nat} (hNM : N < M) (hM : M < cnt (par a b)) : Op.bytesLess (str (jn (txs (par a b) N))).toList (str (jn (txs (par a b) M))).toList = true := by
  rw [str_toList, str_toList]
  exact jn_less _ _ (by rw [txs_cts, txs_cts]) (txs_lesser _ _ _ hNM hM)
end Go.Proofs.YtcemgdekcfdfhaaDoor
