/- Orders of several parts: how many there are, those with a rank, their rank; their text, with '|' between parts. Plain mathematics, no program in it. -/
import Derived.Test.YtcemgdekcfdfhaaDoorOrd
namespace Go.Proofs.YtcemgdekcfdfhaaDoor

abbrev Pt := Nat × Nat
def cts (t : Tx) : Pt := (na t, nb t)
/-- The number of orders of parts. -/
def cnt : List Pt → Nat
  | [] => 1
  | p :: ps => ch p.1 p.2 * cnt ps
theorem cnt_pos : ∀ ps, 1 ≤ cnt ps
  | [] => Nat.le_refl _
  | p :: ps => Nat.mul_pos (ch_pos p.1 p.2) (cnt_pos ps)
theorem cnt_append (ps qs : List Pt) : cnt (ps ++ qs) = cnt ps * cnt qs := by
  induction ps with
  | nil => simp [cnt]
  | cons p ps ih => simp only [List.cons_append, cnt, ih, Nat.mul_assoc]
theorem cnt_swap (ps : List Pt) : cnt (ps.map Prod.swap) = cnt ps := by
  induction ps with
  | nil => rfl
  | cons p ps ih => simp only [List.map_cons, cnt, ih, Prod.fst_swap, Prod.snd_swap, ch_comm p.2 p.1]
/-- The orders with a rank. -/
def txs : List Pt → Nat → List Tx
  | [], _ => []
  | p :: ps, n => tx p.1 p.2 (n / cnt ps) :: txs ps (n % cnt ps)
/-- The rank of orders. -/
def rks : List Tx → Nat
  | [] => 0
  | t :: ts => rk t * cnt (ts.map cts) + rks ts
theorem txs_length (ps : List Pt) (n : Nat) : (txs ps n).length = ps.length := by
  induction ps generalizing n with
  | nil => rfl
  | cons p ps ih => simp only [txs, List.length_cons, ih]
theorem txs_cts (ps : List Pt) (n : Nat) : (txs ps n).map cts = ps := by
  induction ps generalizing n with
  | nil => rfl
  | cons p ps ih =>
    have h := tx_counts p.1 p.2 (n / cnt ps)
    simp only [txs, List.map_cons, ih, cts, h.1, h.2]
theorem rks_txs (ps : List Pt) (n : Nat) (h : n < cnt ps) : rks (txs ps n) = n := by
  induction ps generalizing n with
  | nil => simp only [cnt] at h; simp [txs, rks]; omega
  | cons p ps ih =>
    have c := cnt_pos ps
    have d : n / cnt ps < ch p.1 p.2 := by rw [Nat.div_lt_iff_lt_mul (by omega)]; exact h
    simp only [txs, rks, txs_cts, rk_tx _ _ _ d, ih _ (Nat.mod_lt _ (by omega))]
    exact Nat.div_add_mod' n (cnt ps)
theorem rks_lt (ts : List Tx) : rks ts < cnt (ts.map cts) := by
  induction ts with
  | nil => exact Nat.one_pos
  | cons t ts ih =>
    have h := rk_lt t
    simp only [rks, List.map_cons, cnt]
    calc rk t * cnt (ts.map cts) + rks ts < rk t * cnt (ts.map cts) + cnt (ts.map cts) := by omega
      _ = (rk t + 1) * cnt (ts.map cts) := by rw [Nat.add_mul, Nat.one_mul]
      _ ≤ ch (cts t).1 (cts t).2 * cnt (ts.map cts) := Nat.mul_le_mul_right _ h
theorem txs_rks (ts : List Tx) : txs (ts.map cts) (rks ts) = ts := by
  induction ts with
  | nil => rfl
  | cons t ts ih =>
    have l := rks_lt ts
    have c := cnt_pos (ts.map cts)
    simp only [List.map_cons, txs, rks]
    rw [Nat.mul_comm, Nat.mul_add_div (by omega), Nat.div_eq_of_lt l, Nat.mul_add_mod, Nat.mod_eq_of_lt l, ih, Nat.add_zero]
    show tx (na t) (nb t) (rk t) :: ts = _
    rw [tx_rk]
/-- Lesser orders: the first unlike part tells. -/
def lessers : List Tx → List Tx → Bool
  | s :: ss, t :: ts => if s = t then lessers ss ts else lesser s t
  | _, _ => false
theorem txs_lesser (ps : List Pt) (n m : Nat) (h : n < m) (hm : m < cnt ps) : lessers (txs ps n) (txs ps m) = true := by
  induction ps generalizing n m with
  | nil => simp only [cnt] at hm; omega
  | cons p ps ih =>
    have c := cnt_pos ps
    have dm : m / cnt ps < ch p.1 p.2 := by rw [Nat.div_lt_iff_lt_mul (by omega)]; exact hm
    have le : n / cnt ps ≤ m / cnt ps := Nat.div_le_div_right (by omega)
    simp only [txs, lessers]
    rcases Nat.lt_or_ge (n / cnt ps) (m / cnt ps) with k | k
    · have l := tx_lesser p.1 p.2 _ _ k dm
      rw [if_neg (fun e => by rw [e, lesser_irr] at l; cases l)]
      exact l
    · have e : n / cnt ps = m / cnt ps := by omega
      have hn := Nat.div_add_mod' n (cnt ps)
      have hm' := Nat.div_add_mod' m (cnt ps)
      rw [e] at hn
      rw [if_pos (by rw [e])]
      exact ih _ _ (by omega) (Nat.mod_lt _ (by omega))
theorem txs_first (ps : List Pt) : txs ps 0 = ps.map fun p => List.replicate p.1 false ++ List.replicate p.2 true := by
  induction ps with
  | nil => rfl
  | cons p ps ih => simp only [txs, Nat.zero_div, Nat.zero_mod, ih, tx_first, List.map_cons]
theorem txs_last (ps : List Pt) : txs ps (cnt ps - 1) = ps.map fun p => List.replicate p.2 true ++ List.replicate p.1 false := by
  induction ps with
  | nil => rfl
  | cons p ps ih =>
    have c := cnt_pos ps
    have d := ch_pos p.1 p.2
    have e : cnt (p :: ps) - 1 = cnt ps * (ch p.1 p.2 - 1) + (cnt ps - 1) := by
      simp only [cnt]
      rw [Nat.mul_sub, Nat.mul_one, Nat.mul_comm (ch p.1 p.2)]
      have := Nat.le_mul_of_pos_right (cnt ps) (show 0 < ch p.1 p.2 by omega)
      omega
    simp only [txs, e, List.map_cons]
    rw [Nat.mul_add_div (by omega), Nat.div_eq_of_lt (by omega), Nat.mul_add_mod, Nat.mod_eq_of_lt (by omega), ih, Nat.add_zero, tx_last]
theorem cts_turn (t : Tx) : cts (turn t) = (cts t).swap := by
  show (na (turn t), nb (turn t)) = (nb t, na t)
  rw [turn_na, turn_nb]
theorem rks_turn (ts : List Tx) : rks (ts.map turn) + rks ts + 1 = cnt (ts.map cts) := by
  induction ts with
  | nil => rfl
  | cons t ts ih =>
    have h := rk_turn t
    have e : (ts.map turn).map cts = (ts.map cts).map Prod.swap := by
      rw [List.map_map, List.map_map]; exact List.map_congr_left fun x _ => cts_turn x
    simp only [List.map_cons, rks, cnt, e, cnt_swap]
    show rk (turn t) * cnt (ts.map cts) + rks (ts.map turn) + (rk t * cnt (ts.map cts) + rks ts) + 1 = ch (na t) (nb t) * cnt (ts.map cts)
    rw [← h, Nat.add_mul, Nat.add_mul, Nat.one_mul]
    omega

/-! The text. -/
def byt (x : Bool) : UInt8 := if x then 98 else 97
def body (t : Tx) : List UInt8 := t.map byt
theorem body_length (t : Tx) : (body t).length = t.length := by simp [body]
/-- Texts of parts, with '|' between them. -/
def jn : List Tx → List UInt8
  | [] => []
  | t :: ts => match ts with
    | [] => body t
    | _ :: _ => body t ++ 124 :: jn ts
theorem jn_one (t : Tx) : jn [t] = body t := rfl
theorem jn_more (t u : Tx) (ts : List Tx) : jn (t :: u :: ts) = body t ++ 124 :: jn (u :: ts) := rfl
theorem jn_snoc (ts : List Tx) (h : ts ≠ []) (t : Tx) : jn (ts ++ [t]) = jn ts ++ 124 :: body t := by
  induction ts with
  | nil => exact absurd rfl h
  | cons u ts ih =>
    cases ts with
    | nil => rfl
    | cons v ts =>
      show jn (u :: v :: (ts ++ [t])) = _
      rw [jn_more, jn_more]
      have := ih (by simp)
      simp only [List.cons_append] at this
      rw [this, List.append_assoc]
      rfl
/-- The parts of a text, if it is one. -/
def sp : List UInt8 → Option (List Tx)
  | [] => some [[]]
  | c :: r => match sp r with
    | some (t :: ts) => if c = 97 then some ((false :: t) :: ts) else if c = 98 then some ((true :: t) :: ts) else if c = 124 then some ([] :: t :: ts) else none
    | _ => none
theorem jn_cons (x : Bool) (t : Tx) (ts : List Tx) : jn ((x :: t) :: ts) = byt x :: jn (t :: ts) := by
  cases ts <;> rfl
theorem jn_bar (t : Tx) (ts : List Tx) : jn ([] :: t :: ts) = 124 :: jn (t :: ts) := rfl
theorem sp_cons (c : UInt8) (r : List UInt8) (t : Tx) (ts : List Tx) (h : sp r = some (t :: ts)) : sp (c :: r) = if c = 97 then some ((false :: t) :: ts) else if c = 98 then some ((true :: t) :: ts) else if c = 124 then some ([] :: t :: ts) else none := by
  rw [sp, h]
theorem sp_jn (ts : List Tx) (h : ts ≠ []) : sp (jn ts) = some ts := by
  induction ts with
  | nil => exact absurd rfl h
  | cons t ts ih =>
    induction t with
    | nil =>
      cases ts with
      | nil => rfl
      | cons u ts =>
        rw [jn_bar, sp_cons _ _ _ _ (ih (by simp))]
        rfl
    | cons x t iht =>
      rw [jn_cons, sp_cons _ _ _ _ (iht (by simp))]
      cases x <;> rfl
theorem jn_sp {s : List UInt8} {ts : List Tx} (h : sp s = some ts) : jn ts = s ∧ ts ≠ [] := by
  induction s generalizing ts with
  | nil => cases h; exact ⟨rfl, by simp⟩
  | cons c r ih =>
    rw [sp] at h
    split at h
    · rename_i t us e
      have k := (ih e).1
      split at h
      · rename_i hc; cases h; subst hc; exact ⟨by rw [jn_cons, k]; rfl, by simp⟩
      · split at h
        · rename_i hc; cases h; subst hc; exact ⟨by rw [jn_cons, k]; rfl, by simp⟩
        · split at h
          · rename_i hc; cases h; subst hc; exact ⟨by rw [jn_bar, k], by simp⟩
          · cases h
    · cases h
theorem sp_iff {s : List UInt8} {ts : List Tx} (h : ts ≠ []) : sp s = some ts ↔ jn ts = s :=
  ⟨fun k => (jn_sp k).1, fun k => by rw [← k]; exact sp_jn ts h⟩
/-- A letter more. -/
theorem sp_letter {s : List UInt8} {ts : List Tx} {t : Tx} (h : sp s = some (ts ++ [t])) (x : Bool) : sp (s ++ [byt x]) = some (ts ++ [t ++ [x]]) := by
  have k := (jn_sp h).1
  refine (sp_iff (by simp)).2 ?_
  rw [← k]
  cases ts with
  | nil => simp [jn, body]
  | cons u ts => rw [jn_snoc _ (by simp), jn_snoc _ (by simp)]; simp [body]
/-- A bar more. -/
theorem sp_bar {s : List UInt8} {ts : List Tx} (h : sp s = some ts) : sp (s ++ [124]) = some (ts ++ [[]]) := by
  obtain ⟨k, hne⟩ := jn_sp h
  refine (sp_iff (by simp)).2 ?_
  rw [jn_snoc _ hne, k]
  rfl
/-- Anything else more is no text. -/
theorem sp_other {s r : List UInt8} {c : UInt8} (h1 : c ≠ 97) (h2 : c ≠ 98) (h3 : c ≠ 124) : sp (s ++ c :: r) = none := by
  induction s with
  | nil =>
    show sp (c :: r) = none
    rw [sp]
    split
    · rw [if_neg h1, if_neg h2, if_neg h3]
    · rfl
  | cons d s ih =>
    show sp (d :: (s ++ c :: r)) = none
    rw [sp, ih]
theorem sp_short {s r : List UInt8} (h : sp s = none) : sp (s ++ r) = none := by
  induction s with
  | nil => cases h
  | cons d s ih =>
    show sp (d :: (s ++ r)) = none
    rw [sp] at h ⊢
    split at h
    · rename_i t ts e
      split at h
      · cases h
      · split at h
        · cases h
        · split at h
          · cases h
          · rename_i a b c
            split
            · rw [if_neg a, if_neg b, if_neg c]
            · rfl
    · rename_i e
      have : sp s = none := by
        cases q : sp s with
        | none => rfl
        | some ts =>
          have := (jn_sp q).2
          cases ts with
          | nil => exact absurd rfl this
          | cons t ts => exact absurd q (e t ts)
      rw [ih this]
end Go.Proofs.YtcemgdekcfdfhaaDoor
