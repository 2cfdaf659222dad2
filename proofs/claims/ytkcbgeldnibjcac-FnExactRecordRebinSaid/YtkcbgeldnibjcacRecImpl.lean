/- The contracts of the program's functions on records: edges, the least and the greatest of a list, lengths, the total. -/
import Derived.Test.YtkcbgeldnibjcacInts
import Derived.Test.YtkcbgeldnibjcacRecordLaw
import Derived.Test.YtkcbgeldnibjcacRegion
import Derived.Test.YtkcbgeldnibjcacFrac
namespace Go.Proofs.Ytkcbgeldnibjcac
open Go.RowKit

/-- What is left to look at of a list of edges. -/
def Seen (l : List Int) (last : Int) (r : List Int) : Prop := up (-1) l = up last r ∧ lastI (-1) l = lastI last r
theorem seen_done {l : List Int} {last : Int} (h : Seen l last []) (h2 : 2 ≤ l.length) (h21 : l.length ≤ 21) : isEdges l = decide (last ≤ 30000) := by
  unfold isEdges
  rw [h.1, h.2, decide_eq_true h2, decide_eq_true h21]; rfl
theorem seen_off {l : List Int} {last x : Int} {r : List Int} (h : Seen l last (x :: r)) (hx : x ≤ last) : isEdges l = false := by
  have : up (-1) l = false := by
    rw [h.1]; unfold up
    rw [decide_eq_false (by omega)]; rfl
  unfold isEdges; rw [this]; simp
theorem Seen.next {l : List Int} {last x : Int} {r : List Int} (h : Seen l last (x :: r)) (hx : last < x) : Seen l x r := by
  refine ⟨?_, h.2⟩
  rw [h.1]; simp only [up]; rw [decide_eq_true hx]; rfl
theorem bins_any {n : Nat} (hn : n ≤ maxLen) (a : Option Addr) (c : Nat) (w : World) :
    Calls Try.prog 33 #[.slice a n c] w fun e w' => e = .returned (.int .i64 ((n : Int) - 1)) ∧ w = w' := by
  unfold maxLen at hn
  have e1 : IntKind.i64.wrap ((n : Int) - 1) = (n : Int) - 1 := IntWalk.i64_in _ (by omega)
  go_enter Try.func33, Try.ntmps33
  go_wp2_with fail
  go_ret
  first | exact ⟨rfl, rfl⟩ | exact ⟨by rw [e1], rfl⟩

set_option maxHeartbeats 800000 in
theorem edgesValid_any {w : World} {v : Value} {l : List Int} (h : IRow w v l) :
    Calls Try.prog 32 #[v] w fun e w' => e = .returned (.bool (isEdges l)) ∧ w = w' := by
  obtain ⟨a, c, rfl, h1, h2, hlie⟩ := h.parts
  have hm : l.length ≤ maxLen := Nat.le_trans h1 h2
  unfold maxLen at h2
  have H := Lib.hid hlie
  clear h hlie
  by_cases c1 : l.length < 2
  · have R := Lib.hid (edges_not_len (.inl c1))
    have e1 : decide ((l.length : Int) - 1 < 1) = true := by simp; omega
    go_enter Try.func32, Try.ntmps32
    go_wp2_with fail
    refine (bins_any hm _ _ _).mono ?_
    rintro e w1 ⟨rfl, rfl⟩
    go_wp2_with fail
    go_ret
    exact ⟨by rw [R.out]; rfl, rfl⟩
  by_cases c2 : 21 < l.length
  · have R := Lib.hid (edges_not_len (.inr c2))
    have e1 : decide ((l.length : Int) - 1 < 1) = false := by simp; omega
    have e2 : decide ((20 : Int) < (l.length : Int) - 1) = true := by simp; omega
    go_enter Try.func32, Try.ntmps32
    go_wp2_with fail
    refine (bins_any hm _ _ _).mono ?_
    rintro e w1 ⟨rfl, rfl⟩
    go_wp2_with fail
    refine (bins_any hm _ _ _).mono ?_
    rintro e w1 ⟨rfl, rfl⟩
    go_wp2_with fail
    go_ret
    exact ⟨by rw [R.out]; rfl, rfl⟩
  have e1 : decide ((l.length : Int) - 1 < 1) = false := by simp; omega
  have e2 : decide ((20 : Int) < (l.length : Int) - 1) = false := by simp; omega
  go_enter Try.func32, Try.ntmps32
  go_wp2_with fail
  refine (bins_any hm _ _ _).mono ?_
  rintro e w1 ⟨rfl, rfl⟩
  go_wp2_with fail
  refine (bins_any hm _ _ _).mono ?_
  rintro e w1 ⟨rfl, rfl⟩
  go_wp2_with fail
  go_loopg [3, 16] l.length (fun k y x wr => ∃ (j : Nat) (p : Int), x = .int .i64 j ∧ y = .int .i64 p ∧ j + k = l.length ∧ Seen l p (l.drop j) ∧ w = wr)
  case atStart => exact ⟨0, -1, rfl, rfl, by omega, ⟨rfl, rfl⟩, rfl⟩
  case round =>
    obtain ⟨j, p, rfl, rfl, hk, hs, rfl⟩ := hrel
    have K := Lib.hid hk; have S := Lib.hid hs
    have hjl : j ≤ l.length := by omega
    clear hk hs
    by_cases hlt : j < l.length
    · obtain ⟨g, o, rfl, d1⟩ := ilies_cell H.out j hlt
      have hd : l.drop j = l[j] :: l.drop (j + 1) := List.drop_eq_getElem_cons hlt
      have S1 : Hid (Seen l p (l[j] :: l.drop (j + 1))) := Lib.hid (by have := S.out; rwa [hd] at this)
      clear hd
      by_cases q1 : l[j] ≤ p
      · have R := Lib.hid (seen_off S1.out q1)
        have d1 : decide (l[j] ≤ p) = true := by simpa using q1
        go_wp2_with fail
        go_ret
        exact ⟨by rw [R.out]; rfl, rfl⟩
      · have d1 : decide (l[j] ≤ p) = false := by simpa using q1
        have S2 := Lib.hid (S1.out.next (by omega))
        go_wp2_with fail
        go_roundg (gk - 1)
        case measure => have := K.out; omega
        case rel => exact ⟨j + 1, l[j], by go_num, rfl, by have := K.out; omega, S2.out, rfl⟩
    · have hj : j = l.length := by omega
      have S1 : Hid (Seen l p []) := Lib.hid (by have := S.out; rwa [hj, List.drop_length] at this)
      have R := Lib.hid (seen_done S1.out (by omega) (by omega))
      go_wp2_with fail
      go_ret
      exact ⟨by rw [R.out]; rfl, rfl⟩

/-- The least and the greatest number of a list. -/
def Least (l : List Int) (r : Int) : Prop := r ∈ l ∧ ∀ x ∈ l, r ≤ x
def Most (l : List Int) (r : Int) : Prop := r ∈ l ∧ ∀ x ∈ l, x ≤ r
theorem least_one (a : Int) : Least [a] a := ⟨by simp, by simp⟩
theorem most_one (a : Int) : Most [a] a := ⟨by simp, by simp⟩
theorem Least.next {l : List Int} {r a r' : Int} (h : Least l r) (e : r' = if a < r then a else r) : Least (l ++ [a]) r' := by
  subst e
  split
  · refine ⟨by simp, fun x hx => ?_⟩
    rcases List.mem_append.1 hx with q | q
    · have := h.2 x q; omega
    · simp at q; omega
  · refine ⟨List.mem_append.2 (.inl h.1), fun x hx => ?_⟩
    rcases List.mem_append.1 hx with q | q
    · exact h.2 x q
    · simp at q; omega
theorem Most.next {l : List Int} {r a r' : Int} (h : Most l r) (e : r' = if r < a then a else r) : Most (l ++ [a]) r' := by
  subst e
  split
  · refine ⟨by simp, fun x hx => ?_⟩
    rcases List.mem_append.1 hx with q | q
    · have := h.2 x q; omega
    · simp at q; omega
  · refine ⟨List.mem_append.2 (.inl h.1), fun x hx => ?_⟩
    rcases List.mem_append.1 hx with q | q
    · exact h.2 x q
    · simp at q; omega
theorem take_snoc {l : List Int} {j : Nat} (hj : j < l.length) : l.take j ++ [l[j]] = l.take (j + 1) := (List.take_succ_eq_append_getElem hj).symm
theorem amounts_least {m : List Int} {r : Int} (h : Least m r) (hr : r < 0) : amountsOk m = false := by
  cases k : amountsOk m
  · rfl
  · have := amountsOk_iff.1 k _ h.1; omega
theorem amounts_most {m : List Int} {r s : Int} (h : Least m r) (hr : 0 ≤ r) (k : Most m s) : amountsOk m = decide (s ≤ 10000) := by
  by_cases q : s ≤ 10000
  · rw [decide_eq_true q, amountsOk_iff]
    intro x hx
    have a := h.2 x hx; have b := k.2 x hx; omega
  · rw [decide_eq_false q]
    cases z : amountsOk m
    · rfl
    · have := amountsOk_iff.1 z _ k.1; omega

theorem min_any {w : World} {v : Value} {l : List Int} (h : IRow w v l) (h0 : 0 < l.length) :
    Calls Try.prog 48 #[v] w fun e w' => ∃ r, e = .returned (.int .i64 r) ∧ Least l r ∧ w = w' := by
  obtain ⟨g, o, c, rfl, k1, k2⟩ := h.known h0
  unfold maxLen at k2
  have R := Lib.hid h
  have c0 : w.cell? ⟨g, o, none⟩ = some (.int .i64 l[0]) := h.cells 0 h0
  have e1 : decide ((l.length : Int) < 1) = false := by simp; omega
  have e2 : (0 : Int) < (l.length : Int) := by omega
  clear h
  go_enter Try.func48, Try.ntmps48
  go_wp2_with fail
  go_loopg [3, 4] l.length (fun k y x wr => ∃ (j : Nat) (p : Int), x = .int .i64 j ∧ y = .int .i64 p ∧ j + k = l.length + 1 ∧ 1 ≤ j ∧ j ≤ l.length ∧ Least (l.take j) p ∧ w = wr)
  case atStart => exact ⟨1, l[0], rfl, rfl, by omega, by omega, by omega, by rw [List.take_one, List.head?_eq_getElem?, List.getElem?_eq_getElem h0]; exact least_one _, rfl⟩
  case round =>
    obtain ⟨j, p, rfl, rfl, hk, hj1, hjl, hs, rfl⟩ := hrel
    have K := Lib.hid hk; have S := Lib.hid hs
    clear hk hs c0
    by_cases hlt : j < l.length
    · have d1 := R.out.cells j hlt
      have i1 : (j : Int) < (l.length : Int) := by omega
      have i2 : (0 : Int) ≤ (j : Int) := by omega
      by_cases q : l[j] < p
      · go_wp2_with fail
        go_roundg (gk - 1)
        case measure => have := K.out; omega
        case rel => exact ⟨j + 1, _, by go_num, rfl, by have := K.out; omega, by omega, hlt, by rw [← take_snoc hlt]; exact S.out.next (if_pos q).symm, rfl⟩
      · go_wp2_with fail
        go_roundg (gk - 1)
        case measure => have := K.out; omega
        case rel => exact ⟨j + 1, _, by go_num, rfl, by have := K.out; omega, by omega, hlt, by rw [← take_snoc hlt]; exact S.out.next (if_neg (by omega)).symm, rfl⟩
    · have hj : j = l.length := by omega
      have S1 : Hid (Least l p) := Lib.hid (by have := S.out; rwa [hj, List.take_length] at this)
      go_wp2_with fail
      go_ret
      exact ⟨p, rfl, S1.out, rfl⟩
theorem max_any {w : World} {v : Value} {l : List Int} (h : IRow w v l) (h0 : 0 < l.length) :
    Calls Try.prog 49 #[v] w fun e w' => ∃ r, e = .returned (.int .i64 r) ∧ Most l r ∧ w = w' := by
  obtain ⟨g, o, c, rfl, k1, k2⟩ := h.known h0
  unfold maxLen at k2
  have R := Lib.hid h
  have c0 : w.cell? ⟨g, o, none⟩ = some (.int .i64 l[0]) := h.cells 0 h0
  have e1 : decide ((l.length : Int) < 1) = false := by simp; omega
  have e2 : (0 : Int) < (l.length : Int) := by omega
  clear h
  go_enter Try.func49, Try.ntmps49
  go_wp2_with fail
  go_loopg [3, 4] l.length (fun k y x wr => ∃ (j : Nat) (p : Int), x = .int .i64 j ∧ y = .int .i64 p ∧ j + k = l.length + 1 ∧ 1 ≤ j ∧ j ≤ l.length ∧ Most (l.take j) p ∧ w = wr)
  case atStart => exact ⟨1, l[0], rfl, rfl, by omega, by omega, by omega, by rw [List.take_one, List.head?_eq_getElem?, List.getElem?_eq_getElem h0]; exact most_one _, rfl⟩
  case round =>
    obtain ⟨j, p, rfl, rfl, hk, hj1, hjl, hs, rfl⟩ := hrel
    have K := Lib.hid hk; have S := Lib.hid hs
    clear hk hs c0
    by_cases hlt : j < l.length
    · have d1 := R.out.cells j hlt
      have i1 : (j : Int) < (l.length : Int) := by omega
      have i2 : (0 : Int) ≤ (j : Int) := by omega
      by_cases q : p < l[j]
      · go_wp2_with fail
        go_roundg (gk - 1)
        case measure => have := K.out; omega
        case rel => exact ⟨j + 1, _, by go_num, rfl, by have := K.out; omega, by omega, hlt, by rw [← take_snoc hlt]; exact S.out.next (if_pos q).symm, rfl⟩
      · go_wp2_with fail
        go_roundg (gk - 1)
        case measure => have := K.out; omega
        case rel => exact ⟨j + 1, _, by go_num, rfl, by have := K.out; omega, by omega, hlt, by rw [← take_snoc hlt]; exact S.out.next (if_neg (by omega)).symm, rfl⟩
    · have hj : j = l.length := by omega
      have S1 : Hid (Most l p) := Lib.hid (by have := S.out; rwa [hj, List.take_length] at this)
      go_wp2_with fail
      go_ret
      exact ⟨p, rfl, S1.out, rfl⟩
theorem length_any {w : World} {v : Value} {l : List Int} (h : IRow w v l) (he : isEdges l = true) {j : Nat} (hj : j + 1 < l.length) :
    Calls Try.prog 44 #[v, .int .i64 j] w fun e w' => ∃ r : Int, e = .returned (.int .i64 r) ∧ r = l[j + 1] - l[j] ∧ Below w.heap.size w w' := by
  obtain ⟨g, o, c, rfl, k1, k2⟩ := h.known (by omega)
  unfold maxLen at k2
  have c0 := h.cells j (by omega)
  have c1 := h.cells (j + 1) hj
  have r0 := edges_range he j (by omega)
  have r1 := edges_range he (j + 1) hj
  have e0 : IntKind.i64.wrap ((j : Int) + 1) = (j : Int) + 1 := IntWalk.i64_in _ (by omega)
  have e1 : IntKind.i64.wrap (l[j + 1] - l[j]) = l[j + 1] - l[j] := IntWalk.i64_in _ (by omega)
  have i1 : (j : Int) < (l.length : Int) := by omega
  have i2 : (0 : Int) ≤ (j : Int) := by omega
  have i3 : (j : Int) + 1 < (l.length : Int) := by omega
  have i4 : ((j : Int) + 1).toNat = j + 1 := by omega
  have i5 : (0 : Int) ≤ (j : Int) + 1 := by omega
  clear h
  go_enter Try.func44, Try.ntmps44
  go_wp2_with fail
  go_quiet (fail)
  go_wp2_with fail
  go_ret
  exact ⟨_, rfl, by first | rfl | exact e1, below_drews (Below.refl _ _) _⟩
theorem common_any {w : World} {v : Value} {l : List Int} (h : IRow w v l) (he : isEdges l = true) {j : Nat} (hj : j + 1 < l.length) {t u : Int} (t0 : 0 ≤ t) (t1 : t ≤ 30000) (u0 : 0 ≤ u) (u1 : u ≤ 30000) :
    Calls Try.prog 43 #[v, .int .i64 j, .int .i64 t, .int .i64 u] w fun e w' => ∃ r : Int, e = .returned (.int .i64 r) ∧ r = common t u l[j] l[j + 1] ∧ Below w.heap.size w w' := by
  obtain ⟨g, o, c, rfl, k1, k2⟩ := h.known (by omega)
  unfold maxLen at k2
  have c0 := h.cells j (by omega)
  have c1 := h.cells (j + 1) hj
  have r0 := edges_range he j (by omega)
  have r1 := edges_range he (j + 1) hj
  have e0 : IntKind.i64.wrap ((j : Int) + 1) = (j : Int) + 1 := IntWalk.i64_in _ (by omega)
  have i1 : (j : Int) < (l.length : Int) := by omega
  have i2 : (0 : Int) ≤ (j : Int) := by omega
  have i3 : (j : Int) + 1 < (l.length : Int) := by omega
  have i4 : ((j : Int) + 1).toNat = j + 1 := by omega
  have i5 : (0 : Int) ≤ (j : Int) + 1 := by omega
  obtain ⟨x, hx⟩ : ∃ x : Int, (if u < l[j + 1] then u else l[j + 1]) = x := ⟨_, rfl⟩
  obtain ⟨y, hy⟩ : ∃ y : Int, (if l[j] < t then t else l[j]) = y := ⟨_, rfl⟩
  have e1 : IntKind.i64.wrap (x - y) = x - y := IntWalk.i64_in _ (by rw [← hx, ← hy]; split <;> split <;> omega)
  obtain ⟨z, hz⟩ : ∃ z : Int, (if y < x then x - y else 0) = z := ⟨_, rfl⟩
  have HZ : Hid (z = common t u l[j] l[j + 1]) := Lib.hid (by
    rw [← hz, ← hx, ← hy]; unfold common
    split <;> split <;> split <;> omega)
  clear h
  go_enter Try.func43, Try.ntmps43
  go_wp2_with fail
  go_region_held3 (fun w' => w'.cell? ⟨g, o + j, none⟩ = some (.int .i64 l[j]) ∧ w'.cell? ⟨g, o + (j + 1), none⟩ = some (.int .i64 l[j + 1])) (first | go_keep) (fail)
  all_goals
    go_wp2_with fail
    go_ret
    exact ⟨z, rfl, HZ.out, (Below.refl _ _).drew⟩

/-- A record as the program passes it: its edges and its amounts. -/
def Rec (w : World) (v u : Value) (l m : List Int) : Prop := IRow w v l ∧ IRow w u m
theorem Rec.grow {w w' : World} {v u : Value} {l m : List Int} (h : Rec w v u l m) (k : Below w.heap.size w w') : Rec w' v u l m := ⟨h.1.grow k, h.2.grow k⟩

theorem made_drews (w : World) (c : Array Value) (t : TypeId) (n : Nat) : Below w.heap.size w ((w.alloc (.cells c t)).drewN n) := below_drews ((Below.refl _ _).alloc (Nat.le_refl _) _) n
set_option maxHeartbeats 800000 in
theorem recValid_any {w : World} {v u : Value} {l m : List Int} (h : Rec w v u l m) :
    Calls Try.prog 35 #[.agg #[v, u]] w fun e w' => e = .returned (.bool (isRec l m)) ∧ Below w.heap.size w w' := by
  obtain ⟨a, c, rfl, h1, h2⟩ := h.1.len
  obtain ⟨a', c', rfl, h1', h2'⟩ := h.2.len
  have hm : l.length ≤ maxLen := Nat.le_trans h1 h2
  have H := Lib.hid h
  unfold maxLen at h2 h2'
  clear h
  cases he : isEdges l
  · have HE := Lib.hid he
    have R := Lib.hid (rec_not_edges (m := m) he)
    clear he
    go_enter Try.func35, Try.ntmps35
    go_wp2_with fail
    go_quiet ((go_at_call 32; refine Calls.quiet_of_same ((edgesValid_any (H.out.1.grow (made_drews w _ _ _))).mono fun _ _ h => ⟨by rw [h.1, HE.out], h.2.symm⟩)))
    go_wp2_with fail
    go_ret
    exact ⟨by rw [R.out]; rfl, made_drews w _ _ _⟩
  · have HE := Lib.hid he
    clear he
    by_cases hn : l.length = m.length + 1
    rotate_left
    · have R := Lib.hid (rec_not_len hn)
      have d1 : ((m.length : Int) == (l.length : Int) - 1) = false := by simp; omega
      go_enter Try.func35, Try.ntmps35
      go_wp2_with fail
      go_quiet (first | (go_at_call 32; refine Calls.quiet_of_same ((edgesValid_any (H.out.1.grow (made_drews w _ _ _))).mono fun _ _ h => ⟨by rw [h.1, HE.out], h.2.symm⟩)) | (go_at_call 33; refine Calls.quiet_of_same ((bins_any hm _ _ _).mono fun _ _ h => ⟨h.1, h.2.symm⟩)))
      go_wp2_with fail
      go_ret
      exact ⟨by rw [R.out]; rfl, made_drews w _ _ _⟩
    · have d1 : ((m.length : Int) == (l.length : Int) - 1) = true := by simp; omega
      have h0 : 0 < m.length := by have := isEdges_len HE.out; omega
      have HN := Lib.hid hn
      have R0 : Hid (isRec l m = amountsOk m) := Lib.hid (by unfold isRec; rw [HE.out, decide_eq_true HN.out]; rfl)
      clear hn
      go_enter Try.func35, Try.ntmps35
      go_wp2_with fail
      go_quiet (first | (go_at_call 32; refine Calls.quiet_of_same ((edgesValid_any (H.out.1.grow (made_drews w _ _ _))).mono fun _ _ h => ⟨by rw [h.1, HE.out], h.2.symm⟩)) | (go_at_call 33; refine Calls.quiet_of_same ((bins_any hm _ _ _).mono fun _ _ h => ⟨h.1, h.2.symm⟩)))
      go_wp2_with fail
      refine (min_any (H.out.2.grow (made_drews w _ _ _)) h0).mono ?_
      rintro e w1 ⟨r, rfl, hr, rfl⟩
      have HR := Lib.hid hr
      clear hr
      by_cases q : r < 0
      · have d2 : decide (0 ≤ r) = false := by simp; omega
        have R := Lib.hid (amounts_least HR.out q)
        go_wp2_with fail
        go_ret
        exact ⟨by rw [R0.out, R.out]; rfl, made_drews w _ _ _⟩
      · have d2 : decide (0 ≤ r) = true := by simp; omega
        go_wp2_with fail
        refine (max_any (H.out.2.grow (made_drews w _ _ _)) h0).mono ?_
        rintro e w1 ⟨s, rfl, hs, rfl⟩
        have R := Lib.hid (amounts_most HR.out (by omega) hs)
        clear hs
        go_wp2_with fail
        go_ret
        exact ⟨by rw [R0.out, R.out]; rfl, made_drews w _ _ _⟩

/-- At a return of a record that lies in a result's block (slot s) and of a word (slot s + 1). -/
theorem back_rec (s : Nat) {fn : Func} (hf : fn.results = #[.cell s 48, .tmp (s + 1)]) {a : Act} {w : World} {k : Nat} {x y b : Value} {R : Ending → World → Prop}
    (h4 : a.tmps.getD s undef = .pointer (some ⟨k, 0, none⟩)) (h5 : a.tmps.getD (s + 1) undef = b) (c0 : w.cell? ⟨k, 0, none⟩ = some x) (c1 : w.cell? ⟨k, 1, none⟩ = some y)
    (hd : a.defers = []) (hR : R (.returned (.tuple #[.agg #[x, y], b])) w) : bodyPost Try.prog fn R .ret a w := by
  rw [Array.getD_eq_getD_getElem?] at h4 h5
  refine bodyPost_ret (v := .tuple #[.agg #[x, y], b]) ?_ hd hR
  simp [results, hf, go_sem, h4, h5, c0, c1]
/-- .. of a fraction. -/
theorem back_frac (s : Nat) {fn : Func} (hf : fn.results = #[.cell s 24, .tmp (s + 1)]) {a : Act} {w : World} {k : Nat} {x y b : Value} {R : Ending → World → Prop}
    (h4 : a.tmps.getD s undef = .pointer (some ⟨k, 0, none⟩)) (h5 : a.tmps.getD (s + 1) undef = b) (c0 : w.cell? ⟨k, 0, none⟩ = some x) (c1 : w.cell? ⟨k, 1, none⟩ = some y)
    (hd : a.defers = []) (hR : R (.returned (.tuple #[.agg #[x, y], b])) w) : bodyPost Try.prog fn R .ret a w := by
  rw [Array.getD_eq_getD_getElem?] at h4 h5
  refine bodyPost_ret (v := .tuple #[.agg #[x, y], b]) ?_ hd hR
  simp [results, hf, go_sem, h4, h5, c0, c1]
/-- What recordOf comes to. -/
def RecOf (w : World) (v u : Value) (b : Bool) (e : Ending) (w' : World) : Prop := e = .returned (.tuple #[.agg #[v, u], .bool b]) ∧ Below w.heap.size w w'
theorem recordOf_any {w : World} {v u : Value} {l m : List Int} (h : Rec w v u l m) :
    Calls Try.prog 29 #[v, u] w fun e w' => RecOf w v u (isRec l m) e w' := by
  obtain ⟨a, c, rfl, h1, h2⟩ := h.1.len
  obtain ⟨a', c', rfl, h1', h2'⟩ := h.2.len
  have H := Lib.hid h
  clear h
  go_enter Try.func29, Try.ntmps29
  go_wp2_with fail
  go_region_held3 (fun w' => w'.cell? ⟨w.heap.size + 1, 0, none⟩ = some (.slice a l.length c) ∧ w'.cell? ⟨w.heap.size + 1, 1, none⟩ = some (.slice a' m.length c'))
    (first | go_keep | (go_split_ands; exact held2 hb1 ‹_› ‹_›))
    ((go_at_call 35; refine (recValid_any (H.out.grow (by go_grown))).mono ?_; rintro e w1 ⟨rfl, hb1⟩; obtain ⟨r0, r1, r2, r3⟩ := below_two w.heap.size (.slice none 0 0) (.slice none 0 0) hb1 (by go_cell) (by go_cell) (by go_simp) (by go_simp)))
  have B1 : Hid (Below w.heap.size w w1) := Lib.hid (Below.trans (by go_grown) (hb1.mono (by go_size)))
  clear hb1
  go_wp2_with fail
  refine back_rec 4 rfl rfl rfl (stored0 _ _ r0) (stored1 _ _ r1) rfl ?_
  exact ⟨rfl, by have := B1.out; go_grown⟩

theorem recOf_is {w : World} {v u : Value} {l m : List Int} {b : Bool} (h : Rec w v u l m) (hb : isRec l m = b) : Calls Try.prog 29 #[v, u] w fun e w' => RecOf w v u b e w' := by
  have := recordOf_any h
  rwa [hb] at this
end Go.Proofs.Ytkcbgeldnibjcac
