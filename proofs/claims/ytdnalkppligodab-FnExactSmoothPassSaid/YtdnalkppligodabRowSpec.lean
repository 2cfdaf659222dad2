/- The contracts of the model's functions on rows. -/
import Derived.Test.YtdnalkppligodabInts
import Derived.Test.YtdnalkppligodabGcd
import Derived.Test.YtdnalkppligodabSmoothLaw
import Derived.Test.YtdnalkppligodabStepI
namespace Go.Proofs.Ytdnalkppligodab
open Go.RowKit

theorem intT : IntT 23 := Try.underlying23
theorem row_no {l : List Int} {j : Nat} (hj : j < l.length) (h : isIn l[j] (-10000) 10000 = false) : isRow l = false := by
  cases k : isRow l
  · rfl
  · have := (isRow_iff.1 k).2.2 _ (List.getElem_mem hj)
    rw [isIn_yes this.1 this.2] at h; cases h
theorem row_is {l : List Int} (h : ∀ i (hi : i < l.length), isIn l[i] (-10000) 10000 = true) : isRow l = isIn (l.length : Int) 1 20 := by
  have hall : ∀ x ∈ l, -10000 ≤ x ∧ x ≤ 10000 := fun x hx => by
    obtain ⟨i, hi, rfl⟩ := List.getElem_of_mem hx
    have := h i hi; unfold isIn at this; exact of_decide_eq_true this
  cases k : isIn (l.length : Int) 1 20
  · cases q : isRow l
    · rfl
    · have := isRow_iff.1 q
      rw [isIn_yes (by omega) (by omega)] at k; cases k
  · have := of_decide_eq_true k
    exact isRow_iff.2 ⟨by omega, by omega, hall⟩
set_option maxHeartbeats 800000 in
theorem specRow_any {w : World} {v : Value} {l : List Int} (h : IRow w v l) :
    Calls Try.prog 38 #[v] w fun e w' => e = .returned (.bool (isRow l)) ∧ w = w' := by
  obtain ⟨a, c, rfl, h1, h2, hlie⟩ := h.parts
  have H := Lib.hid hlie
  unfold maxLen at h2
  clear h hlie
  go_enter Try.func38, Try.ntmps38
  go_wp2_with fail
  go_loopg [3] l.length (fun k x wr => ∃ j : Nat, x = .int .i64 j ∧ j + k = l.length ∧ (∀ i (hi : i < l.length), i < j → isIn l[i] (-10000) 10000 = true) ∧ w = wr)
  case atStart => exact ⟨0, rfl, by omega, fun i _ h => by omega, rfl⟩
  case round =>
    obtain ⟨j, rfl, hk, hs, rfl⟩ := hrel
    have K := Lib.hid hk; have S := Lib.hid hs
    have hjl : j ≤ l.length := by omega
    clear hk hs
    by_cases hlt : j < l.length
    · obtain ⟨g, o, rfl, d1⟩ := ilies_cell H.out j hlt
      have i0 : (0 : Int) ≤ (j : Int) := by omega
      have i1 : (j : Int) < (l.length : Int) := by omega
      cases hx : isIn l[j] (-10000) 10000
      · have HX := Lib.hid hx
        have R := Lib.hid (row_no hlt hx)
        clear hx
        go_wp2_with fail
        refine (l6In_any _ _ _ _).mono ?_
        rintro e w1 ⟨rfl, rfl⟩
        rw [HX.out]
        go_wp2_with fail
        go_ret
        exact ⟨by rw [R.out]; rfl, rfl⟩
      · have HX := Lib.hid hx
        clear hx
        go_wp2_with fail
        refine (l6In_any _ _ _ _).mono ?_
        rintro e w1 ⟨rfl, rfl⟩
        rw [HX.out]
        go_wp2_with fail
        go_roundg (gk - 1)
        case measure => have := K.out; omega
        case rel => exact ⟨j + 1, by go_num, by have := K.out; omega, fun i hi hij => by
          by_cases e : i = j
          · subst e; exact HX.out
          · exact S.out i hi (by omega), rfl⟩
    · have R := Lib.hid (row_is (l := l) fun i hi => S.out i hi (by omega))
      go_wp2_with fail
      refine (l6In_any _ _ _ _).mono ?_
      rintro e w1 ⟨rfl, rfl⟩
      go_wp2_with fail
      go_ret
      exact ⟨by rw [R.out]; rfl, rfl⟩
theorem rowS_is {w : World} {v : Value} {l : List Int} {b : Bool} (h : IRow w v l) (hb : isRow l = b) : Calls Try.prog 38 #[v] w fun e w' => e = .returned (.bool b) ∧ w = w' := by
  have := specRow_any h
  rwa [hb] at this
set_option maxHeartbeats 1600000 in
theorem specPass_any {w : World} {v : Value} {l : List Int} (h : IRow w v l) (hb : ∀ x ∈ l, -655360000 ≤ x ∧ x ≤ 655360000) (h20 : l.length ≤ 20) :
    Calls Try.prog 43 #[v] w fun e w' => ILst w (pass l) e w' := by
  obtain ⟨a, c, rfl, h1, h2, hlie⟩ := h.parts
  have H := Lib.hid h; have HB := Lib.hid hb
  unfold maxLen at h2
  have O0 := Lib.hid (iown_new (Nat.le_refl w.heap.size))
  have B0 := Lib.hid ((Below.refl w.heap.size w).alloc (Nat.le_refl _) (.cells #[] 3))
  clear h hlie hb
  go_enter Try.func43, Try.ntmps43
  go_wp2_with fail
  go_loopg [3, 4] l.length (fun k y x wr => ∃ j : Nat, x = .int .i64 j ∧ j + k = l.length ∧ IOwn wr w.heap.size y ((List.range j).map (passAt l)) ∧ Below w.heap.size w wr)
  case atStart => exact ⟨0, rfl, by omega, O0.out, B0.out⟩
  case round =>
    obtain ⟨j, rfl, hk, ho, hbl⟩ := hrel
    have K := Lib.hid hk; have O := Lib.hid ho; have B := Lib.hid hbl
    have hjl : j ≤ l.length := by omega
    have hsz := hbl.size
    clear hk ho hbl
    by_cases hlt : j < l.length
    · obtain ⟨g, o, cc, e', _, _⟩ := H.out.known (by omega)
      simp only [Value.slice.injEq] at e'
      obtain ⟨rfl, -, rfl⟩ := e'
      have R := H.out.grow B.out
      have d0 := R.cells (j - 1) (by omega)
      have d1 := R.cells j hlt
      have d2 := R.cells (min (l.length - 1) (j + 1)) (by omega)
      have b0 := HB.out _ (List.getElem_mem (show j - 1 < l.length by omega))
      have b1 := HB.out _ (List.getElem_mem hlt)
      have b2 := HB.out _ (List.getElem_mem (show min (l.length - 1) (j + 1) < l.length by omega))
      have PA := passAt_is hlt
      obtain ⟨p, hp⟩ : ∃ p : Nat, j - 1 = p := ⟨_, rfl⟩
      obtain ⟨q, hq⟩ : ∃ q : Nat, min (l.length - 1) (j + 1) = q := ⟨_, rfl⟩
      simp only [hp, hq] at d0 d2 b0 b2 PA
      obtain ⟨x0, hx0⟩ : ∃ x : Int, l[p]'(by omega) = x := ⟨_, rfl⟩
      obtain ⟨x1, hx1⟩ : ∃ x : Int, l[j] = x := ⟨_, rfl⟩
      obtain ⟨x2, hx2⟩ : ∃ x : Int, l[q]'(by omega) = x := ⟨_, rfl⟩
      rw [hx0] at d0 b0 PA; rw [hx1] at d1 b1 PA; rw [hx2] at d2 b2 PA
      obtain ⟨z, hz⟩ : ∃ x : Int, passAt l j = x := ⟨_, rfl⟩
      rw [hz] at PA
      have HZ := Lib.hid hz
      have i0 : (0 : Int) ≤ (j : Int) := by omega
      have i1 : (j : Int) < (l.length : Int) := by omega
      have i2 : (0 : Int) ≤ (p : Int) := by omega
      have i3 : (p : Int) < (l.length : Int) := by omega
      have i4 : (0 : Int) ≤ (q : Int) := by omega
      have i5 : (q : Int) < (l.length : Int) := by omega
      have e1 : IntKind.i64.wrap ((j : Int) - 1) = (j : Int) - 1 := IntWalk.i64_in _ (by omega)
      have e2 : (if (1 : Int) < (j : Int) then (j : Int) - 1 else 0) = (p : Int) := by split <;> omega
      have e3 : IntKind.i64.wrap ((l.length : Int) - 1) = (l.length : Int) - 1 := IntWalk.i64_in _ (by omega)
      have e4 : IntKind.i64.wrap ((j : Int) + 1) = (j : Int) + 1 := IntWalk.i64_in _ (by omega)
      have e5 : (if (j : Int) + 1 < (l.length : Int) - 1 then (j : Int) + 1 else (l.length : Int) - 1) = (q : Int) := by split <;> omega
      have e6 : IntKind.i64.wrap (2 * x1) = 2 * x1 := IntWalk.i64_in _ (by omega)
      have e7 : IntKind.i64.wrap (x0 + 2 * x1) = x0 + 2 * x1 := IntWalk.i64_in _ (by omega)
      have e8 : IntKind.i64.wrap (x0 + 2 * x1 + x2) = z := by rw [PA]; exact IntWalk.i64_in _ (by omega)
      clear R hx0 hx1 hx2 hz hp hq PA b0 b1 b2
      have hgW : g < w.heap.size := cell_below (H.out.cells 0 (by omega))
      have mkS : ∀ w' : World, Below w.heap.size wr w' → (Below w.heap.size wr w' ∧ w'.cell? ⟨g, o + p, none⟩ = some (.int .i64 x0) ∧ w'.cell? ⟨g, o + j, none⟩ = some (.int .i64 x1) ∧ w'.cell? ⟨g, o + q, none⟩ = some (.int .i64 x2)) :=
        fun w' b => ⟨b, (b.cell (p := ⟨g, o + p, none⟩) hgW).trans d0, (b.cell (p := ⟨g, o + j, none⟩) hgW).trans d1, (b.cell (p := ⟨g, o + q, none⟩) hgW).trans d2⟩
      have keep0 := mkS _ (Below.refl w.heap.size wr).drew
      have keepA := mkS _ ((Below.refl w.heap.size wr).alloc hsz (.cells #[.int .i64 z] 3)).drew
      have hown := O.out.lt
      go_wp2_with fail
      go_region_held3 (fun w' => Below w.heap.size wr w' ∧ w'.cell? ⟨g, o + p, none⟩ = some (.int .i64 x0) ∧ w'.cell? ⟨g, o + j, none⟩ = some (.int .i64 x1) ∧ w'.cell? ⟨g, o + q, none⟩ = some (.int .i64 x2))
        (first | (with_reducible exact keep0) | (with_reducible exact keepA) | exact mkS _ (Below.grown keepA.1 hgrow (by simp; omega) (fun k hk => (hown k hk).1)))
        ((refine step_iappend_list intT (by rfl) _ _ (by rfl) (B := w.heap.size) _ _ (by rfl) (O.out.grow (by go_grown)) ⟨wr.heap.size, 0, none⟩ 1 1 [z] (by rfl) rfl (rests_one (by go_cell)) (by simp; omega) (by simp; omega) ?_; intro v5 w5 hown5 hgrow))
      all_goals
        have O5 : Hid (IOwn w5 w.heap.size v5 ((List.range (j + 1)).map (passAt l))) := Lib.hid (by rw [← pass_take, HZ.out]; exact hown5)
        have B5 := Lib.hid (B.out.trans (Below.grown keepA.1 hgrow (by simp; omega) (fun k hk => (hown k hk).1)))
        clear hown5 hgrow hown keep0 keepA mkS
        go_wp2_with fail
        go_roundg (gk - 1)
        case measure => have := K.out; omega
        case rel => exact ⟨j + 1, by go_num, by have := K.out; omega, O5.out, B5.out⟩
    · have hj : j = l.length := by omega
      go_wp2_with fail
      go_ret
      refine ⟨_, rfl, ?_, B.out⟩
      have := O.out
      rwa [hj] at this
/-- A list of numbers of the call's own, or none. -/
def ListB (w : World) (o : Option (List Int)) (e : Ending) (w' : World) : Prop :=
  ∃ v, e = .returned (.tuple #[v, .bool o.isSome]) ∧ IOwn w' w.heap.size v (o.getD []) ∧ Below w.heap.size w w'
theorem listB_no {w w1 : World} {o : Option (List Int)} (h : o = none) (B : Below w.heap.size w w1) :
    ListB w o (.returned (.tuple #[.slice (some ⟨w1.heap.size, 0, none⟩) 0 0, .bool false])) (w1.alloc (.cells #[] 3)) := by
  subst h
  exact ⟨_, rfl, iown_new B.size, B.alloc B.size _⟩
theorem row_small {l : List Int} (h : isRow l = true) : (∀ x ∈ l, -655360000 ≤ x ∧ x ≤ 655360000) ∧ l.length ≤ 20 := by
  obtain ⟨h1, h2, h3⟩ := isRow_iff.1 h
  exact ⟨fun x hx => by have := h3 x hx; omega, h2⟩
theorem passOf_no {l : List Int} (h : isRow l = false) : passOf l = none := if_neg (by rw [h]; simp)
theorem passOf_yes {l : List Int} (h : isRow l = true) : passOf l = some (pass l) := if_pos h
theorem specSmoothPass_any {w : World} {v : Value} {l : List Int} (h : IRow w v l) :
    Calls Try.prog 24 #[v] w fun e w' => ListB w (passOf l) e w' := by
  have H := Lib.hid h
  obtain ⟨a, c, rfl, _, _⟩ := h.len
  clear h
  cases hr : isRow l
  · have HR := Lib.hid hr
    have T := Lib.hid (passOf_no hr)
    clear hr
    go_enter Try.func24, Try.ntmps24
    go_wp2_with fail
    refine (rowS_is H.out HR.out).mono ?_
    rintro e w1 ⟨rfl, rfl⟩
    go_wp2_with fail
    go_ret2
    exact listB_no T.out (Below.refl _ _)
  · have HR := Lib.hid hr
    have T := Lib.hid (passOf_yes hr)
    clear hr
    go_enter Try.func24, Try.ntmps24
    go_wp2_with fail
    refine (rowS_is H.out HR.out).mono ?_
    rintro e w1 ⟨rfl, rfl⟩
    go_wp2_with fail
    refine (specPass_any H.out (row_small HR.out).1 (row_small HR.out).2).mono ?_
    rintro e w1 ⟨v1, rfl, o1, b1⟩
    have O1 := Lib.hid o1; have B1 := Lib.hid b1
    clear o1 b1
    go_wp2_with fail
    go_ret2
    rw [T.out]
    exact ⟨_, rfl, O1.out, B1.out⟩
theorem manyOf_no {l : List Int} {n : Int} (h : isRow l = false ∨ isIn n 0 8 = false) : manyOf l n = none := by
  unfold manyOf
  rw [if_neg]
  intro k
  obtain ⟨k1, k2, k3⟩ := manyOk_iff.1 k
  rcases h with h | h
  · rw [h] at k1; cases k1
  · rw [isIn_yes k2 k3] at h; cases h
theorem manyOf_yes {l : List Int} {n : Nat} (h : isRow l = true) (hn : n ≤ 8) : manyOf l (n : Int) = some (passN n l) := by
  unfold manyOf
  rw [if_pos (manyOk_iff.2 ⟨h, by omega, by omega⟩)]
  simp
theorem in_many {n : Int} (h : isIn n 0 8 = true) : ∃ k : Nat, n = k ∧ k ≤ 8 := by
  unfold isIn at h
  have := of_decide_eq_true h
  exact ⟨n.toNat, by omega, by omega⟩
set_option maxHeartbeats 800000 in
theorem specSmoothMany_any {w : World} {v : Value} {l : List Int} (n : Int) (h : IRow w v l) :
    Calls Try.prog 28 #[v, .int .i64 n] w fun e w' => ListB w (manyOf l n) e w' := by
  have H := Lib.hid h
  cases hr : isRow l
  · obtain ⟨a, c, rfl, _, _⟩ := h.len
    have HR := Lib.hid hr
    have T := Lib.hid (manyOf_no (n := n) (.inl hr))
    clear hr h
    go_enter Try.func28, Try.ntmps28
    go_wp2_with fail
    refine (rowS_is H.out HR.out).mono ?_
    rintro e w1 ⟨rfl, rfl⟩
    go_wp2_with fail
    go_ret2
    exact listB_no T.out (Below.refl _ _)
  have HR := Lib.hid hr
  have hlen := (isRow_iff.1 hr).1
  have h20 := (isRow_iff.1 hr).2.1
  obtain ⟨g, o, c, rfl, hc, hcm⟩ := h.known (by omega)
  unfold maxLen at hcm
  clear h hr
  cases hi : isIn n 0 8
  · have HI := Lib.hid hi
    have T := Lib.hid (manyOf_no (l := l) (.inr hi))
    clear hi
    go_enter Try.func28, Try.ntmps28
    go_wp2_with fail
    refine (rowS_is H.out HR.out).mono ?_
    rintro e w1 ⟨rfl, rfl⟩
    go_wp2_with fail
    refine (l6In_any _ _ _ _).mono ?_
    rintro e w1 ⟨rfl, rfl⟩
    rw [HI.out]
    go_wp2_with fail
    go_ret2
    exact listB_no T.out (Below.refl _ _)
  have HI := Lib.hid hi
  obtain ⟨m, rfl, hm8⟩ := in_many hi
  clear hi
  have T := Lib.hid (manyOf_yes HR.out hm8)
  go_enter Try.func28, Try.ntmps28
  go_wp2_with fail
  refine (rowS_is H.out HR.out).mono ?_
  rintro e w1 ⟨rfl, rfl⟩
  go_wp2_with fail
  refine (l6In_any _ _ _ _).mono ?_
  rintro e w1 ⟨rfl, rfl⟩
  rw [HI.out]
  have BA := Lib.hid ((Below.refl w.heap.size w).alloc (Nat.le_refl _) (.cells #[] 3))
  have TA := Lib.hid (rests_row (H.out.grow BA.out))
  go_wp2_with (at_builtin; refine iappend_list intT rfl _ _ rfl (B := w.heap.size) _ [] rfl (iown_empty (W := w) Array.getElem?_push_size (Nat.le_refl _)) ⟨g, o, none⟩ l.length c l rfl rfl TA.out (by simp; omega) (by simp) ?_; intro v5 w5 hown5 hg5)
  rw [List.nil_append] at hown5
  have O5 := Lib.hid hown5
  have B5 : Hid (Below w.heap.size w w5) := Lib.hid (Below.grown BA.out hg5 BA.out.size (fun k hk => Nat.le_of_eq (Option.some.inj hk)))
  clear hown5 hg5 TA BA
  go_wp2_with fail
  go_loopg [6, 7] m (fun k y x wr => ∃ j : Nat, x = .int .i64 j ∧ j + k = m ∧ IOwn wr w.heap.size y (passN j l) ∧ Below w.heap.size w wr)
  case atStart => exact ⟨0, rfl, by omega, O5.out, B5.out⟩
  case round =>
    obtain ⟨j, rfl, hk, ho, hbl⟩ := hrel
    have K := Lib.hid hk; have O := Lib.hid ho; have B := Lib.hid hbl
    have hjl : j ≤ m := by omega
    clear hk ho hbl
    by_cases hlt : j < m
    · have i1 : (j : Int) < (m : Int) := by omega
      go_wp2_with fail
      refine (specPass_any O.out.row (row_passN HR.out (by omega)) (by rw [passN_length]; exact h20)).mono ?_
      rintro e w2 ⟨v2, rfl, o2, b2⟩
      have O2 : Hid (IOwn w2 w.heap.size v2 (passN (j + 1) l)) := Lib.hid (o2.mono B.out.size)
      have B2 := Lib.hid (B.out.trans (b2.mono B.out.size))
      clear o2 b2
      go_wp2_with fail
      go_roundg (gk - 1)
      case measure => have := K.out; omega
      case rel => exact ⟨j + 1, by go_num, by have := K.out; omega, O2.out, B2.out⟩
    · have hj : j = m := by omega
      have i1 : ¬ (j : Int) < (m : Int) := by omega
      go_wp2_with fail
      go_ret2
      rw [T.out]
      refine ⟨_, rfl, ?_, B.out⟩
      have := O.out
      rwa [hj] at this
end Go.Proofs.Ytdnalkppligodab
