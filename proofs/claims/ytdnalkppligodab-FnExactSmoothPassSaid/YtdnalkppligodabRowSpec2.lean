/- The contracts of the model's functions on rows: sums, roughness, ranges. -/
import Derived.Test.YtdnalkppligodabRowSpec
namespace Go.Proofs.Ytdnalkppligodab
open Go.RowKit

theorem take_sum_step {l : List Int} {j : Nat} (hj : j < l.length) : (l.take (j + 1)).sum = (l.take j).sum + l[j] := by
  rw [List.take_succ_eq_append_getElem hj, List.sum_append]; simp
theorem take_fold {l : List Int} {j : Nat} (f : Int → Int → Int) (a : Int) (hj : j < l.length) : (l.take (j + 1)).foldl f a = f ((l.take j).foldl f a) l[j] := by
  rw [List.take_succ_eq_append_getElem hj, List.foldl_append]; rfl
theorem rough_take_bound {l : List Int} (h : isRow l = true) (j : Nat) : 0 ≤ roughL (l.take j) ∧ roughL (l.take j) ≤ 400000 := by
  obtain ⟨h1, h2, h3⟩ := isRow_iff.1 h
  have := rough_bound (l := l.take j) (c := 10000) fun x hx => h3 x (List.mem_of_mem_take hx)
  have := rough_nonneg (l.take j)
  have := List.length_take_le' j l
  omega
theorem rough_all_bound {l : List Int} (h : isRow l = true) : 0 ≤ roughL l ∧ roughL l ≤ 400000 := by
  have := rough_take_bound h l.length
  rwa [List.take_length] at this
/-- A number, or none. -/
def NumB (o : Option Int) (e : Ending) : Prop := e = .returned (.tuple #[.int .i64 (o.getD 0), .bool o.isSome])
def RangeB (o : Option (Int × Int)) (e : Ending) : Prop := e = .returned (.tuple #[.int .i64 (o.getD (0, 0)).1, .int .i64 (o.getD (0, 0)).2, .bool o.isSome])
theorem sumOk_no {l : List Int} (h : isRow l = false) : sumOk l = none := if_neg (by rw [h]; simp)
theorem sumOk_yes {l : List Int} (h : isRow l = true) : sumOk l = some l.sum := if_pos h
theorem roughOk_no {l : List Int} (h : isRow l = false) : roughOk l = -1 := if_neg (by rw [h]; simp)
theorem roughOk_yes {l : List Int} (h : isRow l = true) : roughOk l = roughL l := if_pos h
theorem rangeOk_no {l : List Int} (h : isRow l = false) : rangeOk l = none := if_neg (by rw [h]; simp)
theorem rangeOk_yes {l : List Int} (h : isRow l = true) : rangeOk l = some (lowL l, highL l) := if_pos h
set_option maxHeartbeats 800000 in
theorem specSmoothSum_any {w : World} {v : Value} {l : List Int} (h : IRow w v l) :
    Calls Try.prog 14 #[v] w fun e w' => NumB (sumOk l) e ∧ w = w' := by
  obtain ⟨a, c, rfl, h1, h2, hlie⟩ := h.parts
  have H := Lib.hid h; have HL := Lib.hid hlie
  unfold maxLen at h2
  clear h hlie
  cases hr : isRow l
  · have HR := Lib.hid hr
    have T := Lib.hid (sumOk_no hr)
    clear hr
    go_enter Try.func14, Try.ntmps14
    go_wp2_with fail
    refine (rowS_is H.out HR.out).mono ?_
    rintro e w1 ⟨rfl, rfl⟩
    go_wp2_with fail
    go_ret2
    rw [T.out]
    exact ⟨rfl, rfl⟩
  have HR := Lib.hid hr
  have T := Lib.hid (sumOk_yes hr)
  have h20 := (isRow_iff.1 hr).2.1
  clear hr
  go_enter Try.func14, Try.ntmps14
  go_wp2_with fail
  refine (rowS_is H.out HR.out).mono ?_
  rintro e w1 ⟨rfl, rfl⟩
  go_wp2_with fail
  go_loopg [4, 5] l.length (fun k y x wr => ∃ j : Nat, x = .int .i64 j ∧ y = .int .i64 (l.take j).sum ∧ j + k = l.length ∧ w = wr)
  case atStart => exact ⟨0, rfl, rfl, by omega, rfl⟩
  case round =>
    obtain ⟨j, rfl, rfl, hk, rfl⟩ := hrel
    have K := Lib.hid hk
    have hjl : j ≤ l.length := by omega
    clear hk
    by_cases hlt : j < l.length
    · obtain ⟨g, o, rfl, d1⟩ := ilies_cell HL.out j hlt
      have i1 : (j : Int) < (l.length : Int) := by omega
      have i2 : (0 : Int) ≤ (j : Int) := by omega
      have hs := take_sum_step hlt
      have s1 := row_sum_take HR.out j
      have s2 := row_sum_take HR.out (j + 1)
      have e1 : IntKind.i64.wrap ((l.take j).sum + l[j]) = (l.take (j + 1)).sum := by rw [hs]; exact IntWalk.i64_in _ (by omega)
      clear hs
      go_wp2_with fail
      go_roundg (gk - 1)
      case measure => have := K.out; omega
      case rel => exact ⟨j + 1, by go_num, by first | rfl | (rw [e1]), by have := K.out; omega, rfl⟩
    · have hj : j = l.length := by omega
      have e1 : (l.take j).sum = l.sum := by rw [hj, List.take_length]
      rw [e1]
      clear e1
      go_wp2_with fail
      go_ret2
      rw [T.out]
      exact ⟨rfl, rfl⟩
theorem absS_any (n : Int) (h : -9000000000000000000 ≤ n) (h' : n ≤ 9000000000000000000) (w : World) :
    Calls Try.prog 42 #[.int .i64 n] w fun e w' => e = .returned (.int .i64 n.natAbs) ∧ w = w' := by
  go_enter Try.func42, Try.ntmps42
  go_wp2
  all_goals
    go_ret
    exact ⟨by show Ending.returned (.int .i64 _) = _; congr 2; omega, rfl⟩
set_option maxHeartbeats 1600000 in
theorem specSmoothRough_any {w : World} {v : Value} {l : List Int} (h : IRow w v l) :
    Calls Try.prog 19 #[v] w fun e w' => e = .returned (.int .i64 (roughOk l)) ∧ Below w.heap.size w w' := by
  obtain ⟨a, c, rfl, h1, h2, hlie⟩ := h.parts
  have H := Lib.hid h; have HL := Lib.hid hlie
  unfold maxLen at h2
  clear h hlie
  cases hr : isRow l
  · have HR := Lib.hid hr
    have T := Lib.hid (roughOk_no hr)
    clear hr
    go_enter Try.func19, Try.ntmps19
    go_wp2_with fail
    refine (rowS_is H.out HR.out).mono ?_
    rintro e w1 ⟨rfl, rfl⟩
    go_wp2_with fail
    go_ret
    rw [T.out]
    exact ⟨rfl, Below.refl _ _⟩
  have HR := Lib.hid hr
  have T := Lib.hid (roughOk_yes hr)
  obtain ⟨hl1, h20, hrow⟩ := isRow_iff.1 hr
  have HB := Lib.hid hrow
  clear hr hrow
  go_enter Try.func19, Try.ntmps19
  go_wp2_with fail
  refine (rowS_is H.out HR.out).mono ?_
  rintro e w1 ⟨rfl, rfl⟩
  go_wp2_with fail
  go_loopg [3, 4] (l.length - 1) (fun k y x wr => ∃ j : Nat, x = .int .i64 ((j : Int) + 1) ∧ y = .int .i64 (roughL (l.take (j + 1))) ∧ j + 1 + k = l.length ∧ Below w.heap.size w wr)
  case atStart =>
    refine ⟨0, rfl, ?_, by omega, Below.refl _ _⟩
    match l, hl1 with
    | x :: l, _ => rfl
  case round =>
    obtain ⟨j, rfl, rfl, hk, hb⟩ := hrel
    have K := Lib.hid hk; have B := Lib.hid hb
    have hjl : j + 1 ≤ l.length := by omega
    clear hk hb
    by_cases hlt : j + 1 < l.length
    · obtain ⟨g, o, rfl, d1⟩ := ilies_cell HL.out (j + 1) hlt
      obtain ⟨g', o', e', d0⟩ := ilies_cell HL.out j (by omega)
      simp only [Option.some.injEq, Addr.mk.injEq, and_true] at e'
      obtain ⟨rfl, rfl⟩ := e'
      have c1 := (B.out.cell (cell_below d1)).trans d1
      have c0 := (B.out.cell (cell_below d0)).trans d0
      have b1 := HB.out _ (List.getElem_mem hlt)
      have b0 := HB.out _ (List.getElem_mem (show j < l.length by omega))
      have hs := rough_take_step hlt
      have s1 := rough_take_bound HR.out (j + 1)
      have s2 := rough_take_bound HR.out (j + 1 + 1)
      obtain ⟨y, hy⟩ : ∃ x : Int, l[j + 1] = x := ⟨_, rfl⟩
      obtain ⟨x, hx⟩ : ∃ x : Int, l[j]'(by omega) = x := ⟨_, rfl⟩
      rw [hy] at c1 b1 hs; rw [hx] at c0 b0 hs
      have i1 : (j : Int) + 1 < (l.length : Int) := by omega
      have i2 : (0 : Int) ≤ (j : Int) := by omega
      have i3 : (j : Int) < (l.length : Int) := by omega
      have i4 : (0 : Int) ≤ (j : Int) + 1 := by omega
      have i5 : ((j : Int) + 1).toNat = j + 1 := by omega
      have e1 : IntKind.i64.wrap ((j : Int) + 1 - 1) = (j : Int) := by rw [show (j : Int) + 1 - 1 = j by omega]; exact IntWalk.i64_in _ (by omega)
      have e2 : IntKind.i64.wrap (j : Int) = (j : Int) := IntWalk.i64_in _ (by omega)
      have e3 : IntKind.i64.wrap (y - x) = y - x := IntWalk.i64_in _ (by omega)
      have e4 : IntKind.i64.wrap (roughL (l.take (j + 1)) + ((y - x).natAbs : Int)) = roughL (l.take (j + 1 + 1)) := by
        rw [hs, show ((y - x).natAbs : Int) = max (y - x) (x - y) by omega]; exact IntWalk.i64_in _ (by omega)
      have u1 : -9000000000000000000 ≤ y - x := by omega
      have u2 : y - x ≤ 9000000000000000000 := by omega
      clear d1 d0 hs hy hx
      go_wp2_with fail
      go_quiet ((go_at_call 42; refine Calls.quiet_of_same ((absS_any _ u1 u2 _).mono fun _ _ h => ⟨h.1, h.2.symm⟩)))
      go_wp2_with fail
      go_roundg (gk - 1)
      case measure => have := K.out; omega
      case rel => exact ⟨j + 1, by go_num, by first | rfl | (rw [e4]), by have := K.out; omega, below_drews B.out _⟩
    · have hj : j + 1 = l.length := by omega
      have i1 : ¬ (j : Int) + 1 < (l.length : Int) := by omega
      have e1 : roughL (l.take (j + 1)) = roughL l := by rw [hj, List.take_length]
      rw [e1]
      clear e1
      go_wp2_with fail
      go_ret
      rw [T.out]
      exact ⟨rfl, B.out⟩
set_option maxHeartbeats 1600000 in
theorem specSmoothRange_any {w : World} {v : Value} {l : List Int} (h : IRow w v l) :
    Calls Try.prog 21 #[v] w fun e w' => RangeB (rangeOk l) e ∧ w = w' := by
  cases hr : isRow l
  · obtain ⟨a, c, rfl, h1, h2⟩ := h.len
    have H := Lib.hid h
    have HR := Lib.hid hr
    have T := Lib.hid (rangeOk_no hr)
    clear hr h
    go_enter Try.func21, Try.ntmps21
    go_wp2_with fail
    refine (rowS_is H.out HR.out).mono ?_
    rintro e w1 ⟨rfl, rfl⟩
    go_wp2_with fail
    go_ret3
    rw [T.out]
    exact ⟨rfl, rfl⟩
  have HR := Lib.hid hr
  have T := Lib.hid (rangeOk_yes hr)
  obtain ⟨hl1, h20, hrow⟩ := isRow_iff.1 hr
  obtain ⟨g, o, c, rfl, hc, hcm⟩ := h.known (by omega)
  have H := Lib.hid h
  unfold maxLen at hcm
  clear hr hrow h
  have h0 : 0 < l.length := by omega
  have f0 := H.out.cells 0 h0
  obtain ⟨x0, hx0⟩ : ∃ x : Int, l[0]'h0 = x := ⟨_, rfl⟩
  have LO : Hid (lowL l = l.foldl min x0) := Lib.hid (by unfold lowL; rw [← hx0]; match l, h0 with | y :: l, _ => rfl)
  have HI : Hid (highL l = l.foldl max x0) := Lib.hid (by unfold highL; rw [← hx0]; match l, h0 with | y :: l, _ => rfl)
  rw [hx0] at f0
  simp only [Nat.add_zero] at f0
  have i0 : (0 : Int) < (l.length : Int) := by omega
  clear hx0
  go_enter Try.func21, Try.ntmps21
  go_wp2_with fail
  refine (rowS_is H.out HR.out).mono ?_
  rintro e w1 ⟨rfl, rfl⟩
  go_wp2_with fail
  go_loopg [5, 6, 7] l.length (fun k y z x wr => ∃ j : Nat, x = .int .i64 j ∧ y = .int .i64 ((l.take j).foldl min x0) ∧ z = .int .i64 ((l.take j).foldl max x0) ∧ j + k = l.length ∧ w = wr)
  case atStart => exact ⟨0, rfl, rfl, rfl, by omega, rfl⟩
  case round =>
    obtain ⟨j, rfl, rfl, rfl, hk, rfl⟩ := hrel
    have K := Lib.hid hk
    have hjl : j ≤ l.length := by omega
    clear hk
    by_cases hlt : j < l.length
    · have d1 := H.out.cells j hlt
      have i1 : (j : Int) < (l.length : Int) := by omega
      have i2 : (0 : Int) ≤ (j : Int) := by omega
      have s1 := take_fold min x0 hlt
      have s2 := take_fold max x0 hlt
      obtain ⟨y, hy⟩ : ∃ x : Int, l[j] = x := ⟨_, rfl⟩
      rw [hy] at d1 s1 s2
      obtain ⟨lo, hlo⟩ : ∃ x : Int, (l.take j).foldl min x0 = x := ⟨_, rfl⟩
      obtain ⟨hi, hhi⟩ : ∃ x : Int, (l.take j).foldl max x0 = x := ⟨_, rfl⟩
      rw [hlo] at s1 ⊢; rw [hhi] at s2 ⊢
      have e1 : (if y < lo then y else lo) = (l.take (j + 1)).foldl min x0 := by rw [s1]; split <;> omega
      have e2 : (if hi < y then y else hi) = (l.take (j + 1)).foldl max x0 := by rw [s2]; split <;> omega
      clear s1 s2 hy hlo hhi f0
      go_wp2_with fail
      go_roundg (gk - 1)
      case measure => have := K.out; omega
      case rel => exact ⟨j + 1, by go_num, by first | rfl | (rw [e1]), by first | rfl | (rw [e2]), by have := K.out; omega, rfl⟩
    · have hj : j = l.length := by omega
      have e1 : (l.take j).foldl min x0 = lowL l := by rw [hj, List.take_length, LO.out]
      have e2 : (l.take j).foldl max x0 = highL l := by rw [hj, List.take_length, HI.out]
      rw [e1, e2]
      clear e1 e2 f0
      go_wp2_with fail
      go_ret3
      rw [T.out]
      exact ⟨rfl, rfl⟩
end Go.Proofs.Ytdnalkppligodab
