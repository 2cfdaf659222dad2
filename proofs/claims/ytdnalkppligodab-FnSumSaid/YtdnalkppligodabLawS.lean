/- What the walks of the laws on rows name. -/
import Derived.Test.YtdnalkppligodabRowImpl3
import Derived.Test.YtdnalkppligodabRowDraw
import Derived.Test.YtdnalkppligodabSameI
namespace Go.Proofs.Ytdnalkppligodab
open Go.RowKit

theorem same_below {P : Program} {f : FuncId} {a : Array Value} {w : World} {X : Ending → Prop} (h : Calls P f a w fun e w' => X e ∧ w = w') : Calls P f a w fun e w' => X e ∧ Below w.heap.size w w' :=
  h.mono fun e w' ⟨he, hw⟩ => ⟨he, by subst hw; exact Below.refl _ _⟩
/-- A list of numbers of the call's own. -/
def GotL (w : World) (m : List Int) (e : Ending) (w' : World) : Prop := ∃ v, e = .returned (.tuple #[v, .bool true]) ∧ IOwn w' w.heap.size v m ∧ Below w.heap.size w w'
/-- .. none. -/
def NoL (w : World) (e : Ending) (w' : World) : Prop := ∃ v, e = .returned (.tuple #[v, .bool false]) ∧ IOwn w' w.heap.size v [] ∧ Below w.heap.size w w'
theorem list_yes {P : Program} {f : FuncId} {a : Array Value} {w : World} {o : Option (List Int)} {m : List Int} (h : Calls P f a w fun e w' => ListB w o e w') (ho : o = some m) : Calls P f a w fun e w' => GotL w m e w' := by
  subst ho; exact h
theorem list_no {P : Program} {f : FuncId} {a : Array Value} {w : World} {o : Option (List Int)} (h : Calls P f a w fun e w' => ListB w o e w') (ho : o = none) : Calls P f a w fun e w' => NoL w e w' := by
  subst ho; exact h
variable {w : World} {v : Value} {l : List Int} {n : Int}
theorem passI_yes (h : IRow w v l) (hr : isRow l = true) : Calls Try.prog 23 #[v] w fun e w' => GotL w (pass l) e w' := list_yes (implSmoothPass_any h) (passOf_yes hr)
theorem passI_no (h : IRow w v l) (hr : isRow l = false) : Calls Try.prog 23 #[v] w fun e w' => NoL w e w' := list_no (implSmoothPass_any h) (passOf_no hr)
theorem passS_yes (h : IRow w v l) (hr : isRow l = true) : Calls Try.prog 24 #[v] w fun e w' => GotL w (pass l) e w' := list_yes (specSmoothPass_any h) (passOf_yes hr)
theorem passS_no (h : IRow w v l) (hr : isRow l = false) : Calls Try.prog 24 #[v] w fun e w' => NoL w e w' := list_no (specSmoothPass_any h) (passOf_no hr)
theorem many_is {m : List Int} (h : manyOf l n = some m) : isRow l = true ∧ ∃ k : Nat, n = k ∧ k ≤ 8 ∧ m = passN k l := by
  unfold manyOf at h
  split at h
  · rename_i c
    obtain ⟨h1, h2, h3⟩ := manyOk_iff.1 c
    simp only [Option.some.injEq] at h
    exact ⟨h1, n.toNat, by omega, by omega, h.symm⟩
  · cases h
theorem manyI_yes {k : Nat} (h : IRow w v l) (hr : isRow l = true) (hk : k ≤ 8) : Calls Try.prog 27 #[v, .int .i64 k] w fun e w' => GotL w (passN k l) e w' := list_yes (implSmoothMany_any k h) (manyOf_yes hr hk)
theorem manyI_no (h : IRow w v l) (ho : manyOf l n = none) : Calls Try.prog 27 #[v, .int .i64 n] w fun e w' => NoL w e w' := list_no (implSmoothMany_any n h) ho
theorem manyS_yes {k : Nat} (h : IRow w v l) (hr : isRow l = true) (hk : k ≤ 8) : Calls Try.prog 28 #[v, .int .i64 k] w fun e w' => GotL w (passN k l) e w' := list_yes (specSmoothMany_any k h) (manyOf_yes hr hk)
theorem manyS_no (h : IRow w v l) (ho : manyOf l n = none) : Calls Try.prog 28 #[v, .int .i64 n] w fun e w' => NoL w e w' := list_no (specSmoothMany_any n h) ho
theorem sumI_yes (h : IRow w v l) (hr : isRow l = true) : Calls Try.prog 13 #[v] w fun e w' => e = .returned (.tuple #[.int .i64 l.sum, .bool true]) ∧ Below w.heap.size w w' := by
  have := implSmoothSum_any h
  rwa [sumOk_yes hr] at this
theorem sumI_no (h : IRow w v l) (hr : isRow l = false) : Calls Try.prog 13 #[v] w fun e w' => e = .returned (.tuple #[.int .i64 0, .bool false]) ∧ Below w.heap.size w w' := by
  have := implSmoothSum_any h
  rwa [sumOk_no hr] at this
theorem sumS_yes (h : IRow w v l) (hr : isRow l = true) : Calls Try.prog 14 #[v] w fun e w' => e = .returned (.tuple #[.int .i64 l.sum, .bool true]) ∧ Below w.heap.size w w' := by
  have := same_below (specSmoothSum_any h)
  rwa [sumOk_yes hr] at this
theorem sumS_no (h : IRow w v l) (hr : isRow l = false) : Calls Try.prog 14 #[v] w fun e w' => e = .returned (.tuple #[.int .i64 0, .bool false]) ∧ Below w.heap.size w w' := by
  have := same_below (specSmoothSum_any h)
  rwa [sumOk_no hr] at this
theorem roughI_is {x : Int} (h : IRow w v l) (hr : roughOk l = x) : Calls Try.prog 18 #[v] w fun e w' => e = .returned (.int .i64 x) ∧ Below w.heap.size w w' := by
  have := implSmoothRough_any h
  rwa [hr] at this
theorem roughS_is {x : Int} (h : IRow w v l) (hr : roughOk l = x) : Calls Try.prog 19 #[v] w fun e w' => e = .returned (.int .i64 x) ∧ Below w.heap.size w w' := by
  have := specSmoothRough_any h
  rwa [hr] at this
theorem rangeI_yes (h : IRow w v l) (hr : isRow l = true) : Calls Try.prog 16 #[v] w fun e w' => e = .returned (.tuple #[.int .i64 (lowL l), .int .i64 (highL l), .bool true]) ∧ Below w.heap.size w w' := by
  have := implSmoothRange_any h
  rwa [rangeOk_yes hr] at this
theorem rangeI_no (h : IRow w v l) (hr : isRow l = false) : Calls Try.prog 16 #[v] w fun e w' => e = .returned (.tuple #[.int .i64 0, .int .i64 0, .bool false]) ∧ Below w.heap.size w w' := by
  have := implSmoothRange_any h
  rwa [rangeOk_no hr] at this
theorem rangeS_yes (h : IRow w v l) (hr : isRow l = true) : Calls Try.prog 21 #[v] w fun e w' => e = .returned (.tuple #[.int .i64 (lowL l), .int .i64 (highL l), .bool true]) ∧ Below w.heap.size w w' := by
  have := same_below (specSmoothRange_any h)
  rwa [rangeOk_yes hr] at this
theorem rangeS_no (h : IRow w v l) (hr : isRow l = false) : Calls Try.prog 21 #[v] w fun e w' => e = .returned (.tuple #[.int .i64 0, .int .i64 0, .bool false]) ∧ Below w.heap.size w w' := by
  have := same_below (specSmoothRange_any h)
  rwa [rangeOk_no hr] at this
/-! The laws' own functions. -/
theorem big_take {l : List Int} (hb : ∀ x ∈ l, -655360000 ≤ x ∧ x ≤ 655360000) (h20 : l.length ≤ 20) (j : Nat) : -13107200000 ≤ (l.take j).sum ∧ (l.take j).sum ≤ 13107200000 ∧ 0 ≤ roughL (l.take j) ∧ roughL (l.take j) ≤ 26214400000 := by
  have hb' : ∀ x ∈ l.take j, -655360000 ≤ x ∧ x ≤ 655360000 := fun x hx => hb x (List.mem_of_mem_take hx)
  have := sum_between hb'
  have := rough_bound (c := 655360000) hb'
  have := rough_nonneg (l.take j)
  have := List.length_take_le' j l
  omega
theorem rev_step {l : List Int} {j : Nat} (hj : j < l.length) : l.reverse.take j ++ [l[l.length - 1 - j]'(by omega)] = l.reverse.take (j + 1) := by
  rw [List.take_succ_eq_append_getElem (by simpa using hj), List.getElem_reverse]
theorem reversed_any (h : IRow w v l) (hl : l.length ≤ 1000000) : Calls Try.prog 15 #[v] w fun e w' => ILst w l.reverse e w' := by
  obtain ⟨a, c, rfl, h1, h2, hlie⟩ := h.parts
  have H := Lib.hid hlie
  unfold maxLen at h2
  have A0 := Lib.hid ((Below.refl w.heap.size w).alloc (Nat.le_refl _) (.cells #[] 3))
  have O0 := Lib.hid (iown_new (Nat.le_refl w.heap.size))
  obtain ⟨n, hn⟩ : ∃ n, l.length = n := ⟨_, rfl⟩
  have HN := Lib.hid hn
  rw [hn] at hl h1 ⊢
  have e0 : IntKind.i64.wrap ((n : Int) - 1) = (n : Int) - 1 := IntWalk.i64_in _ (by omega)
  clear h hlie hn
  go_enter Try.func15, Try.ntmps15
  go_wp2_with fail
  go_loopg [3, 4] n (fun k y x wr => ∃ j : Nat, x = .int .i64 ((n : Int) - 1 - j) ∧ j + k = n ∧ IOwn wr w.heap.size y (l.reverse.take j) ∧ Below w.heap.size w wr)
  case atStart => exact ⟨0, by simp, by omega, O0.out, A0.out⟩
  case round =>
    obtain ⟨j, rfl, hk, ho, hb⟩ := hrel
    have K := Lib.hid hk; have O := Lib.hid ho; have B := Lib.hid hb
    have hs := hb.size
    have hjn : j ≤ n := by omega
    clear hk ho hb e0
    by_cases hlt : j < n
    · obtain ⟨g, o, rfl, d0⟩ := ilies_cell H.out (n - 1 - j) (by have := HN.out; omega)
      have d1 := (B.out.cell (cell_below d0)).trans d0
      have hst := rev_step (l := l) (j := j) (by rw [HN.out]; exact hlt)
      simp only [HN.out] at hst
      obtain ⟨x, hx⟩ : ∃ x : Int, l[n - 1 - j]'(by have := HN.out; omega) = x := ⟨_, rfl⟩
      rw [hx] at d1 hst
      have ST := Lib.hid hst
      obtain ⟨p, hp⟩ : ∃ p : Nat, n - 1 - j = p := ⟨_, rfl⟩
      have ep : (n : Int) - 1 - (j : Int) = (p : Int) := by omega
      rw [hp] at d1
      rw [ep]
      have i1 : (p : Int) < (n : Int) := by omega
      have i2 : (0 : Int) ≤ (p : Int) := by omega
      have e1 : IntKind.i64.wrap ((p : Int) - 1) = (p : Int) - 1 := IntWalk.i64_in _ (by omega)
      have n1 := new_one wr (.int .i64 x) 3
      have N1 := Lib.hid n1
      have BW := Lib.hid ((Below.refl wr.heap.size wr).alloc (Nat.le_refl _) (.cells #[.int .i64 x] 3))
      have EP := Lib.hid hp
      clear n1 d0 hst hx hp ep
      go_wp2_with (at_builtin; refine iappend_one intT rfl _ _ rfl (B := w.heap.size) _ _ rfl (O.out.grow BW.out) ⟨wr.heap.size, 0, none⟩ x rfl N1.out (by rw [List.length_take]; omega) (by simp; omega) ?_; intro v8 w8 hown8 hg8)
      rw [ST.out] at hown8
      have O8 := Lib.hid hown8
      have B8 := Lib.hid (B.out.trans ((BW.out.mono hs).trans ((O.out.grow BW.out).below hg8 (by simp; omega))))
      clear hown8 hg8
      go_wp2_with fail
      go_roundg (gk - 1)
      case measure => have := K.out; omega
      case rel => exact ⟨j + 1, by have := EP.out; first | (go_num; done) | (congr 1; omega), by have := K.out; omega, O8.out, B8.out⟩
    · have hj : j = n := by omega
      have hx := O.out
      rw [hj, ← HN.out, List.take_of_length_le (by simp)] at hx
      have D := Lib.hid hx
      have ex : (n : Int) - 1 - (j : Int) = -1 := by omega
      rw [ex]
      clear hx hlt hj ex
      go_wp2_with fail
      go_ret
      exact ⟨_, rfl, D.out, B.out⟩
theorem roughOf_any (h : IRow w v l) (hb : ∀ x ∈ l, -655360000 ≤ x ∧ x ≤ 655360000) (h20 : l.length ≤ 20) (h1 : 1 ≤ l.length) : Calls Try.prog 29 #[v] w fun e w' => e = .returned (.int .i64 (roughL l)) ∧ Below w.heap.size w w' := by
  obtain ⟨a', c', rfl, h1', h2', hlie⟩ := h.parts
  have H := Lib.hid hlie; have HM := Lib.hid hb
  unfold maxLen at h2'
  clear h hlie hb
  go_enter Try.func29, Try.ntmps29
  go_wp2_with fail
  go_loopg [3, 4] (l.length - 1) (fun k y x wr => ∃ j : Nat, x = .int .i64 ((j : Int) + 1) ∧ y = .int .i64 (roughL (l.take (j + 1))) ∧ j + 1 + k = l.length ∧ Below w.heap.size w wr)
  case atStart =>
    refine ⟨0, rfl, ?_, by omega, Below.refl _ _⟩
    match l, h1 with
    | x :: l, _ => rfl
  case round =>
    obtain ⟨j, rfl, rfl, hk, hb⟩ := hrel
    have K := Lib.hid hk; have B := Lib.hid hb
    have hjl : j + 1 ≤ l.length := by omega
    clear hk hb
    by_cases hlt : j + 1 < l.length
    · obtain ⟨g, o, rfl, d1⟩ := ilies_cell H.out (j + 1) hlt
      obtain ⟨g', o', e', d0⟩ := ilies_cell H.out j (by omega)
      simp only [Option.some.injEq, Addr.mk.injEq, and_true] at e'
      obtain ⟨rfl, rfl⟩ := e'
      have c1 := (B.out.cell (cell_below d1)).trans d1
      have c0 := (B.out.cell (cell_below d0)).trans d0
      have b1 := HM.out _ (List.getElem_mem hlt)
      have b0 := HM.out _ (List.getElem_mem (show j < l.length by omega))
      have hs := rough_take_step hlt
      have s1 := big_take HM.out h20 (j + 1)
      have s2 := big_take HM.out h20 (j + 1 + 1)
      obtain ⟨y, hy⟩ : ∃ x : Int, l[j + 1] = x := ⟨_, rfl⟩
      obtain ⟨x, hx⟩ : ∃ x : Int, l[j]'(by omega) = x := ⟨_, rfl⟩
      rw [hy] at c1 b1 hs; rw [hx] at c0 b0 hs
      have i1 : (j : Int) + 1 < (l.length : Int) := by omega
      have i2 : (0 : Int) ≤ (j : Int) := by omega
      have i3 : (j : Int) < (l.length : Int) := by omega
      have i4 : (0 : Int) ≤ (j : Int) + 1 := by omega
      have i5 : ((j : Int) + 1).toNat = j + 1 := by omega
      have e1 : IntKind.i64.wrap ((j : Int) + 1 - 1) = (j : Int) := by rw [show (j : Int) + 1 - 1 = j by omega]; exact IntWalk.i64_in _ (by omega)
      have e2 : IntKind.i64.wrap (j : Int) = (j : Int) := IntWalk.i64_in _ (by omega)
      have e3 : IntKind.i64.wrap (y - x) = y - x := IntWalk.i64_in _ (by omega)
      have e5 : IntKind.i64.wrap (x - y) = x - y := IntWalk.i64_in _ (by omega)
      have e6 : (if y - x < x - y then x - y else y - x) = max (y - x) (x - y) := by split <;> omega
      have e4 : IntKind.i64.wrap (roughL (l.take (j + 1)) + max (y - x) (x - y)) = roughL (l.take (j + 1 + 1)) := by
        rw [hs]; exact IntWalk.i64_in _ (by omega)
      clear d1 d0 hs hy hx
      go_wp2_with fail
      try (go_quiet (fail); go_wp2_with fail)
      go_roundg (gk - 1)
      case measure => have := K.out; omega
      case rel => exact ⟨j + 1, by go_num, by first | rfl | (rw [e4]), by have := K.out; omega, by first | exact B.out | exact below_drews B.out _⟩
    · have hj : j + 1 = l.length := by omega
      have i1 : ¬ (j : Int) + 1 < (l.length : Int) := by omega
      have e1 : roughL (l.take (j + 1)) = roughL l := by rw [hj, List.take_length]
      rw [e1]
      clear e1
      go_wp2_with fail
      go_ret
      exact ⟨rfl, B.out⟩
/-! Names for what the laws compare. -/
theorem roughOf_is {x : Int} (h : IRow w v l) (hb : ∀ x ∈ l, -655360000 ≤ x ∧ x ≤ 655360000) (h20 : l.length ≤ 20) (h1 : 1 ≤ l.length) (hx : roughL l = x) : Calls Try.prog 29 #[v] w fun e w' => e = .returned (.int .i64 x) ∧ Below w.heap.size w w' := by
  have := roughOf_any h hb h20 h1
  rwa [hx] at this
theorem sumI_is {x : Int} (h : IRow w v l) (hr : isRow l = true) (hx : l.sum = x) : Calls Try.prog 13 #[v] w fun e w' => e = .returned (.tuple #[.int .i64 x, .bool true]) ∧ Below w.heap.size w w' := by
  have := sumI_yes h hr
  rwa [hx] at this
theorem rangeI_is {x y : Int} (h : IRow w v l) (hr : isRow l = true) (hx : lowL l = x) (hy : highL l = y) : Calls Try.prog 16 #[v] w fun e w' => e = .returned (.tuple #[.int .i64 x, .int .i64 y, .bool true]) ∧ Below w.heap.size w w' := by
  have := rangeI_yes h hr
  rwa [hx, hy] at this
theorem manyI_zero (h : IRow w v l) (hr : isRow l = true) : Calls Try.prog 27 #[v, .int .i64 0] w fun e w' => GotL w l e w' := manyI_yes (k := 0) h hr (by omega)
theorem manyI_one (h : IRow w v l) (hr : isRow l = true) : Calls Try.prog 27 #[v, .int .i64 1] w fun e w' => GotL w (pass l) e w' := manyI_yes (k := 1) h hr (by omega)
theorem known_n {m : List Int} {n : Nat} (h : IRow w v m) (hn : m.length = n) (h0 : 0 < n) : ∃ g o c, v = .slice (some ⟨g, o, none⟩) n c ∧ n ≤ c ∧ c ≤ 9223372036854775807 := by
  subst hn
  obtain ⟨g, o, c, e, h1, h2⟩ := h.known h0
  unfold maxLen at h2
  exact ⟨g, o, c, e, h1, by omega⟩
theorem pass_small (hr : isRow l = true) : ∀ x ∈ pass l, -655360000 ≤ x ∧ x ≤ 655360000 := fun x hx => by
  have := pass_bound (isRow_iff.1 hr).2.2 x hx; omega
/-- Powers of 4. -/
def pw (k : Nat) : Int := 4 ^ k
theorem pw_zero : pw 0 = 1 := rfl
theorem pw_next (k : Nat) : 4 * pw k = pw (k + 1) := by unfold pw; rw [Int.pow_succ]; omega
theorem pw_bound {k : Nat} (h : k ≤ 8) : 1 ≤ pw k ∧ pw k ≤ 65536 := by
  have h1 : (4 : Int) ^ k ≤ 4 ^ 8 := by exact_mod_cast Nat.pow_le_pow_right (by omega) h
  have h2 : (0 : Int) < 4 ^ k := Int.pow_pos (by decide)
  have q : (4 : Int) ^ 8 = 65536 := by decide
  unfold pw; omega
theorem pw_mul {k : Nat} (h : k ≤ 8) {x : Int} {c : Int} (hx : -c ≤ x ∧ x ≤ c) : -(65536 * c) ≤ pw k * x ∧ pw k * x ≤ 65536 * c := by
  obtain ⟨h1, h2⟩ := pw_bound h
  have c0 : 0 ≤ c := by omega
  constructor
  · have a : pw k * (-c) ≤ pw k * x := Int.mul_le_mul_of_nonneg_left hx.1 (by omega)
    have b : pw k * c ≤ 65536 * c := Int.mul_le_mul_of_nonneg_right h2 c0
    rw [Int.mul_neg] at a; omega
  · have a : pw k * x ≤ pw k * c := Int.mul_le_mul_of_nonneg_left hx.2 (by omega)
    have b : pw k * c ≤ 65536 * c := Int.mul_le_mul_of_nonneg_right h2 c0
    omega
end Go.Proofs.Ytdnalkppligodab
