/- The contracts of the model's functions on layers, and the program's test. -/
import Derived.Test.YtbjeedeapioljacLay
import Derived.Test.YtbjeedeapioljacLayer
import Derived.Test.YtbjeedeapioljacGcd
import Derived.Test.YtbjeedeapioljacStepI
namespace Go.Proofs.Ytbjeedeapioljac
open Go.RowKit

theorem isIn_range {n a b : Int} (h : isIn n a b = true) : a ≤ n ∧ n ≤ b := by unfold isIn at h; exact of_decide_eq_true h
theorem lastOf_take {l : LL} (k : Nat) (hk : k < l.length) : lastOf (-1) (l.take (k + 1)) = l[k].1 := by rw [take_one l k hk, lastOf_snoc]
theorem lay_bad {l : LL} {k : Nat} (hk : k < l.length) (h : good (l.take k) = true) (hx : l[k].1 ≤ lastOf (-1) (l.take k) ∨ 30000 < l[k].1) : isLay l = false := by
  cases e : isLay l
  · rfl
  · have g := good_take (k + 1) (show good l = true by simp only [isLay, Bool.and_eq_true] at e; exact e.2)
    rw [good_step hk h] at g
    simp only [Bool.and_eq_true, decide_eq_true_eq] at g
    omega
theorem lay_low {l : LL} {k : Nat} (hk : k < l.length) (hx : l[k].1 < 0) : isLay l = false := by
  cases e : isLay l
  · rfl
  · have := lay_in e _ (List.getElem_mem hk); omega
theorem lay_high {l : LL} {k : Nat} (hk : k < l.length) (hx : 30000 < l[k].1) : isLay l = false := by
  cases e : isLay l
  · rfl
  · have := lay_in e _ (List.getElem_mem hk); omega
theorem lay_next {l : LL} {k : Nat} (hk : k < l.length) (h : good (l.take k) = true) (h1 : lastOf (-1) (l.take k) < l[k].1) (h2 : l[k].1 ≤ 30000) : good (l.take (k + 1)) = true := by
  rw [good_step hk h, decide_eq_true h1, decide_eq_true h2]; rfl
theorem lay_all {l : LL} (h : good (l.take l.length) = true) : isLay l = decide (l.length ≤ 40) := by rw [List.take_length] at h; rw [isLay, h, Bool.and_true]
theorem l11Depth_is {n : Int} {b : Bool} (h : isIn n 0 30000 = b) (w : World) :
    Calls Try.prog 41 #[.int .i64 n] w fun e w' => e = .returned (.bool b) ∧ w = w' := by
  subst h
  go_enter Try.func41, Try.ntmps41
  go_wp2_with fail
  refine (l6In_any _ _ _ _).mono ?_
  rintro e w1 ⟨rfl, rfl⟩
  go_wp2_with fail
  go_ret
  exact ⟨rfl, rfl⟩
set_option maxRecDepth 100000 in
set_option maxHeartbeats 1600000 in
theorem specValid_any {w : World} {v : Value} {l : LL} (h : LRow w v l) :
    Calls Try.prog 15 #[v] w fun e w' => e = .returned (.bool (isLay l)) ∧ Below w.heap.size w w' := by
  obtain ⟨a, c, rfl, h1, h2, hlie⟩ := h.parts
  have H := Lib.hid hlie
  unfold maxLen at h2
  clear h hlie
  go_enter Try.func15, Try.ntmps15
  go_wp2_with fail
  go_loopg [3] l.length (fun k x wr => ∃ j : Nat, x = .int .i64 j ∧ j + k = l.length ∧ good (l.take j) = true ∧ Below w.heap.size w wr)
  case atStart => exact ⟨0, rfl, by omega, rfl, Below.refl _ _⟩
  case round =>
    obtain ⟨j, rfl, hk, hs, hb⟩ := hrel
    have K := Lib.hid hk; have S := Lib.hid hs; have B := Lib.hid hb
    have hjl : j ≤ l.length := by omega
    clear hk hs hb
    by_cases hlt : j < l.length
    · obtain ⟨g, o, rfl, d1, _⟩ := llies_cell H.out j hlt
      have e1 := (B.out.cell (cell_below d1)).trans d1
      have i0 : (0 : Int) ≤ (j : Int) := by omega
      have i1 : (j : Int) < (l.length : Int) := by omega
      clear d1
      cases hx : isIn l[j].1 0 30000
      · have HX := Lib.hid hx
        have R : Hid (isLay l = false) := Lib.hid (by
          rcases Int.lt_or_le l[j].1 0 with q | q
          · exact lay_low hlt q
          · rcases Int.lt_or_le 30000 l[j].1 with p | p
            · exact lay_high hlt p
            · rw [isIn_yes q p] at hx; cases hx)
        clear hx
        go_wp2_with fail
        go_quiet ((go_at_call 41; refine Calls.quiet_of_same ((l11Depth_is HX.out _).mono fun _ _ h => ⟨h.1, h.2.symm⟩)))
        go_wp2_with fail
        go_ret
        exact ⟨by rw [R.out]; rfl, below_drews B.out _⟩
      · have HX := Lib.hid hx
        have DP := Lib.hid (isIn_range hx)
        clear hx
        cases j with
        | zero =>
          simp only [Nat.zero_mul, Nat.add_zero] at e1
          go_wp2_with fail
          go_quiet ((go_at_call 41; refine Calls.quiet_of_same ((l11Depth_is HX.out _).mono fun _ _ h => ⟨h.1, h.2.symm⟩)))
          go_wp2_with fail
          go_roundg (gk - 1)
          case measure => have := K.out; omega
          case rel => exact ⟨1, by go_num, by have := K.out; omega, lay_next hlt S.out (by have := DP.out; simp only [List.take_zero, lastOf]; omega) DP.out.2, below_drews B.out _⟩
        | succ j =>
          obtain ⟨g', o', e', c3, _⟩ := llies_cell H.out j (by omega)
          simp only [Option.some.injEq, Addr.mk.injEq, and_true] at e'
          obtain ⟨rfl, rfl⟩ := e'
          have d3 := (B.out.cell (cell_below c3)).trans c3
          clear c3
          have s1 : IntKind.i64.wrap ((j : Int) + 1 - 1) = (j : Int) := by rw [show (j : Int) + 1 - 1 = j by omega]; exact IntWalk.i64_in _ (by omega)
          have s2 : IntKind.i64.wrap (j : Int) = (j : Int) := IntWalk.i64_in _ (by omega)
          have s3 : (0 : Int) ≤ (j : Int) := Int.natCast_nonneg _
          have s4 : (j : Int) < (l.length : Int) := by omega
          have s5 : (0 : Int) ≤ (j : Int) + 1 := by omega
          have s6 : (j : Int) + 1 < (l.length : Int) := by omega
          have s7 : ((j : Int) + 1).toNat = j + 1 := by omega
          have s8 : (0 : Int) < (j : Int) + 1 := by omega
          have LT := Lib.hid (lastOf_take (l := l) j (by omega))
          by_cases q1 : l[j + 1].1 ≤ l[j].1
          · have R := Lib.hid (lay_bad hlt S.out (.inl (by rw [LT.out]; exact q1)))
            go_wp2_with fail
            go_quiet ((go_at_call 41; refine Calls.quiet_of_same ((l11Depth_is HX.out _).mono fun _ _ h => ⟨h.1, h.2.symm⟩)))
            go_wp2_with fail
            go_ret
            exact ⟨by rw [R.out]; rfl, below_drews B.out _⟩
          · have N := Lib.hid (lay_next hlt S.out (by rw [LT.out]; omega) DP.out.2)
            go_wp2_with fail
            go_quiet ((go_at_call 41; refine Calls.quiet_of_same ((l11Depth_is HX.out _).mono fun _ _ h => ⟨h.1, h.2.symm⟩)))
            go_wp2_with fail
            go_roundg (gk - 1)
            case measure => have := K.out; omega
            case rel => exact ⟨j + 2, by go_num, by have := K.out; omega, N.out, below_drews B.out _⟩
    · have hj : j = l.length := by omega
      have R := Lib.hid (lay_all (l := l) (by rw [← hj]; exact S.out))
      by_cases q : l.length ≤ 40
      · have R2 : Hid (isLay l = true) := Lib.hid (by rw [R.out, decide_eq_true q])
        have q1 : decide ((l.length : Int) ≤ 40) = true := by simp; omega
        go_wp2_with fail
        go_ret
        exact ⟨by rw [R2.out]; first | rfl | rw [q1], B.out⟩
      · have R2 : Hid (isLay l = false) := Lib.hid (by rw [R.out, decide_eq_false q])
        have q1 : decide ((l.length : Int) ≤ 40) = false := by simp; omega
        go_wp2_with fail
        go_ret
        exact ⟨by rw [R2.out]; first | rfl | rw [q1], B.out⟩
theorem specValid_is {w : World} {v : Value} {l : LL} {b : Bool} (h : LRow w v l) (hb : isLay l = b) : Calls Try.prog 15 #[v] w fun e w' => e = .returned (.bool b) ∧ Below w.heap.size w w' := by
  have := specValid_any h
  rwa [hb] at this
/-- What the program's test has seen. -/
theorem seen_off {l : LL} {k : Nat} (hk : k < l.length) (hx : l[k].1 ≤ lastOf (-1) (l.take k)) : isLay l = false := by
  cases e : isLay l
  · rfl
  · have h := up_take (k + 1) (isLay_iff.1 e).2.1
    rw [take_one l k hk, up_snoc] at h
    simp only [Bool.and_eq_true, decide_eq_true_eq] at h
    omega
theorem seen_next {l : LL} {k : Nat} (hk : k < l.length) (h : up (-1) (l.take k) = true) (hx : lastOf (-1) (l.take k) < l[k].1) : up (-1) (l.take (k + 1)) = true := by
  rw [take_one l k hk, up_snoc, h, decide_eq_true hx]; rfl
theorem seen_all {l : LL} (h : up (-1) (l.take l.length) = true) (hl : l.length ≤ 40) : isLay l = decide (lastOf (-1) (l.take l.length) ≤ 30000) := by
  rw [List.take_length] at h ⊢
  rw [isLay, good, h, decide_eq_true hl]; rfl
set_option maxHeartbeats 800000 in
theorem implValid_any {w : World} {v : Value} {l : LL} (h : LRow w v l) :
    Calls Try.prog 17 #[v] w fun e w' => e = .returned (.bool (isLay l)) ∧ Below w.heap.size w w' := by
  obtain ⟨a, c, rfl, h1, h2, hlie⟩ := h.parts
  have H := Lib.hid hlie
  unfold maxLen at h2
  clear h hlie
  by_cases q : l.length ≤ 40
  · have q1 : decide ((40 : Int) < (l.length : Int)) = false := by simp; omega
    go_enter Try.func17, Try.ntmps17
    go_wp2_with fail
    go_loopg [3, 11] l.length (fun k y x wr => ∃ (j : Nat) (p : Int), x = .int .i64 j ∧ y = .int .i64 p ∧ j + k = l.length ∧ up (-1) (l.take j) = true ∧ p = lastOf (-1) (l.take j) ∧ Below w.heap.size w wr)
    case atStart => exact ⟨0, -1, rfl, rfl, by omega, rfl, rfl, Below.refl _ _⟩
    case round =>
      obtain ⟨j, p, rfl, rfl, hk, hs, hp, hb⟩ := hrel
      have K := Lib.hid hk; have S := Lib.hid hs; have B := Lib.hid hb; have PP := Lib.hid hp
      have hjl : j ≤ l.length := by omega
      clear hk hs hb hp
      by_cases hlt : j < l.length
      · obtain ⟨g, o, rfl, d1, d2⟩ := llies_cell H.out j hlt
        have e1 := (B.out.cell (cell_below d1)).trans d1
        have e2 := (B.out.cell (cell_below d2)).trans d2
        clear d1 d2
        by_cases q2 : l[j].1 ≤ p
        · have R := Lib.hid (seen_off hlt (by rw [← PP.out]; exact q2))
          have q3 : decide (l[j].1 ≤ p) = true := by simpa using q2
          go_wp2_with fail
          go_ret
          exact ⟨by rw [R.out]; rfl, B.out.alloc B.out.size _⟩
        · have q3 : decide (l[j].1 ≤ p) = false := by simpa using q2
          have N := Lib.hid (seen_next hlt S.out (by rw [← PP.out]; omega))
          have L1 := Lib.hid (lastOf_take (l := l) j hlt)
          go_wp2_with fail
          go_roundg (gk - 1)
          case measure => have := K.out; omega
          case rel => exact ⟨j + 1, l[j].1, by go_num, rfl, by have := K.out; omega, N.out, L1.out.symm, B.out.alloc B.out.size _⟩
      · have hj : j = l.length := by omega
        have R := Lib.hid (seen_all (l := l) (by rw [← hj]; exact S.out) q)
        have P2 : Hid (p = lastOf (-1) (l.take l.length)) := Lib.hid (by rw [← hj]; exact PP.out)
        go_wp2_with fail
        go_ret
        exact ⟨by rw [R.out, ← P2.out]; rfl, B.out⟩
  · have q1 : decide ((40 : Int) < (l.length : Int)) = true := by simp; omega
    have R : Hid (isLay l = false) := Lib.hid (by rw [isLay, decide_eq_false q]; rfl)
    go_enter Try.func17, Try.ntmps17
    go_wp2_with fail
    go_ret
    exact ⟨by rw [R.out]; rfl, Below.refl _ _⟩
theorem implValid_is {w : World} {v : Value} {l : LL} {b : Bool} (h : LRow w v l) (hb : isLay l = b) : Calls Try.prog 17 #[v] w fun e w' => e = .returned (.bool b) ∧ Below w.heap.size w w' := by
  have := implValid_any h
  rwa [hb] at this
end Go.Proofs.Ytbjeedeapioljac
