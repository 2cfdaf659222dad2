/- The program's functions on rows. -/
import Derived.Test.YtdnalkppligodabRowImpl2
import Derived.Test.YtdnalkppligodabRowSpec2
namespace Go.Proofs.Ytdnalkppligodab
open Go.RowKit

theorem ring_yes {w : World} {v : Value} {l : List Int} (h : IRow w v l) (hr : isRow l = true) :
    Calls Try.prog 36 #[v] w fun e w' => e = .returned (.tuple #[.agg (cellsA (ringM l)), .bool true]) ∧ Below w.heap.size w w' := by
  have := ringOf_any h
  rwa [ringE_yes hr, hr] at this
theorem ring_no {w : World} {v : Value} {l : List Int} (h : IRow w v l) (hr : isRow l = false) :
    Calls Try.prog 36 #[v] w fun e w' => e = .returned (.tuple #[.agg (cellsA (ring0 0)), .bool false]) ∧ Below w.heap.size w w' := by
  have := ringOf_any h
  rwa [ringE_no hr, hr] at this
theorem ring0_length (n : Int) : (ring0 n).length = 41 := rfl
set_option maxHeartbeats 3200000 in
theorem implSmoothMany_any {w : World} {v : Value} {l : List Int} (n : Int) (h : IRow w v l) :
    Calls Try.prog 27 #[v, .int .i64 n] w fun e w' => ListB w (manyOf l n) e w' := by
  have H := Lib.hid h
  obtain ⟨a, c, rfl, _, _⟩ := h.len
  clear h
  cases hr : isRow l
  · have HR := Lib.hid hr
    have T := Lib.hid (manyOf_no (n := n) (.inl hr))
    clear hr
    go_enter Try.func27, Try.ntmps27
    go_wp2_with fail
    refine (ring_no H.out HR.out).mono ?_
    rintro e w1 ⟨rfl, b1⟩
    have B1 := Lib.hid b1
    clear b1
    go_wp2_with (first
      | (refine wpList_alloc_box ringT rfl rfl ?_)
      | (refine wpList_store_box rfl _ _ rfl w1.heap.size rfl rfl ringT (ib_new w1 (ring0 0)) rfl rfl ?_; intro w2 I2 s2 k2 b2; have B2 := Lib.hid (B1.out.trans (((Below.refl w.heap.size w1).alloc B1.out.size _).trans (b2 w.heap.size B1.out.size))); clear I2 s2 k2 b2))
    go_ret2
    exact listB_no T.out B2.out
  have HR := Lib.hid hr
  have hlen := (isRow_iff.1 hr).1
  have h20 := (isRow_iff.1 hr).2.1
  have LM : Hid ((ringM l).length = 41) := Lib.hid (ringM_length h20)
  clear hr
  cases hi : isIn n 0 8
  · have T := Lib.hid (manyOf_no (l := l) (.inr hi))
    go_enter Try.func27, Try.ntmps27
    go_wp2_with fail
    refine (ring_yes H.out HR.out).mono ?_
    rintro e w1 ⟨rfl, b1⟩
    have B1 := Lib.hid b1
    clear b1
    by_cases n0 : n < 0
    · have d0 : decide (n < 0) = true := by simpa using n0
      clear hi n0
      go_wp2_with (first
        | (refine wpList_alloc_box ringT rfl rfl ?_)
        | (refine wpList_store_box rfl _ _ rfl w1.heap.size rfl rfl ringT (ib_new w1 (ring0 0)) rfl LM.out ?_; intro w2 I2 s2 k2 b2; have B2 := Lib.hid (B1.out.trans (((Below.refl w.heap.size w1).alloc B1.out.size _).trans (b2 w.heap.size B1.out.size))); clear I2 s2 k2 b2))
      go_ret2
      exact listB_no T.out B2.out
    · have n8 : 8 < n := by
        rcases Int.lt_or_le 8 n with q | q
        · exact q
        · rw [isIn_yes (by omega) q] at hi; cases hi
      have d0 : decide (n < 0) = false := by simpa using n0
      have d1 : decide (8 < n) = true := by simpa using n8
      clear hi n0 n8
      go_wp2_with (first
        | (refine wpList_alloc_box ringT rfl rfl ?_)
        | (refine wpList_store_box rfl _ _ rfl w1.heap.size rfl rfl ringT (ib_new w1 (ring0 0)) rfl LM.out ?_; intro w2 I2 s2 k2 b2; have B2 := Lib.hid (B1.out.trans (((Below.refl w.heap.size w1).alloc B1.out.size _).trans (b2 w.heap.size B1.out.size))); clear I2 s2 k2 b2))
      go_ret2
      exact listB_no T.out B2.out
  obtain ⟨m, rfl, hm8⟩ := in_many hi
  clear hi
  have T := Lib.hid (manyOf_yes HR.out hm8)
  have M8 := Lib.hid hm8; have H20 := Lib.hid h20; have H1 := Lib.hid hlen
  have d0 : decide ((m : Int) < 0) = false := by simp
  have d1 : decide (8 < (m : Int)) = false := by simp; omega
  clear hm8 h20 hlen
  go_enter Try.func27, Try.ntmps27
  go_wp2_with fail
  refine (ring_yes H.out HR.out).mono ?_
  rintro e w1 ⟨rfl, b1⟩
  have B1 := Lib.hid b1
  obtain ⟨b, hb⟩ : ∃ b, w1.heap.size = b := ⟨_, rfl⟩
  have HB : Hid (w.heap.size ≤ b) := Lib.hid (by rw [← hb]; exact b1.size)
  have N1 := ib_new (T := 46) w1 (ring0 0)
  rw [hb] at N1
  have N1 := Lib.hid N1
  have HB1 := Lib.hid hb
  clear b1 hb
  go_upto_region 2 with (first
    | (refine wpList_alloc_box ringT rfl rfl ?_)
    | (rw [HB1.out]; refine wpList_store_box rfl _ _ rfl b rfl rfl ringT N1.out rfl LM.out ?_; intro w2 I2 s2 k2 b2; have I2 := Lib.hid I2; have B2 := Lib.hid (B1.out.trans (((Below.refl w.heap.size w1).alloc B1.out.size _).trans (b2 w.heap.size HB.out))); clear s2 k2 b2))
  go_wp2_with fail
  go_loopg [25] m (fun k x wr => ∃ j : Nat, x = .int .i64 j ∧ j + k = m ∧ IB 46 wr b (ringM (passN j l)) ∧ Below w.heap.size w wr)
  case atStart => exact ⟨0, rfl, by omega, I2.out, B2.out⟩
  case round =>
    obtain ⟨j, rfl, hk, hi, hb⟩ := hrel
    have K := Lib.hid hk; have I := Lib.hid hi; have B := Lib.hid hb
    have hjl : j ≤ m := by omega
    have LJ : Hid ((ringM (passN j l)).length = 41) := Lib.hid (ringM_length (by rw [passN_length]; exact H20.out))
    have LK : Hid ((ringM (passN (j + 1) l)).length = 41) := Lib.hid (ringM_length (by rw [passN_length]; exact H20.out))
    clear hk hi hb I2 B2 N1 HB1
    by_cases hlt : j < m
    · have i1 : (j : Int) < (m : Int) := by omega
      have e9 : IntKind.i64.wrap ((j : Int) + 1) = (j : Int) + 1 := IntWalk.i64_in _ (by have := M8.out; omega)
      go_wp2_with (refine wpList_load_box rfl _ rfl b rfl ringT Try.underlying46 I.out LJ.out ?_)
      refine (smoothed_any (by rw [passN_length]; exact H1.out) (by rw [passN_length]; exact H20.out) (row_passN HR.out (by have := M8.out; omega))).mono ?_
      rintro e w3 ⟨rfl, b3⟩
      have I3 := Lib.hid (I.out.grow b3 I.out.lt); have B3 := Lib.hid (B.out.trans (b3.mono B.out.size))
      clear b3
      go_wp2_with (refine wpList_store_box rfl _ _ rfl b rfl rfl ringT I3.out LJ.out LK.out ?_; intro w4 I4 s4 k4 b4; have I4 := Lib.hid I4; have B4 := Lib.hid (B3.out.trans (b4 w.heap.size HB.out)); clear s4 k4 b4)
      go_roundg (gk - 1)
      case measure => have := K.out; omega
      case rel => exact ⟨j + 1, by go_num, by have := K.out; omega, I4.out, B4.out⟩
    · have hj : j = m := by omega
      subst hj
      have i1 : ¬ (j : Int) < (j : Int) := by omega
      go_wp2_with (refine wpList_load_box rfl _ rfl b rfl ringT Try.underlying46 I.out LJ.out ?_)
      refine (ringRow_any (by rw [passN_length]; exact H20.out)).mono ?_
      rintro e w3 ⟨v3, rfl, o3, b3⟩
      have O3 := Lib.hid (o3.mono B.out.size); have B3 := Lib.hid (B.out.trans (b3.mono B.out.size))
      clear o3 b3
      go_wp2_with fail
      go_ret2
      rw [T.out]
      exact ⟨_, rfl, O3.out, B3.out⟩
theorem many_one (l : List Int) : manyOf l 1 = passOf l := by
  cases h : isRow l
  · rw [manyOf_no (.inl h), passOf_no h]
  · show manyOf l ((1 : Nat) : Int) = _
    rw [manyOf_yes (n := 1) h (by omega), passOf_yes h]; rfl
theorem implSmoothPass_any {w : World} {v : Value} {l : List Int} (h : IRow w v l) :
    Calls Try.prog 23 #[v] w fun e w' => ListB w (passOf l) e w' := by
  have H := Lib.hid h
  obtain ⟨a, c, rfl, _, _⟩ := h.len
  clear h
  go_enter Try.func23, Try.ntmps23
  go_wp2_with fail
  refine (implSmoothMany_any 1 H.out).mono ?_
  rintro e w1 ⟨v1, rfl, o1, b1⟩
  rw [many_one] at o1 ⊢
  have O1 := Lib.hid o1; have B1 := Lib.hid b1
  clear o1 b1
  go_wp2_with fail
  go_ret2
  exact ⟨_, rfl, O1.out, B1.out⟩
set_option maxHeartbeats 1600000 in
theorem implSmoothSum_any {w : World} {v : Value} {l : List Int} (h : IRow w v l) :
    Calls Try.prog 13 #[v] w fun e w' => NumB (sumOk l) e ∧ Below w.heap.size w w' := by
  have H := Lib.hid h
  obtain ⟨a, c, rfl, _, _⟩ := h.len
  clear h
  cases hr : isRow l
  · have HR := Lib.hid hr
    have T := Lib.hid (sumOk_no hr)
    clear hr
    go_enter Try.func13, Try.ntmps13
    go_wp2_with fail
    refine (ring_no H.out HR.out).mono ?_
    rintro e w1 ⟨rfl, b1⟩
    have B1 := Lib.hid b1
    clear b1
    go_wp2_with (first
      | (refine wpList_alloc_box ringT rfl rfl ?_)
      | (refine wpList_store_box rfl _ _ rfl w1.heap.size rfl rfl ringT (ib_new w1 (ring0 0)) rfl rfl ?_; intro w2 I2 s2 k2 b2; have B2 := Lib.hid (B1.out.trans (((Below.refl w.heap.size w1).alloc B1.out.size _).trans (b2 w.heap.size B1.out.size))); clear I2 s2 k2 b2))
    go_ret2
    rw [T.out]
    exact ⟨rfl, B2.out⟩
  have HR := Lib.hid hr
  have T := Lib.hid (sumOk_yes hr)
  have h20 := (isRow_iff.1 hr).2.1
  have LM : Hid ((ringM l).length = 41) := Lib.hid (ringM_length h20)
  clear hr
  go_enter Try.func13, Try.ntmps13
  go_wp2_with fail
  refine (ring_yes H.out HR.out).mono ?_
  rintro e w1 ⟨rfl, b1⟩
  have B1 := Lib.hid b1
  obtain ⟨b, hb⟩ : ∃ b, w1.heap.size = b := ⟨_, rfl⟩
  have HB : Hid (w.heap.size ≤ b) := Lib.hid (by rw [← hb]; exact b1.size)
  have N1 := ib_new (T := 46) w1 (ring0 0)
  rw [hb] at N1
  have N1 := Lib.hid N1
  have HB1 := Lib.hid hb
  clear b1 hb
  go_wp2_with (first
    | (refine wpList_alloc_box ringT rfl rfl ?_)
    | (rw [HB1.out]; refine wpList_store_box rfl _ _ rfl b rfl rfl ringT N1.out rfl LM.out ?_; intro w2 I2 s2 k2 b2; have I2 := Lib.hid I2; have B2 := Lib.hid (B1.out.trans (((Below.refl w.heap.size w1).alloc B1.out.size _).trans (b2 w.heap.size HB.out))); clear s2 k2 b2)
    | (refine wpList_load_box rfl _ rfl b rfl ringT Try.underlying46 I2.out LM.out ?_))
  refine (ringRow_any h20).mono ?_
  rintro e w3 ⟨v3, rfl, o3, b3⟩
  obtain ⟨a3, c3, rfl, h31, h32, l3⟩ := o3.row.parts
  have L3 := Lib.hid l3; have B3 := Lib.hid (B2.out.trans (b3.mono B2.out.size))
  unfold maxLen at h32
  clear o3 b3 l3
  go_wp2_with fail
  go_loopg [6, 19] l.length (fun k y x wr => ∃ j : Nat, x = .int .i64 j ∧ y = .int .i64 (l.take j).sum ∧ j + k = l.length ∧ w3 = wr)
  case atStart => exact ⟨0, rfl, rfl, by omega, rfl⟩
  case round =>
    obtain ⟨j, rfl, rfl, hk, rfl⟩ := hrel
    have K := Lib.hid hk
    have hjl : j ≤ l.length := by omega
    clear hk
    by_cases hlt : j < l.length
    · obtain ⟨g, o, rfl, d1⟩ := ilies_cell L3.out j hlt
      have i1 : (j : Int) < (l.length : Int) := by omega
      have i2 : (0 : Int) ≤ (j : Int) := by omega
      have hs := take_sum_step hlt
      have s1 := row_sum_take HR.out j
      have s2 := row_sum_take HR.out (j + 1)
      have e1 : IntKind.i64.wrap ((l.take j).sum + l[j]) = (l.take (j + 1)).sum := by rw [hs]; exact IntWalk.i64_in _ (by omega)
      clear hs
      go_wp2_with fail
      go_roundg (gk - 1)
      case measure => have := K.out; omega
      case rel => exact ⟨j + 1, by go_num, by first | rfl | (rw [e1]), by have := K.out; omega, rfl⟩
    · have hj : j = l.length := by omega
      have e1 : (l.take j).sum = l.sum := by rw [hj, List.take_length]
      rw [e1]
      clear e1
      go_wp2_with fail
      go_ret2
      rw [T.out]
      exact ⟨rfl, B3.out⟩

theorem implSmoothRough_any {w : World} {v : Value} {l : List Int} (h : IRow w v l) :
    Calls Try.prog 18 #[v] w fun e w' => e = .returned (.int .i64 (roughOk l)) ∧ Below w.heap.size w w' := by
  have H := Lib.hid h
  obtain ⟨a, c, rfl, _, _⟩ := h.len
  clear h
  cases hr : isRow l
  · have HR := Lib.hid hr
    have T := Lib.hid (roughOk_no hr)
    clear hr
    go_enter Try.func18, Try.ntmps18
    go_wp2_with fail
    refine (ring_no H.out HR.out).mono ?_
    rintro e w1 ⟨rfl, b1⟩
    have B1 := Lib.hid b1
    clear b1
    go_wp2_with (first
      | (refine wpList_alloc_box ringT rfl rfl ?_)
      | (refine wpList_store_box rfl _ _ rfl w1.heap.size rfl rfl ringT (ib_new w1 (ring0 0)) rfl rfl ?_; intro w2 I2 s2 k2 b2; have B2 := Lib.hid (B1.out.trans (((Below.refl w.heap.size w1).alloc B1.out.size _).trans (b2 w.heap.size B1.out.size))); clear I2 s2 k2 b2))
    go_ret
    rw [T.out]
    exact ⟨rfl, B2.out⟩
  have HR := Lib.hid hr
  have T := Lib.hid (roughOk_yes hr)
  have h20 := (isRow_iff.1 hr).2.1
  have LM : Hid ((ringM l).length = 41) := Lib.hid (ringM_length h20)
  clear hr
  go_enter Try.func18, Try.ntmps18
  go_wp2_with fail
  refine (ring_yes H.out HR.out).mono ?_
  rintro e w1 ⟨rfl, b1⟩
  have B1 := Lib.hid b1
  obtain ⟨b, hb⟩ : ∃ b, w1.heap.size = b := ⟨_, rfl⟩
  have HB : Hid (w.heap.size ≤ b) := Lib.hid (by rw [← hb]; exact b1.size)
  have N1 := ib_new (T := 46) w1 (ring0 0)
  rw [hb] at N1
  have N1 := Lib.hid N1
  have HB1 := Lib.hid hb
  clear b1 hb
  go_wp2_with (first
    | (refine wpList_alloc_box ringT rfl rfl ?_)
    | (rw [HB1.out]; refine wpList_store_box rfl _ _ rfl b rfl rfl ringT N1.out rfl LM.out ?_; intro w2 I2 s2 k2 b2; have I2 := Lib.hid I2; have B2 := Lib.hid (B1.out.trans (((Below.refl w.heap.size w1).alloc B1.out.size _).trans (b2 w.heap.size HB.out))); clear s2 k2 b2)
    | (refine wpList_load_box rfl _ rfl b rfl ringT Try.underlying46 I2.out LM.out ?_))
  refine (ringRough_any HR.out).mono ?_
  rintro e w3 ⟨rfl, b3⟩
  have B3 := Lib.hid (B2.out.trans (b3.mono B2.out.size))
  clear b3
  go_wp2_with fail
  go_ret
  rw [T.out]
  exact ⟨rfl, B3.out⟩
theorem implSmoothRange_any {w : World} {v : Value} {l : List Int} (h : IRow w v l) :
    Calls Try.prog 16 #[v] w fun e w' => RangeB (rangeOk l) e ∧ Below w.heap.size w w' := by
  have H := Lib.hid h
  obtain ⟨a, c, rfl, _, _⟩ := h.len
  clear h
  cases hr : isRow l
  · have HR := Lib.hid hr
    have T := Lib.hid (rangeOk_no hr)
    clear hr
    go_enter Try.func16, Try.ntmps16
    go_wp2_with fail
    refine (ring_no H.out HR.out).mono ?_
    rintro e w1 ⟨rfl, b1⟩
    have B1 := Lib.hid b1
    clear b1
    go_wp2_with (first
      | (refine wpList_alloc_box ringT rfl rfl ?_)
      | (refine wpList_store_box rfl _ _ rfl w1.heap.size rfl rfl ringT (ib_new w1 (ring0 0)) rfl rfl ?_; intro w2 I2 s2 k2 b2; have B2 := Lib.hid (B1.out.trans (((Below.refl w.heap.size w1).alloc B1.out.size _).trans (b2 w.heap.size B1.out.size))); clear I2 s2 k2 b2))
    go_ret3
    rw [T.out]
    exact ⟨rfl, B2.out⟩
  have HR := Lib.hid hr
  have T := Lib.hid (rangeOk_yes hr)
  have h20 := (isRow_iff.1 hr).2.1
  have H1 := Lib.hid (isRow_iff.1 hr).1
  have LM : Hid ((ringM l).length = 41) := Lib.hid (ringM_length h20)
  clear hr
  go_enter Try.func16, Try.ntmps16
  go_wp2_with fail
  refine (ring_yes H.out HR.out).mono ?_
  rintro e w1 ⟨rfl, b1⟩
  have B1 := Lib.hid b1
  obtain ⟨b, hb⟩ : ∃ b, w1.heap.size = b := ⟨_, rfl⟩
  have HB : Hid (w.heap.size ≤ b) := Lib.hid (by rw [← hb]; exact b1.size)
  have N1 := ib_new (T := 46) w1 (ring0 0)
  rw [hb] at N1
  have N1 := Lib.hid N1
  have HB1 := Lib.hid hb
  clear b1 hb
  go_wp2_with (first
    | (refine wpList_alloc_box ringT rfl rfl ?_)
    | (rw [HB1.out]; refine wpList_store_box rfl _ _ rfl b rfl rfl ringT N1.out rfl LM.out ?_; intro w2 I2 s2 k2 b2; have I2 := Lib.hid I2; have B2 := Lib.hid (B1.out.trans (((Below.refl w.heap.size w1).alloc B1.out.size _).trans (b2 w.heap.size HB.out))); clear s2 k2 b2)
    | (refine wpList_load_box rfl _ rfl b rfl ringT Try.underlying46 I2.out LM.out ?_))
  refine (ringRow_any h20).mono ?_
  rintro e w3 ⟨v3, rfl, o3, b3⟩
  have R3 := Lib.hid o3.row; have B3 := Lib.hid (B2.out.trans (b3.mono B2.out.size))
  clear o3 b3
  go_wp2_with fail
  refine (low_any R3.out H1.out).mono ?_
  rintro e w4 ⟨rfl, rfl⟩
  go_wp2_with fail
  refine (high_any R3.out H1.out).mono ?_
  rintro e w4 ⟨rfl, rfl⟩
  go_wp2_with fail
  go_ret3
  rw [T.out]
  exact ⟨rfl, B3.out⟩
end Go.Proofs.Ytdnalkppligodab
