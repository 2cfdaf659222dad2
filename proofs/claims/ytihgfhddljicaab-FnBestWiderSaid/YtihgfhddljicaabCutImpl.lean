/- The contracts of the program's functions on cuts: valid arguments, allowed cuts, costs. -/
import Derived.Test.YtihgfhddljicaabCutSpec
import Derived.Test.YtihgfhddljicaabMinMax
import Derived.Handy
namespace Go.Proofs.Ytihgfhddljicaab
open Go.RowKit

theorem placesValid_any (n : Int) (w : World) : Calls Try.prog 39 #[.int .i64 n] w fun e w' => e = .returned (.bool (isPlace n)) ∧ w = w' := by
  by_cases h : 1 ≤ n
  · by_cases h' : n ≤ 16
    · have R := Lib.hid (isPlace_iff.2 ⟨h, h'⟩)
      go_enter Try.func39, Try.ntmps39
      go_wp2_with fail
      go_ret
      exact ⟨by rw [R.out]; rfl, rfl⟩
    · have R : Hid (isPlace n = false) := Lib.hid (by cases k : isPlace n; rfl; have := isPlace_iff.1 k; omega)
      go_enter Try.func39, Try.ntmps39
      go_wp2_with fail
      go_ret
      exact ⟨by rw [R.out]; rfl, rfl⟩
  · have R : Hid (isPlace n = false) := Lib.hid (by cases k : isPlace n; rfl; have := isPlace_iff.1 k; omega)
    go_enter Try.func39, Try.ntmps39
    go_wp2_with fail
    go_ret
    exact ⟨by rw [R.out]; rfl, rfl⟩
theorem placeI_is {n : Int} {b : Bool} (h : isPlace n = b) (w : World) : Calls Try.prog 39 #[.int .i64 n] w fun e w' => e = .returned (.bool b) ∧ w = w' := by
  have := placesValid_any n w
  rwa [h] at this
theorem lim_no {lo mo : Int} (h : ¬ (1 ≤ lo ∧ lo ≤ mo ∧ mo ≤ 16)) : isLim lo mo = false := by
  cases k : isLim lo mo
  · rfl
  · exact absurd (isLim_iff.1 k) h
theorem valid_any (lo mo : Int) (w : World) : Calls Try.prog 32 #[.agg #[.int .i64 lo, .int .i64 mo]] w fun e w' => e = .returned (.bool (isLim lo mo)) ∧ Below w.heap.size w w' := by
  have B0 := Lib.hid ((Below.refl w.heap.size w).alloc (Nat.le_refl _) (.cells #[.int .i64 lo, .int .i64 mo] 47))
  by_cases h1 : 1 ≤ lo
  · by_cases h2 : lo ≤ mo
    · by_cases h3 : mo ≤ 16
      · have R := Lib.hid (isLim_iff.2 ⟨h1, h2, h3⟩)
        go_enter Try.func32, Try.ntmps32
        go_wp2_with fail
        go_ret
        exact ⟨by rw [R.out]; rfl, B0.out⟩
      · have R := Lib.hid (lim_no (lo := lo) (mo := mo) (by omega))
        go_enter Try.func32, Try.ntmps32
        go_wp2_with fail
        go_ret
        exact ⟨by rw [R.out]; rfl, B0.out⟩
    · have R := Lib.hid (lim_no (lo := lo) (mo := mo) (by omega))
      go_enter Try.func32, Try.ntmps32
      go_wp2_with fail
      go_ret
      exact ⟨by rw [R.out]; rfl, B0.out⟩
  · have R := Lib.hid (lim_no (lo := lo) (mo := mo) (by omega))
    go_enter Try.func32, Try.ntmps32
    go_wp2_with fail
    go_ret
    exact ⟨by rw [R.out]; rfl, B0.out⟩
theorem limI_is {lo mo : Int} {b : Bool} (h : isLim lo mo = b) (w : World) : Calls Try.prog 32 #[.agg #[.int .i64 lo, .int .i64 mo]] w fun e w' => e = .returned (.bool b) ∧ Below w.heap.size w w' := by
  have := valid_any lo mo w
  rwa [h] at this
theorem sig_ends {l : List Int} (h0 : 1 ≤ l.length) (h16 : l.length ≤ 16) : isSig l = (decide (0 ≤ lowL l) && decide (highL l ≤ 1000)) := by
  rw [Bool.eq_iff_iff, isSig_iff, Bool.and_eq_true, decide_eq_true_eq, decide_eq_true_eq]
  constructor
  · rintro ⟨_, _, h⟩
    exact ⟨(h _ (low_mem h0)).1, (h _ (high_mem h0)).2⟩
  · rintro ⟨a, b⟩
    exact ⟨h0, h16, fun x hx => by have := ends_all l x hx; omega⟩
theorem sig_place {l : List Int} (h : isPlace l.length = false) : isSig l = false := by unfold isSig; rw [h]; rfl
theorem signalValid_any {w : World} {v : Value} {l : List Int} (h : IRow w v l) : Calls Try.prog 31 #[v] w fun e w' => e = .returned (.bool (isSig l)) ∧ w = w' := by
  have H := Lib.hid h
  obtain ⟨a, c, rfl, h1, h2⟩ := h.len
  unfold maxLen at h2
  clear h
  cases hp : isPlace (l.length : Int)
  · have HP := Lib.hid hp
    have R := Lib.hid (sig_place hp)
    clear hp
    go_enter Try.func31, Try.ntmps31
    go_wp2_with fail
    refine (placeI_is HP.out _).mono ?_
    rintro e w1 ⟨rfl, rfl⟩
    go_wp2_with fail
    go_ret
    exact ⟨by rw [R.out]; rfl, rfl⟩
  · have HP := Lib.hid hp
    have hp' := isPlace_iff.1 hp
    have R := Lib.hid (sig_ends (l := l) (by omega) (by omega))
    have h0 : 0 < l.length := by omega
    obtain ⟨x, hx⟩ : ∃ x : Int, lowL l = x := ⟨_, rfl⟩
    obtain ⟨y, hy⟩ : ∃ x : Int, highL l = x := ⟨_, rfl⟩
    have LX : Hid (Calls Try.prog 44 #[.slice a l.length c] w fun e w' => e = .returned (.int .i64 x) ∧ w = w') := Lib.hid (by have := low_any H.out h0; rwa [hx] at this)
    have LY : Hid (Calls Try.prog 45 #[.slice a l.length c] w fun e w' => e = .returned (.int .i64 y) ∧ w = w') := Lib.hid (by have := high_any H.out h0; rwa [hy] at this)
    rw [hx, hy] at R
    clear hp hp' hx hy
    by_cases c1 : 0 ≤ x
    · have R2 : Hid (isSig l = decide (y ≤ 1000)) := Lib.hid (by rw [R.out, decide_eq_true c1]; rfl)
      go_enter Try.func31, Try.ntmps31
      go_wp2_with fail
      refine (placeI_is HP.out _).mono ?_
      rintro e w1 ⟨rfl, rfl⟩
      go_wp2_with fail
      refine LX.out.mono ?_
      rintro e w1 ⟨rfl, rfl⟩
      go_wp2_with fail
      refine LY.out.mono ?_
      rintro e w1 ⟨rfl, rfl⟩
      go_wp2_with fail
      go_ret
      exact ⟨by rw [R2.out]; rfl, rfl⟩
    · have R2 : Hid (isSig l = false) := Lib.hid (by rw [R.out, decide_eq_false c1]; rfl)
      go_enter Try.func31, Try.ntmps31
      go_wp2_with fail
      refine (placeI_is HP.out _).mono ?_
      rintro e w1 ⟨rfl, rfl⟩
      go_wp2_with fail
      refine LX.out.mono ?_
      rintro e w1 ⟨rfl, rfl⟩
      go_wp2_with fail
      go_ret
      exact ⟨by rw [R2.out]; rfl, rfl⟩
theorem sigI_is {w : World} {v : Value} {l : List Int} {b : Bool} (h : IRow w v l) (hb : isSig l = b) : Calls Try.prog 31 #[v] w fun e w' => e = .returned (.bool b) ∧ w = w' := by
  have := signalValid_any h
  rwa [hb] at this
set_option maxHeartbeats 1600000 in
theorem implAllowed_any {w : World} {v u : Value} {c l : List Int} (lo mo : Int) (h : IRow w v c) (k : IRow w u l) (hl : l.length ≤ 100000000) :
    Calls Try.prog 24 #[v, .int .i64 lo, .int .i64 mo, u] w fun e w' => e = .returned (.bool (allowedB c lo mo l)) ∧ Below w.heap.size w w' := by
  have B0 := Lib.hid ((Below.refl w.heap.size w).alloc (Nat.le_refl _) (.cells #[.int .i64 lo, .int .i64 mo] 47))
  have H := Lib.hid (h.grow B0.out)
  have HK := Lib.hid (k.grow B0.out)
  obtain ⟨a, cp, rfl, h1, h2, _⟩ := h.parts
  obtain ⟨a', cp', rfl, h1', h2', hlie'⟩ := k.parts
  have hsz0 : w.heap.size ≤ (w.alloc (.cells #[.int .i64 lo, .int .i64 mo] 47)).heap.size := B0.out.size
  unfold maxLen at h2 h2'
  clear h
  cases hs : isSig c
  · have HS := Lib.hid hs
    have R := Lib.hid (allowed_not (lo := lo) (mo := mo) (l := l) (.inl hs))
    clear hs
    go_enter Try.func24, Try.ntmps24
    go_wp2_with fail
    refine (sigI_is H.out HS.out).mono ?_
    rintro e w1 ⟨rfl, rfl⟩
    go_wp2_with fail
    go_ret
    exact ⟨by rw [R.out]; rfl, B0.out⟩
  have HS := Lib.hid hs
  have hc16 := (isSig_iff.1 hs).2.1
  cases hm : isLim lo mo
  · have HM := Lib.hid hm
    have R := Lib.hid (allowed_not (c := c) (l := l) (.inr hm))
    clear hs hm
    go_enter Try.func24, Try.ntmps24
    go_wp2_with fail
    refine (sigI_is H.out HS.out).mono ?_
    rintro e w1 ⟨rfl, rfl⟩
    go_wp2_with fail
    refine (limI_is HM.out _).mono ?_
    rintro e w2 ⟨rfl, b2⟩
    have B2 := Lib.hid (B0.out.trans (b2.mono hsz0))
    clear b2
    go_wp2_with fail
    go_ret
    exact ⟨by rw [R.out]; rfl, B2.out⟩
  have HM := Lib.hid hm
  obtain ⟨m1, m2, m3⟩ := isLim_iff.1 hm
  have G := Lib.hid (allowed_goes (l := l) hs hm)
  clear hs hm hlie' k
  go_enter Try.func24, Try.ntmps24
  go_wp2_with fail
  refine (sigI_is H.out HS.out).mono ?_
  rintro e w1 ⟨rfl, rfl⟩
  go_wp2_with fail
  refine (limI_is HM.out _).mono ?_
  rintro e w2 ⟨rfl, b2⟩
  have B2 := Lib.hid (B0.out.trans (b2.mono hsz0))
  obtain ⟨x0, x1⟩ := held2 b2 (a := ⟨w.heap.size, 0, none⟩) (b := ⟨w.heap.size, 1, none⟩) (u := .int .i64 lo) (v := .int .i64 mo) (by go_cell) (by go_cell)
  obtain ⟨a2, cp2, e2, _, _, hl2⟩ := (HK.out.grow b2).parts
  simp only [Value.slice.injEq] at e2
  obtain ⟨rfl, -, rfl⟩ := e2
  have HL := Lib.hid hl2
  clear hl2 b2
  go_wp2_with fail
  go_loopg [10, 26] l.length (fun k x y wr => ∃ j : Nat, x = .int .i64 (placeAt l j) ∧ y = .int .i64 j ∧ j + k = l.length ∧ (∀ i (hi : i < l.length), i < j → isIn l[i] (placeAt l i + lo) (placeAt l i + mo) = true) ∧ w2 = wr)
  case atStart => exact ⟨0, rfl, rfl, by omega, fun i _ h => by omega, rfl⟩
  case round =>
    obtain ⟨j, rfl, rfl, hk, hs, rfl⟩ := hrel
    have K := Lib.hid hk; have S := Lib.hid hs
    have hjl : j ≤ l.length := by omega
    have pb := place_bound m1 m3 hjl hs
    clear hk hs
    by_cases hlt : j < l.length
    · obtain ⟨g, o, rfl, d1⟩ := ilies_cell HL.out j hlt
      have i0 : (0 : Int) ≤ (j : Int) := by omega
      have i1 : (j : Int) < (l.length : Int) := by omega
      have e1 : IntKind.i64.wrap (placeAt l j + lo) = placeAt l j + lo := IntWalk.i64_in _ (by omega)
      have e2 : IntKind.i64.wrap (placeAt l j + mo) = placeAt l j + mo := IntWalk.i64_in _ (by omega)
      have PN := Lib.hid (place_next hlt)
      by_cases c1 : placeAt l j + lo ≤ l[j]
      · by_cases c2 : l[j] ≤ placeAt l j + mo
        · have IN := Lib.hid (isIn_yes c1 c2)
          go_wp2_with fail
          go_roundg (gk - 1)
          case measure => have := K.out; omega
          case rel => exact ⟨j + 1, by rw [PN.out], by go_num, by have := K.out; omega, fun i hi hij => by
            by_cases e : i = j
            · subst e; exact IN.out
            · exact S.out i hi (by omega), rfl⟩
        · have R : Hid (allowedB c lo mo l = false) := Lib.hid (by rw [G.out]; exact goes_bad hlt S.out (isIn_iffF.2 fun q => c2 q.2))
          go_wp2_with fail
          go_ret
          exact ⟨by rw [R.out]; rfl, B2.out⟩
      · have R : Hid (allowedB c lo mo l = false) := Lib.hid (by rw [G.out]; exact goes_bad hlt S.out (isIn_iffF.2 fun q => c1 q.1))
        go_wp2_with fail
        go_ret
        exact ⟨by rw [R.out]; rfl, B2.out⟩
    · have hj : j = l.length := by omega
      have R : Hid (allowedB c lo mo l = decide (placeAt l j = (c.length : Int) - 1)) := Lib.hid (by rw [G.out, hj]; exact goes_all fun i hi => S.out i hi (by omega))
      have e3 : IntKind.i64.wrap ((c.length : Int) - 1) = (c.length : Int) - 1 := IntWalk.i64_in _ (by omega)
      clear hj
      go_wp2_with fail
      go_ret
      exact ⟨by rw [R.out]; rfl, B2.out⟩
theorem allowI_is {w : World} {v u : Value} {c l : List Int} {lo mo : Int} {b : Bool} (h : IRow w v c) (k : IRow w u l) (hl : l.length ≤ 100000000) (hb : allowedB c lo mo l = b) :
    Calls Try.prog 24 #[v, .int .i64 lo, .int .i64 mo, u] w fun e w' => e = .returned (.bool b) ∧ Below w.heap.size w w' := by
  have := implAllowed_any lo mo h k hl
  rwa [hb] at this
set_option maxHeartbeats 1600000 in
theorem implCost_any {w : World} {v u : Value} {c l : List Int} (lo mo : Int) (h : IRow w v c) (k : IRow w u l) (hl : l.length ≤ 100000000) :
    Calls Try.prog 16 #[v, .int .i64 lo, .int .i64 mo, u] w fun e w' => e = .returned (.int .i64 (costB c lo mo l)) ∧ Below w.heap.size w w' := by
  have H := Lib.hid h; have H' := Lib.hid k
  obtain ⟨a, cp, rfl, h1, h2, hlie⟩ := h.parts
  obtain ⟨a', cp', rfl, h1', h2', hlie'⟩ := k.parts
  have HC := Lib.hid hlie; have HL := Lib.hid hlie'
  unfold maxLen at h2 h2'
  clear h k hlie' hlie
  cases hs : allowedB c lo mo l
  · have HS := Lib.hid hs
    have R := Lib.hid (costB_no hs)
    clear hs
    go_enter Try.func16, Try.ntmps16
    go_wp2_with fail
    refine (allowI_is H.out H'.out hl HS.out).mono ?_
    rintro e w1 ⟨rfl, b1⟩
    have B1 := Lib.hid b1
    clear b1
    go_wp2_with fail
    go_ret
    exact ⟨by rw [R.out]; rfl, B1.out⟩
  have HS := Lib.hid hs
  have R := Lib.hid (costB_yes hs)
  obtain ⟨a, b, rfl, rfl, hal⟩ := allowed_is hs
  have AL := Lib.hid hal
  clear hs hal
  go_enter Try.func16, Try.ntmps16
  go_wp2_with fail
  refine (allowI_is H.out H'.out hl HS.out).mono ?_
  rintro e w1 ⟨rfl, b1⟩
  have B1 := Lib.hid b1
  have HC1 := Lib.hid (HC.out.grow b1); have HL1 := Lib.hid (HL.out.grow b1)
  clear b1 HC HL
  go_wp2_with fail
  go_loopg [9, 20] l.length (fun k x y wr => ∃ j : Nat, x = .int .i64 (costAt c (l.take j)) ∧ y = .int .i64 j ∧ j + k = l.length ∧ w1 = wr)
  case atStart => exact ⟨0, rfl, rfl, by omega, rfl⟩
  case round =>
    obtain ⟨j, rfl, rfl, hk, rfl⟩ := hrel
    have K := Lib.hid hk
    have hjl : j ≤ l.length := by omega
    clear hk
    by_cases hlt : j < l.length
    · obtain ⟨g, o, rfl, d1⟩ := ilies_cell HL1.out j hlt
      have pl := AL.out.places _ (List.getElem_mem hlt)
      have st := cost_step (c := c) hlt
      have b1 := AL.out.part j
      have b2 := AL.out.part (j + 1)
      obtain ⟨q, hq⟩ : ∃ q : Nat, l[j] = (q : Int) := ⟨l[j].toNat, by omega⟩
      rw [hq] at d1 pl st
      have hqc : q < c.length := by omega
      obtain ⟨g', o', rfl, d2⟩ := ilies_cell HC1.out q hqc
      rw [getD_in pl.1 pl.2] at st
      simp only [Int.toNat_natCast] at st
      obtain ⟨x, hx⟩ : ∃ x : Int, c[q] = x := ⟨_, rfl⟩
      rw [hx] at d2 st
      have i0 : (0 : Int) ≤ (j : Int) := by omega
      have i1 : (j : Int) < (l.length : Int) := by omega
      have i2 : (0 : Int) ≤ (q : Int) := by omega
      have i3 : (q : Int) < (c.length : Int) := by omega
      have e1 : IntKind.i64.wrap (costAt c (l.take j) + x) = costAt c (l.take (j + 1)) := by rw [← st]; exact IntWalk.i64_in _ (by omega)
      clear st hx hq
      go_wp2_with fail
      go_roundg (gk - 1)
      case measure => have := K.out; omega
      case rel => exact ⟨j + 1, by first | rfl | (rw [e1]), by go_num, by have := K.out; omega, rfl⟩
    · have hj : j = l.length := by omega
      have e1 : costAt c (l.take j) = costB c (a : Int) (b : Int) l := by rw [R.out, hj, List.take_length]
      rw [e1]
      clear e1
      go_wp2_with fail
      go_ret
      exact ⟨rfl, B1.out⟩
theorem costI_is {w : World} {v u : Value} {c l : List Int} {lo mo x : Int} (h : IRow w v c) (k : IRow w u l) (hl : l.length ≤ 100000000) (hb : costB c lo mo l = x) :
    Calls Try.prog 16 #[v, .int .i64 lo, .int .i64 mo, u] w fun e w' => e = .returned (.int .i64 x) ∧ Below w.heap.size w w' := by
  have := implCost_any lo mo h k hl
  rwa [hb] at this
end Go.Proofs.Ytihgfhddljicaab
