/- The contracts of the model's functions on parts: which lists are parts, how many texts and orders there are. -/
import Derived.Test.YtcemgdekcfdfhaaDoorInts
import Derived.Test.YtcemgdekcfdfhaaDoorGcd
import Derived.Test.YtcemgdekcfdfhaaDoorRegion
import Derived.Test.YtcemgdekcfdfhaaDoorOrdPart
namespace Go.Proofs.YtcemgdekcfdfhaaDoor
open Go.RowKit

theorem inn_is {n a b : Int} {c : Bool} (h : isIn n a b = c) (w : World) :
    Calls Tryd.prog 29 #[.int .i64 n, .int .i64 a, .int .i64 b] w fun e w' => e = .returned (.bool c) ∧ w = w' := by
  subst h; exact l6In_any _ _ _ _
theorem parB_in (x : Int) : parB x = isIn x 0 6 := by
  rw [Bool.eq_iff_iff, parB_iff]; simp only [isIn, decide_eq_true_eq]
theorem isPar_no {a b : List Int} {i : Nat} (hi : i < a.length) (h2 : i < b.length) (h : parB a[i] = false ∨ parB b[i] = false) : isPar a b = false := by
  cases c : isPar a b
  · rfl
  · have w := isPar_iff.1 c
    have h3 := parB_iff.2 (w.a6 i hi); have h4 := parB_iff.2 (w.b6 i h2)
    rcases h with h | h
    · rw [h3] at h; cases h
    · rw [h4] at h; cases h
theorem isPar_short {a b : List Int} (h : isIn (a.length : Int) 1 4 = false ∨ (b.length : Int) ≠ (a.length : Int)) : isPar a b = false := by
  cases c : isPar a b
  · rfl
  · have w := isPar_iff.1 c
    have := w.one; have := w.most; have := w.len
    rcases h with h | h
    · simp only [isIn, decide_eq_false_iff_not] at h; omega
    · omega
theorem isPar_yes {a b : List Int} (h1 : isIn (a.length : Int) 1 4 = true) (h2 : (b.length : Int) = (a.length : Int)) (h : ∀ i (h1 : i < a.length) (h2 : i < b.length), parB a[i] = true ∧ parB b[i] = true) : isPar a b = true := by
  simp only [isIn, decide_eq_true_eq] at h1
  exact isPar_iff.2 ⟨by omega, by omega, by omega, fun i hi => parB_iff.1 (h i hi (by omega)).1, fun i hi => parB_iff.1 (h i (by omega) hi).2⟩
set_option maxRecDepth 100000 in
set_option maxHeartbeats 1600000 in
theorem specPar_any {w : World} {v u : Value} {a b : List Int} (h : IRow w v a) (k : IRow w u b) :
    Calls Tryd.prog 36 #[v, u] w fun e w' => Val w (.bool (isPar a b)) e w' := by
  obtain ⟨pa, ca, rfl, h1, h2⟩ := h.len
  obtain ⟨pb, cb, rfl, k1, k2⟩ := k.len
  have H := Lib.hid h; have H' := Lib.hid k
  unfold maxLen at h2 k2
  clear h k
  cases hx : isIn (a.length : Int) 1 4
  · have HX := Lib.hid hx
    have R := Lib.hid (isPar_short (b := b) (.inl hx))
    clear hx
    go_enter Tryd.func36, Tryd.ntmps36
    go_wp2_with fail
    refine (inn_is HX.out _).mono ?_
    rintro e w1 ⟨rfl, rfl⟩
    go_wp2_with fail
    go_ret
    exact ⟨by rw [R.out]; rfl, Below.refl _ _⟩
  have HX := Lib.hid hx
  by_cases hl : (b.length : Int) = (a.length : Int)
  case neg =>
    have hl2 : ((b.length : Int) != (a.length : Int)) = true := by simpa using hl
    have R := Lib.hid (isPar_short (.inr hl))
    clear hx hl
    go_enter Tryd.func36, Tryd.ntmps36
    go_wp2_with fail
    refine (inn_is HX.out _).mono ?_
    rintro e w1 ⟨rfl, rfl⟩
    go_wp2_with fail
    go_ret
    exact ⟨by rw [R.out]; rfl, Below.refl _ _⟩
  have hl2 : ((b.length : Int) != (a.length : Int)) = false := by simpa using hl
  have HL := Lib.hid hl
  clear hx hl
  go_enter Tryd.func36, Tryd.ntmps36
  go_wp2_with fail
  refine (inn_is HX.out _).mono ?_
  rintro e w1 ⟨rfl, rfl⟩
  go_wp2_with fail
  go_loopg [5] a.length (fun k x wr => ∃ j : Nat, x = .int .i64 j ∧ j + k = a.length ∧ (∀ i (h1 : i < a.length) (h2 : i < b.length), i < j → parB a[i] = true ∧ parB b[i] = true) ∧ Below w.heap.size w wr)
  case atStart => exact ⟨0, rfl, by omega, fun i _ _ hi => by omega, Below.refl _ _⟩
  case round =>
    obtain ⟨j, rfl, hk, hs, hb⟩ := hrel
    have K := Lib.hid hk; have S := Lib.hid hs; have B := Lib.hid hb
    have hjl : j ≤ a.length := by omega
    clear hk hs hb
    by_cases hlt : j < a.length
    · have hlb : j < b.length := by have := HL.out; omega
      obtain ⟨ga, oa, c1, e1, _, _⟩ := H.out.known (by omega)
      simp only [Value.slice.injEq, true_and] at e1
      obtain ⟨rfl, rfl⟩ := e1
      obtain ⟨gb, ob, c2, e2, _, _⟩ := H'.out.known (by omega)
      simp only [Value.slice.injEq, true_and] at e2
      obtain ⟨rfl, rfl⟩ := e2
      have d1 := H.out.cells j hlt
      have d2 := H'.out.cells j hlb
      have y1 := (B.out.cell (cell_below d1)).trans d1
      have y2 := (B.out.cell (cell_below d2)).trans d2
      have i0 : (0 : Int) ≤ (j : Int) := by omega
      have i1 : (j : Int) < (a.length : Int) := by omega
      have i2 : (j : Int) < (b.length : Int) := by omega
      obtain ⟨x, hx⟩ : ∃ x, a[j] = x := ⟨_, rfl⟩
      obtain ⟨y, hy⟩ : ∃ y, b[j] = y := ⟨_, rfl⟩
      have PX : Hid (parB a[j] = isIn x 0 6) := Lib.hid (by rw [hx]; exact parB_in x)
      have PY : Hid (parB b[j] = isIn y 0 6) := Lib.hid (by rw [hy]; exact parB_in y)
      rw [hx] at y1
      rw [hy] at y2
      clear d1 d2 hx hy
      cases hx : isIn x 0 6
      · have HX2 := Lib.hid hx
        have R := Lib.hid (isPar_no hlt hlb (.inl (by rw [PX.out, hx])))
        clear hx
        go_wp2_with fail
        refine (inn_is HX2.out _).mono ?_
        rintro e w1 ⟨rfl, rfl⟩
        go_wp2_with fail
        go_ret
        exact ⟨by rw [R.out]; rfl, B.out⟩
      · cases hy : isIn y 0 6
        · have HX2 := Lib.hid hx
          have HY2 := Lib.hid hy
          have R := Lib.hid (isPar_no hlt hlb (.inr (by rw [PY.out, hy])))
          clear hx hy
          go_wp2_with fail
          refine (inn_is HX2.out _).mono ?_
          rintro e w1 ⟨rfl, rfl⟩
          go_wp2_with fail
          refine (inn_is HY2.out _).mono ?_
          rintro e w1 ⟨rfl, rfl⟩
          go_wp2_with fail
          go_ret
          exact ⟨by rw [R.out]; rfl, B.out⟩
        · have HX2 := Lib.hid hx
          have HY2 := Lib.hid hy
          have S2 : Hid (∀ i (h1 : i < a.length) (h2 : i < b.length), i < j + 1 → parB a[i] = true ∧ parB b[i] = true) := Lib.hid (fun i h1 h2 hi => by
            rcases Nat.lt_or_ge i j with c | c
            · exact S.out i h1 h2 c
            · obtain rfl : i = j := by omega
              exact ⟨by rw [PX.out, hx], by rw [PY.out, hy]⟩)
          clear hx hy
          go_wp2_with fail
          refine (inn_is HX2.out _).mono ?_
          rintro e w1 ⟨rfl, rfl⟩
          go_wp2_with fail
          refine (inn_is HY2.out _).mono ?_
          rintro e w1 ⟨rfl, rfl⟩
          go_wp2_with fail
          go_roundg (gk - 1)
          case measure => have := K.out; omega
          case rel => exact ⟨j + 1, by go_num, by have := K.out; omega, S2.out, B.out⟩
    · have T : Hid (isPar a b = true) := Lib.hid (isPar_yes HX.out HL.out fun i h1 h2 => S.out i h1 h2 (by omega))
      go_wp2_with fail
      go_ret
      exact ⟨by rw [T.out]; rfl, B.out⟩
theorem parS_is {w : World} {v u : Value} {a b : List Int} {c : Bool} (h : IRow w v a) (k : IRow w u b) (hc : isPar a b = c) : Calls Tryd.prog 36 #[v, u] w fun e w' => Val w (.bool c) e w' := by
  have := specPar_any h k; rwa [hc] at this
/-- The number of texts, by products and quotients. -/
theorem choose_any (a b : Nat) (ha : a < 7) (hb : b < 7) (w : World) : Calls Tryd.prog 42 #[.int .i64 a, .int .i64 b] w fun e w' => e = .returned (.int .i64 (ch a b : Nat)) ∧ w = w' := by
  go_enter Tryd.func42, Tryd.ntmps42
  go_wp2_with fail
  go_loopg [5, 6] a (fun k x y wr => ∃ i : Nat, y = .int .i64 ((i : Int) + 1) ∧ i + k = a ∧ x = .int .i64 (ch i b : Nat) ∧ w = wr)
  case atStart => exact ⟨0, rfl, by omega, rfl, rfl⟩
  case round =>
    obtain ⟨i, rfl, hk, rfl, rfl⟩ := hrel
    have K := Lib.hid hk
    have hia : i ≤ a := by omega
    clear hk
    by_cases hlt : i < a
    · have i1 : (i : Int) + 1 ≤ (a : Int) := by omega
      have m := ch_mul i (by omega) b hb
      have c1 := ch_most i (by omega) b hb
      have c2 := ch_most (i + 1) (by omega) b hb
      obtain ⟨n, hn⟩ : ∃ n, ch i b = n := ⟨_, rfl⟩
      obtain ⟨m2, hm2⟩ : ∃ n, ch (i + 1) b = n := ⟨_, rfl⟩
      rw [hn] at m c1 ⊢
      rw [hm2] at m c2
      have M2 := Lib.hid hm2
      have me : (n : Int) * ((b : Int) + ((i : Int) + 1)) = (m2 : Int) * ((i : Int) + 1) := by exact_mod_cast m.symm
      have bd : 0 ≤ (n : Int) * ((b : Int) + ((i : Int) + 1)) ∧ (n : Int) * ((b : Int) + ((i : Int) + 1)) ≤ 924 * 12 := by
        constructor
        · exact Int.mul_nonneg (by omega) (by omega)
        · exact Int.mul_le_mul (by omega) (by omega) (by omega) (by omega)
      have e1 : IntKind.i64.wrap ((b : Int) + ((i : Int) + 1)) = (b : Int) + ((i : Int) + 1) := IntWalk.i64_in _ (by omega)
      have e2 : IntKind.i64.wrap ((n : Int) * ((b : Int) + ((i : Int) + 1))) = (n : Int) * ((b : Int) + ((i : Int) + 1)) := IntWalk.i64_in _ (by omega)
      have e3 : ((n : Int) * ((b : Int) + ((i : Int) + 1))).tdiv ((i : Int) + 1) = (m2 : Int) := by rw [me, Int.mul_tdiv_cancel _ (by omega)]
      have e4 : IntKind.i64.wrap (m2 : Int) = (m2 : Int) := IntWalk.i64_in _ (by omega)
      have e5 : ((i : Int) + 1 == 0) = false := beq_eq_false_iff_ne.2 (by omega)
      have e6 : IntKind.i64.wrap ((i : Int) + 1 + 1) = (i : Int) + 1 + 1 := IntWalk.i64_in _ (by omega)
      clear m hn hm2 bd me
      go_wp2_with fail
      go_roundg (gk - 1)
      case measure => have := K.out; omega
      case rel => exact ⟨i + 1, by go_num, by have := K.out; omega, by rw [M2.out], rfl⟩
    · obtain rfl : i = a := by omega
      have i1 : ¬ (i : Int) + 1 ≤ (i : Int) := by omega
      go_wp2_with fail
      go_ret
      exact ⟨rfl, rfl⟩
theorem choose_is {a b : Int} {n : Nat} (ha : 0 ≤ a ∧ a ≤ 6) (hb : 0 ≤ b ∧ b ≤ 6) (hn : ch a.toNat b.toNat = n) (w : World) : Calls Tryd.prog 42 #[.int .i64 a, .int .i64 b] w fun e w' => e = .returned (.int .i64 n) ∧ w = w' := by
  have h := choose_any a.toNat b.toNat (by omega) (by omega) w
  rw [hn, Int.toNat_of_nonneg ha.1, Int.toNat_of_nonneg hb.1] at h
  exact h
theorem cnt_most (ps : List Pt) (h : Small ps) : cnt ps ≤ 924 ^ ps.length := by
  induction ps with
  | nil => simp [cnt]
  | cons p ps ih =>
    have sp := h p (by simp)
    have c := ch_most p.1 sp.1 p.2 sp.2
    have := ih fun q hq => h q (by simp [hq])
    simp only [cnt, List.length_cons, Nat.pow_succ]
    calc ch p.1 p.2 * cnt ps ≤ 924 * 924 ^ ps.length := Nat.mul_le_mul c this
      _ = 924 ^ ps.length * 924 := Nat.mul_comm _ _
theorem cnt_four {ps : List Pt} (h : Small ps) (h4 : ps.length ≤ 4) : cnt ps ≤ 728933458176 := by
  have := cnt_most ps h
  calc cnt ps ≤ 924 ^ ps.length := this
    _ ≤ 924 ^ 4 := Nat.pow_le_pow_right (by decide) h4
    _ = 728933458176 := by decide
theorem small_sub {ps qs : List Pt} (h : Small ps) (k : ∀ p ∈ qs, p ∈ ps) : Small qs := fun p hp => h p (k p hp)
theorem cnt_next {ps : List Pt} {from_ j : Nat} (hf : from_ ≤ j) (hj : j < ps.length) : cnt ((ps.take (j + 1)).drop from_) = cnt ((ps.take j).drop from_) * ch ps[j].1 ps[j].2 := by
  rw [List.take_succ_eq_append_getElem hj, List.drop_append_of_le_length (by rw [List.length_take]; omega), cnt_append]
  simp [cnt]
set_option maxRecDepth 100000 in
set_option maxHeartbeats 1600000 in
theorem count_any {w : World} {v u : Value} {a b : List Int} (h : IRow w v a) (k : IRow w u b) (hp : IsPar a b) (f : Nat) (hf : f ≤ a.length) :
    Calls Tryd.prog 30 #[v, u, .int .i64 f] w fun e w' => Val w (.int .i64 (cnt ((par a b).drop f) : Nat)) e w' := by
  obtain ⟨pa, ca, rfl, h1, h2⟩ := h.len
  obtain ⟨pb, cb, rfl, k1, k2⟩ := k.len
  have H := Lib.hid h; have H' := Lib.hid k; have W := Lib.hid hp
  have PL := Lib.hid (par_length a b hp.len)
  have a4 := hp.most
  have SM := Lib.hid hp.small
  unfold maxLen at h2 k2
  clear h k hp
  go_enter Tryd.func30, Tryd.ntmps30
  go_wp2_with fail
  go_loopg [7, 8] a.length (fun k x y wr => ∃ j : Nat, y = .int .i64 j ∧ j + k = a.length + f ∧ f ≤ j ∧ j ≤ a.length ∧ x = .int .i64 (cnt (((par a b).take j).drop f) : Nat) ∧ Below w.heap.size w wr)
  case atStart => exact ⟨f, rfl, by omega, by omega, hf, by rw [List.drop_of_length_le (by rw [List.length_take]; omega)]; rfl, Below.refl _ _⟩
  case round =>
    obtain ⟨j, rfl, hk, hfj, hja, rfl, hb⟩ := hrel
    have K := Lib.hid hk; have B := Lib.hid hb
    clear hk hb
    by_cases hlt : j < a.length
    · have hlb : j < b.length := by have := W.out.len; omega
      have hlp : j < (par a b).length := by have := PL.out; omega
      obtain ⟨ga, oa, c1, e1, _, _⟩ := H.out.known (by omega)
      simp only [Value.slice.injEq, true_and] at e1
      obtain ⟨rfl, rfl⟩ := e1
      obtain ⟨gb, ob, c2, e2, _, _⟩ := H'.out.known (by omega)
      simp only [Value.slice.injEq, true_and] at e2
      obtain ⟨rfl, rfl⟩ := e2
      have d1 := H.out.cells j hlt
      have d2 := H'.out.cells j hlb
      have y1 := (B.out.cell (cell_below d1)).trans d1
      have y2 := (B.out.cell (cell_below d2)).trans d2
      have x6 := W.out.a6 j hlt; have y6 := W.out.b6 j hlb
      have i0 : (0 : Int) ≤ (j : Int) := by omega
      have i1 : (j : Int) < (a.length : Int) := by omega
      have i2 : (j : Int) < (b.length : Int) := by omega
      have nx := cnt_next (ps := par a b) (from_ := f) hfj hlp
      rw [par_get a b j hlp hlt hlb] at nx
      have bd := cnt_four (ps := ((par a b).take (j + 1)).drop f) (small_sub SM.out fun p hp => List.mem_of_mem_take (List.mem_of_mem_drop hp)) (by rw [List.length_drop, List.length_take]; have := PL.out; omega)
      obtain ⟨x, hx⟩ : ∃ x, a[j] = x := ⟨_, rfl⟩
      obtain ⟨y, hy⟩ : ∃ y, b[j] = y := ⟨_, rfl⟩
      rw [hx] at y1 x6 nx
      rw [hy] at y2 y6 nx
      obtain ⟨c, hc⟩ : ∃ c, ch x.toNat y.toNat = c := ⟨_, rfl⟩
      obtain ⟨n, hn⟩ : ∃ n, cnt (((par a b).take j).drop f) = n := ⟨_, rfl⟩
      obtain ⟨m, hm⟩ : ∃ n, cnt (((par a b).take (j + 1)).drop f) = n := ⟨_, rfl⟩
      simp only at nx
      rw [hc, hn, hm] at nx
      rw [hm] at bd
      rw [hn]
      have C := Lib.hid hc; have M := Lib.hid hm
      have me : (n : Int) * (c : Int) = (m : Int) := by rw [nx]; exact (Int.natCast_mul _ _).symm
      have e9 : IntKind.i64.wrap ((n : Int) * (c : Int)) = (m : Int) := by rw [me]; exact IntWalk.i64_in _ (by omega)
      clear d1 d2 hx hy hc hn hm nx me
      go_wp2_with fail
      go_quiet ((go_at_call 42; refine Calls.quiet_of_same ((choose_is x6 y6 C.out _).mono fun _ _ h => ⟨h.1, h.2.symm⟩)))
      go_wp2_with fail
      go_roundg (gk - 1)
      case measure => have := K.out; omega
      case rel => exact ⟨j + 1, by go_num, by have := K.out; omega, by omega, by omega, by rw [M.out], below_drews B.out _⟩
    · obtain rfl : j = a.length := by omega
      have T : Hid ((par a b).take a.length = par a b) := Lib.hid (List.take_of_length_le (by rw [PL.out]; omega))
      go_wp2_with fail
      go_ret
      exact ⟨by rw [T.out]; rfl, B.out⟩
theorem specCount_any {w : World} {v u : Value} {a b : List Int} (h : IRow w v a) (k : IRow w u b) :
    Calls Tryd.prog 21 #[v, u] w fun e w' => Val w (.int .i64 (countOf a b)) e w' := by
  obtain ⟨pa, ca, rfl, h1, h2⟩ := h.len
  obtain ⟨pb, cb, rfl, k1, k2⟩ := k.len
  have H := Lib.hid h; have H' := Lib.hid k
  clear h k
  cases hp : isPar a b
  · have HP := Lib.hid hp
    have R : Hid (countOf a b = -1) := Lib.hid (by unfold countOf; rw [hp]; rfl)
    clear hp
    go_enter Tryd.func21, Tryd.ntmps21
    go_wp2_with fail
    refine (parS_is H.out H'.out HP.out).mono ?_
    rintro e w1 ⟨rfl, b1⟩
    go_wp2_with fail
    go_ret
    exact ⟨by rw [R.out]; rfl, b1⟩
  · have HP := Lib.hid hp
    have R : Hid (countOf a b = (cnt (par a b) : Int)) := Lib.hid (by unfold countOf; rw [hp]; rfl)
    have W := Lib.hid (isPar_iff.1 hp)
    clear hp
    go_enter Tryd.func21, Tryd.ntmps21
    go_wp2_with fail
    refine (parS_is H.out H'.out HP.out).mono ?_
    rintro e w1 ⟨rfl, b1⟩
    have B1 := Lib.hid b1
    clear b1
    go_wp2_with fail
    refine (count_any (H.out.grow B1.out) (H'.out.grow B1.out) W.out 0 (Nat.zero_le _)).mono ?_
    rintro e w2 ⟨rfl, b2⟩
    have B2 := Lib.hid (B1.out.trans (b2.mono B1.out.size))
    clear b2
    go_wp2_with fail
    go_ret
    exact ⟨by rw [R.out]; rfl, B2.out⟩
theorem countS_is {w : World} {v u : Value} {a b : List Int} {n : Int} (h : IRow w v a) (k : IRow w u b) (hn : countOf a b = n) : Calls Tryd.prog 21 #[v, u] w fun e w' => Val w (.int .i64 n) e w' := by
  have := specCount_any h k; rwa [hn] at this
end Go.Proofs.YtcemgdekcfdfhaaDoor
