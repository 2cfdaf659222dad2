/- The part of a layer: the model's l24Find and OrderBetween. -/
import Derived.Test.YtcemgdekcfdfhabOrdSpec
namespace Go.Proofs.Ytcemgdekcfdfhab
open Go.RowKit

/-- The part of a layer and its index there. -/
def findI : List Int → Int → Option (Nat × Int)
  | [], _ => none
  | x :: xs, k => if k < 0 then none else if k < x then some (0, k) else (findI xs (k - x)).map fun p => (p.1 + 1, p.2)
theorem findI_less (xs : List Int) {k : Int} (h : k < 0) : findI xs k = none := by
  cases xs with
  | nil => rfl
  | cons x xs => simp only [findI]; rw [if_pos h]
theorem findI_fnd : ∀ (l : List Int) (k : Int), (∀ x ∈ l, 0 ≤ x) → 0 ≤ k → findI l k = if k.toNat < (l.map Int.toNat).sum then some ((fnd (l.map Int.toNat) k.toNat).1, ((fnd (l.map Int.toNat) k.toNat).2 : Int)) else none
  | [], k, _, _ => by simp [findI]
  | x :: xs, k, h, h0 => by
    have hx := h x (by simp)
    simp only [findI, List.map_cons, List.sum_cons, fnd]
    rw [if_neg (by omega)]
    by_cases c : k < x
    · rw [if_pos c, if_pos (by omega), if_pos (by omega), Int.toNat_of_nonneg h0]
    · rw [if_neg c, if_neg (show ¬ k.toNat < x.toNat by omega), findI_fnd xs (k - x) (fun y hy => h y (by simp [hy])) (by omega), show (k - x).toNat = k.toNat - x.toNat by omega]
      by_cases d : k.toNat - x.toNat < (xs.map Int.toNat).sum
      · rw [if_pos d, if_pos (by omega)]; rfl
      · rw [if_neg d, if_neg (by omega)]; rfl
/-- What l24Find answers. -/
def fndV (o : Option (Nat × Int)) : Value := match o with
  | some (p, x) => .tuple #[.int .i64 p, .int .i64 x]
  | none => .tuple #[.int .i64 (-1), .int .i64 0]
theorem findI_drop {l : List Int} {j : Nat} (k : Int) (h : j < l.length) : findI (l.drop j) k = if k < 0 then none else if k < l[j] then some (0, k) else (findI (l.drop (j + 1)) (k - l[j])).map fun p => (p.1 + 1, p.2) := by
  rw [List.drop_eq_getElem_cons h]; rfl
set_option maxHeartbeats 1600000 in
theorem find_any {w : World} {v : Value} {l : List Int} {k : Int} (h : IRow w v l) (h6 : ∀ i (h : i < l.length), 0 ≤ l[i] ∧ l[i] ≤ 6) (hk : -9223372036854775808 ≤ k ∧ k ≤ 9223372036854775807) :
    Calls Try.prog 31 #[v, .int .i64 k] w fun e w' => Val w (fndV (findI l k)) e w' := by
  obtain ⟨pa, ca, rfl, h1, h2⟩ := h.len
  have H := Lib.hid h; have W := Lib.hid h6
  unfold maxLen at h2
  clear h h6
  go_enter Try.func31, Try.ntmps31
  go_wp2_with fail
  go_loopg [1, 6] l.length (fun g x y wr => ∃ (j : Nat) (m : Int), y = .int .i64 j ∧ x = .int .i64 m ∧ j + g = l.length ∧ j ≤ l.length ∧ -9223372036854775808 ≤ m ∧ m ≤ 9223372036854775807 ∧ findI l k = (findI (l.drop j) m).map (fun p => (p.1 + j, p.2)) ∧ Below w.heap.size w wr)
  case atStart => exact ⟨0, k, rfl, rfl, by omega, by omega, hk.1, hk.2, by simp, Below.refl _ _⟩
  case round =>
    obtain ⟨j, m, rfl, rfl, hg, hj, m1, m2, hf, hb⟩ := hrel
    have K := Lib.hid hg; have B := Lib.hid hb; have F := Lib.hid hf
    clear hg hb hf
    by_cases hlt : j < l.length
    · obtain ⟨ga, oa, c1, e1, _, _⟩ := H.out.known (by omega)
      simp only [Value.slice.injEq, true_and] at e1
      obtain ⟨rfl, rfl⟩ := e1
      have d1 := H.out.cells j hlt
      have y1 := (B.out.cell (cell_below d1)).trans d1
      have x6 := W.out j hlt
      have i0 : (0 : Int) ≤ (j : Int) := by omega
      have i1 : (j : Int) < (l.length : Int) := by omega
      have nx := findI_drop m hlt
      obtain ⟨x, hx⟩ : ∃ x, l[j] = x := ⟨_, rfl⟩
      rw [hx] at y1 x6 nx
      have X := Lib.hid nx
      have e1 : IntKind.i64.wrap (m - x) = m - x ∨ m < 0 := by
        by_cases c : m < 0
        · exact .inr c
        · exact .inl (IntWalk.i64_in _ (by omega))
      clear d1 hx nx
      by_cases c0 : m < 0
      · have R : Hid (findI l k = none) := Lib.hid (by rw [F.out, X.out, if_pos c0]; rfl)
        have g0 : ¬ (0 : Int) ≤ m := by omega
        have g1 : decide ((0 : Int) ≤ m) = false := by simpa using c0
        clear e1
        go_wp2_with fail
        go_ret2
        exact ⟨by rw [R.out]; rfl, B.out⟩
      · have g0 : (0 : Int) ≤ m := by omega
        by_cases c2 : m < x
        · have R : Hid (findI l k = some (j, m)) := Lib.hid (by rw [F.out, X.out, if_neg c0, if_pos c2]; simp)
          clear e1
          go_wp2_with fail
          go_ret2
          exact ⟨by rw [R.out]; rfl, B.out⟩
        · have R : Hid (findI l k = (findI (l.drop (j + 1)) (m - x)).map (fun p => (p.1 + (j + 1), p.2))) := Lib.hid (by
            rw [F.out, X.out, if_neg c0, if_neg c2]
            cases findI (l.drop (j + 1)) (m - x) with
            | none => rfl
            | some p => simp only [Option.map_some, Option.some.injEq, Prod.mk.injEq, and_true]; omega)
          have e2 : IntKind.i64.wrap (m - x) = m - x := IntWalk.i64_in _ (by omega)
          clear e1
          go_wp2_with fail
          go_roundg (gk - 1)
          case measure => have := K.out; omega
          case rel => exact ⟨j + 1, m - x, by go_num, rfl, by have := K.out; omega, by omega, by omega, by omega, R.out, B.out⟩
    · obtain rfl : j = l.length := by omega
      have R : Hid (findI l k = none) := Lib.hid (by rw [F.out, List.drop_length]; rfl)
      go_wp2_with fail
      go_ret2
      exact ⟨by rw [R.out]; rfl, B.out⟩
/-- The sum of the first rows of 'bet'. -/
def betS (a b x : Nat) : Nat → Nat
  | 0 => 0
  | n + 1 => betS a b x n + ch x n * ch (a - 1 - x) (b - n)
theorem betS_bet (a b x y : Nat) : betS a b x (y + 1) = bet a b x y := by
  induction y with
  | zero => simp [betS, bet]
  | succ y ih => rw [betS, ih]; rfl
theorem betS_le (a b x : Nat) {n m : Nat} (h : n ≤ m) : betS a b x n ≤ betS a b x m := by
  induction m with
  | zero => obtain rfl : n = 0 := by omega
            exact Nat.le_refl _
  | succ m ih =>
    by_cases e : n = m + 1
    · rw [e]; exact Nat.le_refl _
    · exact Nat.le_trans (ih (by omega)) (by rw [betS]; omega)
theorem all_nat {l : List Int} (h : ∀ i (h : i < l.length), 0 ≤ l[i] ∧ l[i] ≤ 6) : ∀ x ∈ l, 0 ≤ x := fun x hx => by
  obtain ⟨i, hi, rfl⟩ := List.mem_iff_getElem.1 hx
  exact (h i hi).1
theorem findI_some {l : List Int} {k x : Int} {p : Nat} (h : ∀ x ∈ l, 0 ≤ x) (e : findI l k = some (p, x)) : 0 ≤ k ∧ k.toNat < (natL l).sum ∧ (fnd (natL l) k.toNat).1 = p ∧ ((fnd (natL l) k.toNat).2 : Int) = x := by
  by_cases c : k < 0
  · rw [findI_less l c] at e; cases e
  · rw [findI_fnd l k h (by omega)] at e
    by_cases d : k.toNat < (l.map Int.toNat).sum
    · rw [if_pos d] at e
      simp only [Option.some.injEq, Prod.mk.injEq] at e
      exact ⟨by omega, d, e.1, e.2⟩
    · rw [if_neg d] at e; cases e
theorem findI_none {l : List Int} {k : Int} (h : ∀ x ∈ l, 0 ≤ x) (e : findI l k = none) : ¬ (0 ≤ k ∧ k.toNat < (natL l).sum) := by
  rintro ⟨c, d⟩
  unfold natL at d
  rw [findI_fnd l k h c, if_pos d] at e; cases e
theorem between_a {a b : List Int} {i : Int} (k : Int) (h : IsPar a b) (e : findI a i = none) : betweenOf a b i k = -1 := by
  unfold betweenOf
  rw [if_neg]
  rintro ⟨_, h1, _, h2, _⟩
  exact findI_none (all_nat h.a6) e ⟨h1, by rw [← par_fst a b h.len]; exact h2⟩
theorem between_b {a b : List Int} (i : Int) {k : Int} (h : IsPar a b) (e : findI b k = none) : betweenOf a b i k = -1 := by
  unfold betweenOf
  rw [if_neg]
  rintro ⟨_, _, h1, _, h2⟩
  exact findI_none (all_nat h.b6) e ⟨h1, by rw [← par_snd a b h.len]; exact h2⟩
theorem between_at {a b : List Int} {i k x y : Int} {p q : Nat} (h : IsPar a b) (e1 : findI a i = some (p, x)) (e2 : findI b k = some (q, y)) :
    betweenOf a b i k = (betOf (par a b) i.toNat k.toNat : Int) ∧ (p < q → betOf (par a b) i.toNat k.toNat = cnt (par a b)) ∧ (q < p → betOf (par a b) i.toNat k.toNat = 0) ∧
    (p = q → ∃ (hp : p < a.length) (hq : p < b.length) (c : Nat), 1 ≤ c ∧ cnt (par a b) = ch a[p].toNat b[p].toNat * c ∧ betOf (par a b) i.toNat k.toNat = bet a[p].toNat b[p].toNat x.toNat y.toNat * c ∧ x < a[p] ∧ y < b[p] ∧ 0 ≤ x ∧ 0 ≤ y) := by
  obtain ⟨i0, i1, i2, i3⟩ := findI_some (all_nat h.a6) e1
  obtain ⟨k0, k1, k2, k3⟩ := findI_some (all_nat h.b6) e2
  have sa : i.toNat < sumA (par a b) := by unfold sumA; rw [par_fst a b h.len]; exact i1
  have sb : k.toNat < sumB (par a b) := by unfold sumB; rw [par_snd a b h.len]; exact k1
  rw [← par_fst a b h.len] at i2 i3
  rw [← par_snd a b h.len] at k2 k3
  refine ⟨?_, fun c => betOf_first sa sb (by omega), fun c => betOf_last sa sb (by omega), fun c => ?_⟩
  · unfold betweenOf; rw [if_pos ⟨isPar_iff.2 h, i0, k0, sa, sb⟩]
  · obtain ⟨hp, d, d1, d2, d3, d4, d5⟩ := betOf_same sa sb (by omega)
    have hp' := hp
    rw [par_length a b h.len] at hp'
    rw [par_get a b _ hp hp' (by rw [h.len]; exact hp')] at d2 d3 d4 d5
    have x1 : x.toNat = (fnd ((par a b).map Prod.fst) i.toNat).2 := by omega
    have y1 : y.toNat = (fnd ((par a b).map Prod.snd) k.toNat).2 := by omega
    rw [← x1] at d3 d4
    rw [← y1] at d3 d5
    subst i2
    refine ⟨hp', by rw [h.len]; exact hp', d, d1, d2, d3, ?_, ?_, by omega, by omega⟩
    · simp only at d4; omega
    · simp only at d5; omega
theorem find_is {w : World} {v : Value} {l : List Int} {k : Int} {o : Option (Nat × Int)} (h : IRow w v l) (h6 : ∀ i (h : i < l.length), 0 ≤ l[i] ∧ l[i] ≤ 6) (hk : -9223372036854775808 ≤ k ∧ k ≤ 9223372036854775807) (ho : findI l k = o) :
    Calls Try.prog 31 #[v, .int .i64 k] w fun e w' => Val w (fndV o) e w' := by
  have := find_any h h6 hk; rwa [ho] at this
set_option maxRecDepth 100000 in
set_option maxHeartbeats 3200000 in
theorem specBetween_any {w : World} {v u : Value} {a b : List Int} {i k : Int} (h : IRow w v a) (h' : IRow w u b) (hi : -9223372036854775808 ≤ i ∧ i ≤ 9223372036854775807) (hk : -9223372036854775808 ≤ k ∧ k ≤ 9223372036854775807) :
    Calls Try.prog 12 #[v, u, .int .i64 i, .int .i64 k] w fun e w' => Val w (.int .i64 (betweenOf a b i k)) e w' := by
  obtain ⟨pa, ca, rfl, h1, h2⟩ := h.len
  obtain ⟨pb, cb, rfl, k1, k2⟩ := h'.len
  have H := Lib.hid h; have H' := Lib.hid h'
  unfold maxLen at h2 k2
  clear h h'
  cases hp : isPar a b
  · have HP := Lib.hid hp
    have R : Hid (betweenOf a b i k = -1) := Lib.hid (by unfold betweenOf; rw [hp]; rfl)
    clear hp
    go_enter Try.func12, Try.ntmps12
    go_wp2_with fail
    refine (parS_is H.out H'.out HP.out).mono ?_
    rintro e w1 ⟨rfl, b1⟩
    go_wp2_with fail
    go_ret
    exact ⟨by rw [R.out]; rfl, b1⟩
  have HP := Lib.hid hp
  have W := Lib.hid (isPar_iff.1 hp)
  clear hp
  have most := W.out.most
  cases e1 : findI a i with
  | none =>
    have E1 := Lib.hid e1
    obtain ⟨o2, e2⟩ : ∃ o, findI b k = o := ⟨_, rfl⟩
    have E2 := Lib.hid e2
    have R : Hid (betweenOf a b i k = -1) := Lib.hid (between_a k W.out e1)
    clear e1 e2
    go_enter Try.func12, Try.ntmps12
    go_wp2_with fail
    refine (parS_is H.out H'.out HP.out).mono ?_
    rintro e w1 ⟨rfl, b1⟩
    have B1 := Lib.hid b1
    clear b1
    go_wp2_with fail
    refine (find_is (H.out.grow B1.out) W.out.a6 hi E1.out).mono ?_
    rintro e w2 ⟨rfl, b2⟩
    have B2 := Lib.hid (B1.out.trans (b2.mono B1.out.size))
    clear b2 B1
    simp only [fndV]
    go_wp2_with fail
    refine (find_is (H'.out.grow B2.out) W.out.b6 hk E2.out).mono ?_
    rintro e w3 ⟨rfl, b3⟩
    have B3 := Lib.hid (B2.out.trans (b3.mono B2.out.size))
    clear b3 B2
    rcases o2 with _ | ⟨q, y⟩
    all_goals
      simp only [fndV]
      go_wp2_with fail
      go_ret
      exact ⟨by rw [R.out]; rfl, B3.out⟩
  | some px =>
    obtain ⟨p, x⟩ := px
    have E1 := Lib.hid e1
    cases e2 : findI b k with
    | none =>
      have E2 := Lib.hid e2
      have R : Hid (betweenOf a b i k = -1) := Lib.hid (between_b i W.out e2)
      clear e1 e2
      have p0 : decide ((p : Int) < 0) = false := by simp
      go_enter Try.func12, Try.ntmps12
      go_wp2_with fail
      refine (parS_is H.out H'.out HP.out).mono ?_
      rintro e w1 ⟨rfl, b1⟩
      have B1 := Lib.hid b1
      clear b1
      go_wp2_with fail
      refine (find_is (H.out.grow B1.out) W.out.a6 hi E1.out).mono ?_
      rintro e w2 ⟨rfl, b2⟩
      have B2 := Lib.hid (B1.out.trans (b2.mono B1.out.size))
      clear b2 B1
      simp only [fndV]
      go_wp2_with fail
      refine (find_is (H'.out.grow B2.out) W.out.b6 hk E2.out).mono ?_
      rintro e w3 ⟨rfl, b3⟩
      have B3 := Lib.hid (B2.out.trans (b3.mono B2.out.size))
      clear b3 B2
      simp only [fndV]
      go_wp2_with fail
      go_ret
      exact ⟨by rw [R.out]; rfl, B3.out⟩
    | some qy =>
      obtain ⟨q, y⟩ := qy
      have E2 := Lib.hid e2
      have AT := Lib.hid (between_at W.out e1 e2)
      have p0 : decide ((p : Int) < 0) = false := by simp
      have q0 : decide ((q : Int) < 0) = false := by simp
      have cm := cnt_four W.out.small (by rw [par_length a b W.out.len]; exact W.out.most)
      clear e1 e2
      go_enter Try.func12, Try.ntmps12
      go_wp2_with fail
      refine (parS_is H.out H'.out HP.out).mono ?_
      rintro e w1 ⟨rfl, b1⟩
      have B1 := Lib.hid b1
      clear b1
      go_wp2_with fail
      refine (find_is (H.out.grow B1.out) W.out.a6 hi E1.out).mono ?_
      rintro e w2 ⟨rfl, b2⟩
      have B2 := Lib.hid (B1.out.trans (b2.mono B1.out.size))
      clear b2 B1
      simp only [fndV]
      go_wp2_with fail
      refine (find_is (H'.out.grow B2.out) W.out.b6 hk E2.out).mono ?_
      rintro e w3 ⟨rfl, b3⟩
      have B3 := Lib.hid (B2.out.trans (b3.mono B2.out.size))
      clear b3 B2
      simp only [fndV]
      go_wp2_with fail
      refine (count_any (H.out.grow B3.out) (H'.out.grow B3.out) W.out 0 (Nat.zero_le _)).mono ?_
      rintro e w4 ⟨rfl, b4⟩
      have B4 := Lib.hid (B3.out.trans (b4.mono B3.out.size))
      clear b4 B3
      rw [List.drop_zero]
      obtain ⟨all, hall⟩ : ∃ c, cnt (par a b) = c := ⟨_, rfl⟩
      obtain ⟨bo, hbo⟩ : ∃ c, betOf (par a b) i.toNat k.toNat = c := ⟨_, rfl⟩
      have AT2 := AT.out
      rw [hall, hbo] at AT2
      rw [hall] at cm ⊢
      obtain ⟨r0, r1, r2, r3⟩ := AT2
      have R := Lib.hid r0
      clear hall hbo AT E1 E2 r0
      by_cases pq : p = q
      · obtain ⟨hpa, hpb, c, c1, f1, f2, xl, yl, x0, y0⟩ := r3 pq
        clear r1 r2 r3
        subst pq
        obtain ⟨ga, oa, c2, g1, _, _⟩ := H.out.known (by omega)
        simp only [Value.slice.injEq, true_and] at g1
        obtain ⟨rfl, rfl⟩ := g1
        obtain ⟨gb, ob, c3, g2, _, _⟩ := H'.out.known (by omega)
        simp only [Value.slice.injEq, true_and] at g2
        obtain ⟨rfl, rfl⟩ := g2
        have d1 := (B4.out.cell (cell_below (H.out.cells p hpa))).trans (H.out.cells p hpa)
        have d2 := (B4.out.cell (cell_below (H'.out.cells p hpb))).trans (H'.out.cells p hpb)
        have a6 := W.out.a6 p hpa; have b6 := W.out.b6 p hpb
        obtain ⟨A, hA⟩ : ∃ A : Nat, a[p] = A := ⟨a[p].toNat, by omega⟩
        obtain ⟨B, hB⟩ : ∃ B : Nat, b[p] = B := ⟨b[p].toNat, by omega⟩
        obtain ⟨X, rfl⟩ := Int.eq_ofNat_of_zero_le x0
        obtain ⟨Y, rfl⟩ := Int.eq_ofNat_of_zero_le y0
        rw [hA] at d1 a6 f1 f2 xl
        rw [hB] at d2 b6 f1 f2 yl
        simp only [Int.toNat_natCast] at f1 f2
        have D1 := Lib.hid d1; have D2 := Lib.hid d2
        have m9 := ch_most A (by omega) B (by omega)
        have bl := bet_less (a := A) (b := B) (x := X) (y := Y) (by omega) (by omega) (by omega) (by omega)
        have cp := ch_pos A B
        have se := betS_bet A B X Y
        obtain ⟨cab, hcab⟩ : ∃ c, ch A B = c := ⟨_, rfl⟩
        obtain ⟨bxy, hbxy⟩ : ∃ c, bet A B X Y = c := ⟨_, rfl⟩
        rw [hcab] at f1 m9 bl cp
        rw [hbxy] at f2 bl se
        have CAB := Lib.hid hcab; have SE := Lib.hid se
        have lb : bo ≤ all := by rw [f1, f2]; exact Nat.mul_le_mul_right c (by omega)
        have dv : ((all : Int)).tdiv (cab : Int) = (c : Int) := by rw [f1]; push_cast; exact Int.mul_tdiv_cancel_left _ (by omega)
        have lc : c ≤ all := by rw [f1]; exact Nat.le_mul_of_pos_left c cp
        have wc : IntKind.i64.wrap (c : Int) = c := IntWalk.i64_in _ (by omega)
        have wm : IntKind.i64.wrap ((bxy : Int) * (c : Int)) = (bo : Int) := by
          rw [← Int.natCast_mul, ← f2]; exact IntWalk.i64_in _ (by omega)
        have DV := Lib.hid dv; have WC := Lib.hid wc; have WM := Lib.hid wm
        have i0 : (0 : Int) ≤ (p : Int) := by omega
        have i1 : (p : Int) < (a.length : Int) := by omega
        have i2 : (p : Int) < (b.length : Int) := by omega
        clear d1 d2 hA hB f1 f2 hcab hbxy dv wc wm se x0 y0
        go_wp2_with fail
        go_loopg [14, 15] (Y + 1) (fun g s n wr => ∃ j : Nat, n = .int .i64 j ∧ j + g = Y + 1 ∧ j ≤ Y + 1 ∧ s = .int .i64 (betS A B X j : Nat) ∧ Below w4.heap.size w4 wr)
        case atStart => exact ⟨0, rfl, by omega, by omega, rfl, Below.refl _ _⟩
        case round =>
          obtain ⟨j, rfl, hg, hj, rfl, hb⟩ := hrel
          have K := Lib.hid hg; have BB := Lib.hid hb
          clear hg hb
          have y1 := (BB.out.cell (cell_below D1.out)).trans D1.out
          have y2 := (BB.out.cell (cell_below D2.out)).trans D2.out
          by_cases hlt : j < Y + 1
          · have s1 : betS A B X (j + 1) = betS A B X j + ch X j * ch (A - 1 - X) (B - j) := rfl
            have s2 := betS_le A B X (n := j + 1) (m := Y + 1) (by omega)
            rw [SE.out] at s2
            obtain ⟨u1, hu1⟩ : ∃ c, ch X j = c := ⟨_, rfl⟩
            obtain ⟨u2, hu2⟩ : ∃ c, ch (A - 1 - X) (B - j) = c := ⟨_, rfl⟩
            obtain ⟨sj, hsj⟩ : ∃ c, betS A B X j = c := ⟨_, rfl⟩
            obtain ⟨sk, hsk⟩ : ∃ c, betS A B X (j + 1) = c := ⟨_, rfl⟩
            rw [hsk, hsj, hu1, hu2] at s1
            rw [hsk] at s2
            rw [hsj]
            have SK := Lib.hid hsk
            have U1 : Hid (ch ((X : Int)).toNat ((j : Int)).toNat = u1) := Lib.hid (by simpa using hu1)
            obtain ⟨P, hP⟩ : ∃ P, (A : Int) - 1 - (X : Int) = P := ⟨_, rfl⟩
            obtain ⟨Q, hQ⟩ : ∃ Q, (B : Int) - (j : Int) = Q := ⟨_, rfl⟩
            have U2 : Hid (ch P.toNat Q.toNat = u2) := Lib.hid (by
              rw [show P.toNat = A - 1 - X by omega, show Q.toNat = B - j by omega]; exact hu2)
            obtain ⟨pr, hpr⟩ : ∃ c, u1 * u2 = c := ⟨_, rfl⟩
            rw [hpr] at s1
            have t1 : IntKind.i64.wrap ((A : Int) - 1) = (A : Int) - 1 := IntWalk.i64_in _ (by omega)
            have t2 : IntKind.i64.wrap ((A : Int) - 1 - (X : Int)) = P := by rw [hP]; exact IntWalk.i64_in _ (by omega)
            have t3 : IntKind.i64.wrap ((B : Int) - (j : Int)) = Q := by rw [hQ]; exact IntWalk.i64_in _ (by omega)
            have t4 : IntKind.i64.wrap ((u1 : Int) * (u2 : Int)) = (pr : Int) := by rw [← Int.natCast_mul, hpr]; exact IntWalk.i64_in _ (by omega)
            have t5 : IntKind.i64.wrap ((sj : Int) + (pr : Int)) = (sk : Int) := by rw [s1]; push_cast; exact IntWalk.i64_in _ (by omega)
            have x6 : 0 ≤ (X : Int) ∧ (X : Int) ≤ 6 := by omega
            have j6 : 0 ≤ (j : Int) ∧ (j : Int) ≤ 6 := by omega
            have z6 : 0 ≤ P ∧ P ≤ 6 := by omega
            have w6 : 0 ≤ Q ∧ Q ≤ 6 := by omega
            clear hu1 hu2 hsj hsk hpr s1 hP hQ
            have jl : (j : Int) ≤ (Y : Int) := by omega
            go_wp2_with fail
            go_quiet ((go_at_call 33; first | (with_reducible show Calls _ _ #[Value.int IntKind.i64 P, Value.int IntKind.i64 Q] _ _; refine Calls.quiet_of_same ((choose_is z6 w6 U2.out _).mono fun _ _ h => ⟨h.1, h.2.symm⟩)) | (refine Calls.quiet_of_same ((choose_is x6 j6 U1.out _).mono fun _ _ h => ⟨h.1, h.2.symm⟩))))
            go_wp2_with fail
            go_roundg (gk - 1)
            case measure => have := K.out; omega
            case rel => exact ⟨j + 1, by go_num, by have := K.out; omega, by omega, by rw [SK.out], below_drews BB.out _⟩
          · obtain rfl : j = Y + 1 := by omega
            have jl : ¬ ((Y + 1 : Nat) : Int) ≤ (Y : Int) := by omega
            have jl2 : decide (((Y + 1 : Nat) : Int) ≤ (Y : Int)) = false := by simpa using jl
            rw [SE.out]
            have CC : Hid (ch ((A : Int)).toNat ((B : Int)).toNat = cab) := Lib.hid (by simpa using CAB.out)
            have dv := DV.out; have wc := WC.out; have wm := WM.out
            have c0 : (cab : Int) ≠ 0 := by omega
            go_wp2_with fail
            go_quiet ((go_at_call 33; refine Calls.quiet_of_same ((choose_is a6 b6 CC.out _).mono fun _ _ h => ⟨h.1, h.2.symm⟩)))
            go_wp2_with fail
            go_ret
            exact ⟨by rw [R.out]; rfl, below_drews (B4.out.trans (BB.out.mono B4.out.size)) _⟩
      · have n0 : ((p : Int) == (q : Int)) = false := by simp; omega
        by_cases lt : p < q
        · have RR : Hid (betweenOf a b i k = all) := Lib.hid (by rw [R.out, r1 lt])
          have n1 : decide ((p : Int) < (q : Int)) = true := by simp; omega
          clear r1 r2 r3
          go_wp2_with fail
          go_ret
          exact ⟨by rw [RR.out]; rfl, B4.out⟩
        · have RR : Hid (betweenOf a b i k = 0) := Lib.hid (by rw [R.out, r2 (by omega)]; rfl)
          have n1 : decide ((p : Int) < (q : Int)) = false := by simp; omega
          clear r1 r2 r3
          go_wp2_with fail
          go_ret
          exact ⟨by rw [RR.out]; rfl, B4.out⟩
end Go.Proofs.Ytcemgdekcfdfhab
