/- The contracts of the model's functions on curves: the value at a number on the curve. -/
import Derived.Test.YthpfehjjaamkkacSpecCurve
import Derived.Test.YthpfehjjaamkkacTopCut
namespace Go.Proofs.Ythpfehjjaamkkac
open Go.RowKit

theorem specvalid_is {w : World} {v : Value} {l : List Pc} {b : Bool} (h : Row w v l) (hb : isCurve l = b) : Calls Try.prog 27 #[v] w fun e w' => Val w (.bool b) e w' := by
  have := specCurveValid_any h
  rwa [hb] at this
theorem l11Whole_any (n : Int) (w : World) :
    Calls Try.prog 57 #[.int .i64 n] w fun e w' => e = .returned (.agg #[.int .i64 n, .int .i64 1]) ∧ Below w.heap.size w w' := by
  go_enter Try.func57, Try.ntmps57
  go_wp2
  go_returns
  exact ⟨rfl, by go_grown⟩
theorem specLess_is {n d k : Int} {b : Bool} (hf : fv n d = true) (h0 : 0 ≤ k) (h1 : k ≤ 30000) (hb : decide (fq n d < (k : Rat)) = b) (w : World) :
    Calls Try.prog 73 #[.agg #[.int .i64 n, .int .i64 d], .agg #[.int .i64 k, .int .i64 1]] w fun e w' => Val w (.bool b) e w' := by
  have := specFracLess_any n d k 1 w
  rwa [less_whole hf h0 h1, hb] at this
theorem isSpecLess {n d k : Int} {b : Bool} (hf : fv n d = true) (h0 : 0 ≤ k) (h1 : k ≤ 30000) (hb : decide ((k : Rat) < fq n d) = b) (w : World) :
    Calls Try.prog 73 #[.agg #[.int .i64 k, .int .i64 1], .agg #[.int .i64 n, .int .i64 d]] w fun e w' => Val w (.bool b) e w' := by
  have := specFracLess_any k 1 n d w
  rwa [whole_less hf h0 h1, hb] at this

theorem seg_parts (p q : Pc) (x : Rat) : seg p q x = (p.2 : Rat) + (x - (p.1 : Rat)) * sl p q := rfl
theorem sl_nonneg {p q : Pc} (h1 : p.1 < q.1) (h2 : p.2 < q.2) : 0 ≤ sl p q := Rat.le_of_lt (slope_pos h1 h2)
theorem sl_fits {p q : Pc} (hp : Dp p) (hq : Dp q) (h1 : p.1 < q.1) (h2 : p.2 < q.2) : fits (sl p q) = true := by
  obtain ⟨p1, p2, p3, p4⟩ := hp
  obtain ⟨q1, q2, q3, q4⟩ := hq
  have := fits_slope (a := q.2 - p.2) (b := q.1 - p.1) (by omega) (by omega) (by omega) (by omega)
  simp only [Rat.intCast_sub] at this
  exact this
/-- A whole number that is in range, as a fraction. -/
theorem whole_add {a n d n2 d2 : Int} {ok : Bool} {e x : Rat} (h0 : 0 ≤ a) (h1 : a ≤ 30000) (hf : fv n d = true) (he : fq n d = e) (hx : (a : Rat) + e = x)
    (h : Res (fv a 1 && fv n d) (fq a 1 + fq n d) n2 d2 ok) : Res true x n2 d2 ok := by
  rw [dp_fv h0 h1, hf, fq_whole, he, hx] at h
  exact h

theorem sub_whole {a n d n2 d2 : Int} {ok : Bool} (h0 : 0 ≤ a) (h1 : a ≤ 30000) (hf : fv n d = true) (h : Res (fv n d && fv a 1) (fq n d - fq a 1) n2 d2 ok) : Res true (fq n d - (a : Rat)) n2 d2 ok := by
  rw [dp_fv h0 h1, hf, fq_whole] at h
  exact h
theorem sub_ok {a n d n2 d2 : Int} {ok : Bool} (h0 : 0 ≤ a) (hf : fv n d = true) (ha : (a : Rat) ≤ fq n d) (h : Res true (fq n d - (a : Rat)) n2 d2 ok) : ok = true ∧ fv n2 d2 = true ∧ fq n2 d2 = fq n d - (a : Rat) := by
  rcases h with ⟨h1, _, h3, h4⟩ | ⟨_, _, _, h4⟩
  · exact ⟨h1, h3, h4⟩
  · rw [fits_less (fq_fits hf) h0 ha] at h4
    simp at h4
/-- Where the product does not fit, the sum does not. -/
theorem part_no {a : Int} {e x : Rat} (h0 : 0 ≤ a) (he : 0 ≤ e) (hx : (a : Rat) + e = x) (h : fits e = false) : fits x = false := by
  cases hf : fits x
  · rfl
  · rw [← hx] at hf
    rw [fits_part hf h0 he] at h
    cases h
set_option maxRecDepth 100000 in
set_option maxHeartbeats 6400000 in
theorem l11At_any {w : World} {v : Value} {l : List Pc} (h : Row w v l) {n d : Int} (hf : fv n d = true) (ho : onC l (fq n d) = true) :
    Calls Try.prog 56 #[v, .agg #[.int .i64 n, .int .i64 d]] w fun e w' => GotFrac true (cAt l (fq n d)) w w' e := by
  have hc : isCurve l = true := by rw [onC, Bool.and_eq_true] at ho; exact ho.1
  have hin : cIn l (fq n d) = true := by rw [onC, Bool.and_eq_true] at ho; exact ho.2
  obtain ⟨z1, z2, zd, zs⟩ := isCurve_steps.1 hc
  obtain ⟨lo, hi⟩ := (cIn_iff (by omega)).1 hin
  obtain ⟨g, o, c, rfl, k1, k2⟩ := h.known (by omega)
  have R0 := Lib.hid h; have HC := Lib.hid hc; have HF := Lib.hid hf; have ZD := Lib.hid zd; have HI := Lib.hid hi
  have P0 := Lib.hid (passed_start (by omega) lo)
  unfold maxLen at k2
  clear h hc hf zd zs ho hin lo hi
  go_enter Try.func56, Try.ntmps56
  go_wp2_with fail
  go_loopg [6] l.length (fun k x wr => ∃ j : Nat, x = .int .i64 (j + 1 : Nat) ∧ j + k = l.length ∧ j + 1 < l.length ∧ Passed l (fq n d) j ∧ wr.cell? ⟨w.heap.size, 0, none⟩ = some (.int .i64 n) ∧ wr.cell? ⟨w.heap.size, 1, none⟩ = some (.int .i64 d) ∧ wr.frozen? ⟨w.heap.size, 0, none⟩ = false ∧ wr.frozen? ⟨w.heap.size, 1, none⟩ = false ∧
    wr.cell? ⟨w.heap.size + 1, 0, none⟩ = some (.int .i64 0) ∧ wr.cell? ⟨w.heap.size + 1, 1, none⟩ = some (.int .i64 0) ∧ wr.frozen? ⟨w.heap.size + 1, 0, none⟩ = false ∧ wr.frozen? ⟨w.heap.size + 1, 1, none⟩ = false ∧ Below w.heap.size w wr)
  case atStart => exact ⟨0, rfl, by omega, by omega, P0.out, by go_cell, by go_cell, by go_simp, by go_simp, by go_cell, by go_cell, by go_simp, by go_simp, by go_grown⟩
  case round =>
    obtain ⟨j, rfl, hk, hj1, hp, m0, m1, m2, m3, r0, r1, r2, r3, hb⟩ := hrel
    have K := Lib.hid hk; have PA := Lib.hid hp; have B := Lib.hid hb
    have hjl : j < l.length := hp.lt
    obtain ⟨c1, c2⟩ := (R0.out.grow hb).cells (j + 1) hj1
    obtain ⟨c3, c4⟩ := (R0.out.grow hb).cells j hjl
    have dpj := ZD.out j hjl
    have dpk := ZD.out (j + 1) hj1
    obtain ⟨y1, y2, y3, y4⟩ := dpj
    obtain ⟨v1, v2, v3, v4⟩ := dpk
    have i0 : (0 : Int) ≤ (j : Int) := by omega
    have i1 : (j : Int) < (l.length : Int) := by omega
    have i2 : (j : Int) + 1 < (l.length : Int) := by omega
    have i3 : (0 : Int) ≤ (j : Int) + 1 := by omega
    have i4 : ((j : Int) + 1).toNat = j + 1 := by omega
    have i5 : IntKind.i64.wrap ((j : Int) + 1 - 1) = (j : Int) := by rw [show (j : Int) + 1 - 1 = j by omega]; exact IntWalk.i64_in _ (by omega)
    have hwl : w.heap.size + 1 < wr.heap.size := by have := cell_below r0; exact this
    clear hk hp hb
    cases hless : decide ((l[j + 1].1 : Rat) < fq n d)
    rotate_left
    · have HL := Lib.hid hless
      clear hless
      go_wp2_with fail
      go_region_held3 (fun w' => w'.cell? ⟨w.heap.size, 0, none⟩ = some (.int .i64 n) ∧ w'.cell? ⟨w.heap.size, 1, none⟩ = some (.int .i64 d) ∧ w'.cell? ⟨g, o + (j + 1) * 2, none⟩ = some (.int .i64 l[j + 1].1))
        (first | go_keep | (go_split_ands; exact held3 hb2 ‹_› ‹_› ‹_›) | (go_split_ands; exact held3 hb3 ‹_› ‹_› ‹_›))
        (first | (go_at_call 57; refine (l11Whole_any _ _).mono ?_; rintro e w2 ⟨rfl, hb2⟩) | (go_at_call 73; refine (isSpecLess HF.out v1 v2 HL.out _).mono ?_; rintro e w3 ⟨rfl, hb3⟩))
      have B3 : Hid (Below w.heap.size w w3) := Lib.hid (B.out.drew.trans ((hb2.trans (hb3.mono hb2.size)).mono B.out.size))
      have HX : Hid ((l[j + 1].1 : Rat) < fq n d) := Lib.hid (of_decide_eq_true HL.out)
      have j2 : j + 1 + 1 < l.length := by
        rcases Nat.lt_or_ge (j + 1 + 1) l.length with hh | hh
        · exact hh
        · exfalso
          have e : l.length - 1 = j + 1 := by omega
          have a := HI.out; have b := HX.out
          simp only [e] at a
          grind
      have hT := below_two (w.heap.size + 1) (.int .i64 0) (.int .i64 0) ((show Below wr.heap.size wr w3 from ((Below.refl _ wr).drew.trans (hb2.trans (hb3.mono hb2.size))))) r0 r1 r2 r3
      have hU := (show Below wr.heap.size wr w3 from ((Below.refl _ wr).drew.trans (hb2.trans (hb3.mono hb2.size))))
      have HQ := Lib.hid (below_two w.heap.size _ _ hU m0 m1 m2 m3)
      have HT := Lib.hid hT
      clear hb2 hb3 hT hU c1 c2 c3 c4 m0 m1 m2 m3 r0 r1 r2 r3
      go_wp2_with fail
      go_roundg (gk - 1)
      case measure => have := K.out; omega
      case rel => exact ⟨j + 1, by go_num, by have := K.out; omega, j2, PA.out.next hj1 HX.out, HQ.out.1, HQ.out.2.1, HQ.out.2.2.1, HQ.out.2.2.2, HT.out.1, HT.out.2.1, HT.out.2.2.1, HT.out.2.2.2, B3.out⟩
    · have HL := Lib.hid hless
      clear hless
      go_wp2_with fail
      go_region_held3 (fun w' => w'.cell? ⟨w.heap.size, 0, none⟩ = some (.int .i64 n) ∧ w'.cell? ⟨w.heap.size, 1, none⟩ = some (.int .i64 d) ∧ w'.cell? ⟨g, o + (j + 1) * 2, none⟩ = some (.int .i64 l[j + 1].1))
        (first | go_keep | (go_split_ands; exact held3 hb2 ‹_› ‹_› ‹_›) | (go_split_ands; exact held3 hb3 ‹_› ‹_› ‹_›))
        (first | (go_at_call 57; refine (l11Whole_any _ _).mono ?_; rintro e w2 ⟨rfl, hb2⟩) | (go_at_call 73; refine (isSpecLess HF.out v1 v2 HL.out _).mono ?_; rintro e w3 ⟨rfl, hb3⟩))
      have PT := Lib.hid (PA.out.part HC.out hj1 (of_decide_eq_false HL.out))
      have hU := (show Below wr.heap.size wr w3 from ((Below.refl _ wr).drew.trans (hb2.trans (hb3.mono hb2.size))))
      obtain ⟨t0, t1, t2, t3⟩ := below_two (w.heap.size + 1) (.int .i64 0) (.int .i64 0) hU r0 r1 r2 r3
      have S : St w w3 [(w.heap.size + 1, 0, 0), (w.heap.size, n, d)] := by
        refine ⟨B.out.trans (hU.mono B.out.size), ?_⟩
        simp only [Holds, and_true]
        have hz := hU.size
        obtain ⟨u0, u1, u2, u3⟩ := below_two w.heap.size _ _ hU m0 m1 m2 m3
        exact ⟨⟨t0, t1, t2, t3, by omega⟩, u0, u1, u2, u3, by omega⟩
      have hw3 : w.heap.size + 1 < w3.heap.size := S.holds.1.2.2.2.2
      replace c1 := (hU.cell (cell_below c1)).trans c1
      replace c2 := (hU.cell (cell_below c2)).trans c2
      replace c3 := (hU.cell (cell_below c3)).trans c3
      replace c4 := (hU.cell (cell_below c4)).trans c4
      have hgl : g < w3.heap.size := cell_below c1
      clear hb2 hb3 hU m0 m1 m2 m3 r0 r1 r2 r3
      go_wp2_with fail
      refine (specFracOf_any _ _ _).mono ?_
      rintro e w4 ⟨sn, sd, sok, rfl, hr4, b4⟩
      have hs4 : sok = true ∧ fv sn sd = true ∧ fq sn sd = sl l[j] l[j + 1] := by
        have hsl := sl_fits PT.out.dp PT.out.dq PT.out.less PT.out.up
        rw [← sl_div] at hr4
        rcases hr4 with ⟨e1, _, e3, e4⟩ | ⟨_, _, _, e4⟩
        · exact ⟨e1, e3, e4⟩
        · have l1 := PT.out.less
          rw [hsl, ofV_iff.2 (by omega)] at e4
          simp at e4
      obtain ⟨rfl, hsf, hsq⟩ := hs4
      have HSF := Lib.hid hsf; have HSQ := Lib.hid hsq
      have S := ((((S.alloc' l[j].1 l[j].2 29).alloc1 #[.int .i64 l[j + 1].1, .int .i64 l[j + 1].2] 29).next b4).alloc sn sd)
      have hz0 := S.holds.2.2.1.2.2.2.2
      have hz1 := b4.size
      simp only [World.size_alloc] at hz0 hz1
      clear hr4 b4 hsf hsq c1 c2 c3 c4 t0 t1 t2 t3
      go_upto_region 7 with fail
      go_cut [11, 12] (fun s11 s12 wx => TwoMid true (fq n d - (l[j].1 : Rat)) w [(w4.heap.size, sn, sd), (w3.heap.size, l[j].1, l[j].2), (w.heap.size + 1, 0, 0), (w.heap.size, n, d)] s11 s12 wx)
      case first =>
        have held : ∀ W w' : World, Below W.heap.size W w' → ((W.cell? ⟨w4.heap.size, 0, none⟩ = some (.int .i64 sn) ∧ W.cell? ⟨w4.heap.size, 1, none⟩ = some (.int .i64 sd) ∧ W.frozen? ⟨w4.heap.size, 0, none⟩ = false ∧ W.frozen? ⟨w4.heap.size, 1, none⟩ = false ∧ w4.heap.size < W.heap.size) ∧ (W.cell? ⟨w3.heap.size, 0, none⟩ = some (.int .i64 l[j].1) ∧ W.cell? ⟨w3.heap.size, 1, none⟩ = some (.int .i64 l[j].2) ∧ W.frozen? ⟨w3.heap.size, 0, none⟩ = false ∧ W.frozen? ⟨w3.heap.size, 1, none⟩ = false ∧ w3.heap.size < W.heap.size) ∧ (W.cell? ⟨(w.heap.size + 1), 0, none⟩ = some (.int .i64 0) ∧ W.cell? ⟨(w.heap.size + 1), 1, none⟩ = some (.int .i64 0) ∧ W.frozen? ⟨(w.heap.size + 1), 0, none⟩ = false ∧ W.frozen? ⟨(w.heap.size + 1), 1, none⟩ = false ∧ (w.heap.size + 1) < W.heap.size) ∧ (W.cell? ⟨w.heap.size, 0, none⟩ = some (.int .i64 n) ∧ W.cell? ⟨w.heap.size, 1, none⟩ = some (.int .i64 d) ∧ W.frozen? ⟨w.heap.size, 0, none⟩ = false ∧ W.frozen? ⟨w.heap.size, 1, none⟩ = false ∧ w.heap.size < W.heap.size)) ∧ Below w.heap.size w W → ((w'.cell? ⟨w4.heap.size, 0, none⟩ = some (.int .i64 sn) ∧ w'.cell? ⟨w4.heap.size, 1, none⟩ = some (.int .i64 sd) ∧ w'.frozen? ⟨w4.heap.size, 0, none⟩ = false ∧ w'.frozen? ⟨w4.heap.size, 1, none⟩ = false ∧ w4.heap.size < w'.heap.size) ∧ (w'.cell? ⟨w3.heap.size, 0, none⟩ = some (.int .i64 l[j].1) ∧ w'.cell? ⟨w3.heap.size, 1, none⟩ = some (.int .i64 l[j].2) ∧ w'.frozen? ⟨w3.heap.size, 0, none⟩ = false ∧ w'.frozen? ⟨w3.heap.size, 1, none⟩ = false ∧ w3.heap.size < w'.heap.size) ∧ (w'.cell? ⟨(w.heap.size + 1), 0, none⟩ = some (.int .i64 0) ∧ w'.cell? ⟨(w.heap.size + 1), 1, none⟩ = some (.int .i64 0) ∧ w'.frozen? ⟨(w.heap.size + 1), 0, none⟩ = false ∧ w'.frozen? ⟨(w.heap.size + 1), 1, none⟩ = false ∧ (w.heap.size + 1) < w'.heap.size) ∧ (w'.cell? ⟨w.heap.size, 0, none⟩ = some (.int .i64 n) ∧ w'.cell? ⟨w.heap.size, 1, none⟩ = some (.int .i64 d) ∧ w'.frozen? ⟨w.heap.size, 0, none⟩ = false ∧ w'.frozen? ⟨w.heap.size, 1, none⟩ = false ∧ w.heap.size < w'.heap.size)) ∧ Below w.heap.size w w' := by
          intro W w' hb5 h
          have s : St w w' [(w4.heap.size, sn, sd), (w3.heap.size, l[j].1, l[j].2), ((w.heap.size + 1), 0, 0), (w.heap.size, n, d)] := St.next ⟨h.2, by simp only [Holds, and_true]; exact h.1⟩ hb5
          have r := s.holds
          simp only [Holds, and_true] at r
          exact ⟨r, s.below⟩
        have Sd := S.drew
        have r0 := Sd.holds
        have B0 := Sd.below
        simp only [Holds, and_true] at r0
        try simp only [World.size_alloc] at r0
        have keep0 := And.intro r0 B0
        clear r0 B0 Sd
        have SA := (S.alloc 0 0).drew
        have rY := SA.holds.2
        simp only [Holds, and_true] at rY
        try simp only [World.size_alloc] at rY
        have keepY := And.intro rY SA.below
        clear rY SA S
        have heldSet : ∀ (W w' : World) (k' : Nat) (x y : Int), (w4.heap.size ≠ k' ∧ w3.heap.size ≠ k' ∧ (w.heap.size + 1) ≠ k' ∧ w.heap.size ≠ k') ∧ w.heap.size ≤ k' → w' = (W.setCell ⟨k', 0, none⟩ (.int .i64 x)).setCell ⟨k', 1, none⟩ (.int .i64 y) → ((W.cell? ⟨w4.heap.size, 0, none⟩ = some (.int .i64 sn) ∧ W.cell? ⟨w4.heap.size, 1, none⟩ = some (.int .i64 sd) ∧ W.frozen? ⟨w4.heap.size, 0, none⟩ = false ∧ W.frozen? ⟨w4.heap.size, 1, none⟩ = false ∧ w4.heap.size < W.heap.size) ∧ (W.cell? ⟨w3.heap.size, 0, none⟩ = some (.int .i64 l[j].1) ∧ W.cell? ⟨w3.heap.size, 1, none⟩ = some (.int .i64 l[j].2) ∧ W.frozen? ⟨w3.heap.size, 0, none⟩ = false ∧ W.frozen? ⟨w3.heap.size, 1, none⟩ = false ∧ w3.heap.size < W.heap.size) ∧ (W.cell? ⟨(w.heap.size + 1), 0, none⟩ = some (.int .i64 0) ∧ W.cell? ⟨(w.heap.size + 1), 1, none⟩ = some (.int .i64 0) ∧ W.frozen? ⟨(w.heap.size + 1), 0, none⟩ = false ∧ W.frozen? ⟨(w.heap.size + 1), 1, none⟩ = false ∧ (w.heap.size + 1) < W.heap.size) ∧ (W.cell? ⟨w.heap.size, 0, none⟩ = some (.int .i64 n) ∧ W.cell? ⟨w.heap.size, 1, none⟩ = some (.int .i64 d) ∧ W.frozen? ⟨w.heap.size, 0, none⟩ = false ∧ W.frozen? ⟨w.heap.size, 1, none⟩ = false ∧ w.heap.size < W.heap.size)) ∧ Below w.heap.size w W → ((w'.cell? ⟨w4.heap.size, 0, none⟩ = some (.int .i64 sn) ∧ w'.cell? ⟨w4.heap.size, 1, none⟩ = some (.int .i64 sd) ∧ w'.frozen? ⟨w4.heap.size, 0, none⟩ = false ∧ w'.frozen? ⟨w4.heap.size, 1, none⟩ = false ∧ w4.heap.size < w'.heap.size) ∧ (w'.cell? ⟨w3.heap.size, 0, none⟩ = some (.int .i64 l[j].1) ∧ w'.cell? ⟨w3.heap.size, 1, none⟩ = some (.int .i64 l[j].2) ∧ w'.frozen? ⟨w3.heap.size, 0, none⟩ = false ∧ w'.frozen? ⟨w3.heap.size, 1, none⟩ = false ∧ w3.heap.size < w'.heap.size) ∧ (w'.cell? ⟨(w.heap.size + 1), 0, none⟩ = some (.int .i64 0) ∧ w'.cell? ⟨(w.heap.size + 1), 1, none⟩ = some (.int .i64 0) ∧ w'.frozen? ⟨(w.heap.size + 1), 0, none⟩ = false ∧ w'.frozen? ⟨(w.heap.size + 1), 1, none⟩ = false ∧ (w.heap.size + 1) < w'.heap.size) ∧ (w'.cell? ⟨w.heap.size, 0, none⟩ = some (.int .i64 n) ∧ w'.cell? ⟨w.heap.size, 1, none⟩ = some (.int .i64 d) ∧ w'.frozen? ⟨w.heap.size, 0, none⟩ = false ∧ w'.frozen? ⟨w.heap.size, 1, none⟩ = false ∧ w.heap.size < w'.heap.size)) ∧ Below w.heap.size w w' := by
          intro W w' k' x y hk e h
          subst e
          have s : Holds W [(w4.heap.size, sn, sd), (w3.heap.size, l[j].1, l[j].2), ((w.heap.size + 1), 0, 0), (w.heap.size, n, d)] := by simp only [Holds, and_true]; exact h.1
          have r := s.put (.int .i64 x) (.int .i64 y) (k := k') (by simp only [Apart, and_true]; omega)
          simp only [Holds, and_true] at r
          exact ⟨r, (h.2.setCell (p := ⟨k', 0, none⟩) hk.2 _).setCell (p := ⟨k', 1, none⟩) hk.2 _⟩
        go_region_held3 (fun w' => ((w'.cell? ⟨w4.heap.size, 0, none⟩ = some (.int .i64 sn) ∧ w'.cell? ⟨w4.heap.size, 1, none⟩ = some (.int .i64 sd) ∧ w'.frozen? ⟨w4.heap.size, 0, none⟩ = false ∧ w'.frozen? ⟨w4.heap.size, 1, none⟩ = false ∧ w4.heap.size < w'.heap.size) ∧ (w'.cell? ⟨w3.heap.size, 0, none⟩ = some (.int .i64 l[j].1) ∧ w'.cell? ⟨w3.heap.size, 1, none⟩ = some (.int .i64 l[j].2) ∧ w'.frozen? ⟨w3.heap.size, 0, none⟩ = false ∧ w'.frozen? ⟨w3.heap.size, 1, none⟩ = false ∧ w3.heap.size < w'.heap.size) ∧ (w'.cell? ⟨(w.heap.size + 1), 0, none⟩ = some (.int .i64 0) ∧ w'.cell? ⟨(w.heap.size + 1), 1, none⟩ = some (.int .i64 0) ∧ w'.frozen? ⟨(w.heap.size + 1), 0, none⟩ = false ∧ w'.frozen? ⟨(w.heap.size + 1), 1, none⟩ = false ∧ (w.heap.size + 1) < w'.heap.size) ∧ (w'.cell? ⟨w.heap.size, 0, none⟩ = some (.int .i64 n) ∧ w'.cell? ⟨w.heap.size, 1, none⟩ = some (.int .i64 d) ∧ w'.frozen? ⟨w.heap.size, 0, none⟩ = false ∧ w'.frozen? ⟨w.heap.size, 1, none⟩ = false ∧ w.heap.size < w'.heap.size)) ∧ Below w.heap.size w w') (first | exact keep0 | exact keepY | exact hs0 | exact hs1 | (have _q := hs0; exact held _ _ ((Below.refl _ _).alloc (Nat.le_refl _) _) hs0) | (have _q := hs1; exact held _ _ ((Below.refl _ _).alloc (Nat.le_refl _) _) hs1) | (have _q := hs1; exact heldSet _ _ _ _ _ (by omega) rfl hs1)) (first | (go_at_call 57; refine (l11Whole_any _ _).mono ?_; rintro e x0 ⟨rfl, b0⟩; have hs0 := held _ _ b0 (by assumption); have hs0l0 := hs0.1.1.2.2.2.2; have hs0l1 := hs0.1.2.1.2.2.2.2; have hs0l2 := hs0.1.2.2.1.2.2.2.2; have hs0l3 := hs0.1.2.2.2.2.2.2.2; (first | (have zz := top_two (u := .int .i64 0) (v := .int .i64 0) (t := 35) b0) | (have zz := top_two_drew (u := .int .i64 0) (v := .int .i64 0) (t := 35) b0) | (replace zz := later_two b0 zz) | skip); (try simp only [World.size_alloc] at zz)) | (go_at_call 74; refine (specFracSub_any _ _ _ _ _).mono ?_; rintro e x1 ⟨n5, d5, ok5, rfl, hr5, b1⟩; have hs1 := held _ _ b1 (by assumption); have hs1l0 := hs1.1.1.2.2.2.2; have hs1l1 := hs1.1.2.1.2.2.2.2; have hs1l2 := hs1.1.2.2.1.2.2.2.2; have hs1l3 := hs1.1.2.2.2.2.2.2.2; (first | (have zz := top_two (u := .int .i64 0) (v := .int .i64 0) (t := 35) b1) | (have zz := top_two_drew (u := .int .i64 0) (v := .int .i64 0) (t := 35) b1) | (replace zz := later_two b1 zz) | skip); (try simp only [World.size_alloc] at zz)))
        all_goals
          clear keep0 keepY held heldSet
          have S5 : St w x1 [(w4.heap.size, sn, sd), (w3.heap.size, l[j].1, l[j].2), ((w.heap.size + 1), 0, 0), (w.heap.size, n, d)] := ⟨hs1.2, by simp only [Holds, and_true]; exact hs1.1⟩
          first
            | (
                fail_if_success (have q := zz)
                go_wp2
                go_meet
                exact TwoMid.mk (sub_whole y1 y2 HF.out hr5) (S5.alloc _ _))
            | (
                go_wp2
                go_meet
                exact TwoMid.mk (sub_whole y1 y2 HF.out hr5) (St.put2 (St.put zz S5) (by omega) (by simp only [Apart, and_true]; omega) _ _))
      case rest =>
        obtain ⟨k5, n5, d5, ok5, rfl, rfl, hr5, S5⟩ := hcut
        obtain ⟨rfl, hf5, hq5⟩ := sub_ok y1 HF.out PT.out.low hr5
        have HF5 := Lib.hid hf5; have HQ5 := Lib.hid hq5
        have r5 := S5.holds
        simp only [Holds, and_true] at r5
        clear hr5 hf5 hq5
        go_wp2_with fail
        refine (specFracMul_any _ _ _ _ _).mono ?_
        rintro e w6 ⟨n6, d6, ok6, rfl, hr6, b6⟩
        have S6 := (S5.next b6).alloc n6 d6
        have hv6 : (fv n5 d5 && fv sn sd) = true := by rw [HF5.out, HSF.out]; rfl
        have he6 : fq n5 d5 * fq sn sd = (fq n d - (l[j].1 : Rat)) * sl l[j] l[j + 1] := by rw [HQ5.out, HSQ.out]
        have hx6 : (l[j].2 : Rat) + (fq n d - (l[j].1 : Rat)) * sl l[j] l[j + 1] = cAt l (fq n d) := by rw [PT.out.val, seg_parts]
        have hn6 : 0 ≤ (fq n d - (l[j].1 : Rat)) * sl l[j] l[j + 1] := Rat.mul_nonneg (by have := PT.out.low; grind) (sl_nonneg PT.out.less PT.out.up)
        rw [hv6, he6] at hr6
        have HX6 := Lib.hid hx6; have HN6 := Lib.hid hn6
        have r6 := S6.holds
        simp only [Holds, and_true] at r6
        have hsz6 := b6.size
        have hwc := r5.2.2.1.2.2.2.2
        clear hv6 he6 hx6 hn6 r5 b6 S5
        rcases hr6 with ⟨rfl, _, hf6, hq6⟩ | ⟨rfl, rfl, rfl, hno⟩
        rotate_left
        · have NO : Hid (fits (cAt l (fq n d)) = false) := Lib.hid (by
            rcases hno with hno | hno
            · cases hno
            · exact part_no y3 HN6.out HX6.out hno)
          clear hno
          go_wp2_with fail
          refine back_at 4 (x := .int .i64 0) (y := .int .i64 0) rfl rfl rfl (by go_cell) (by go_cell) rfl ?_
          exact ⟨0, 0, false, rfl, Res.no (.inr NO.out), by have := S6.below; go_grown⟩
        · have HF6 := Lib.hid hf6; have HQ6 := Lib.hid hq6
          clear hf6 hq6
          obtain ⟨⟨e0, e1, _⟩, -, -, ⟨-, a1, -⟩, ⟨p0, p1, p2, p3, _⟩, -⟩ := r6
          have BE := Lib.hid S6.below
          have ne1 : ¬ w6.heap.size = w.heap.size + 1 := by omega
          have ne2 : ¬ w.heap.size + 1 = w6.heap.size := by omega
          have ne3 : ¬ w3.heap.size = w.heap.size + 1 := by omega
          have ne4 : ¬ w.heap.size + 1 = w3.heap.size := by omega
          clear S6 S
          go_wp2_with fail
          go_region_held3 (fun w' => w'.cell? ⟨w6.heap.size, 0, none⟩ = some (.int .i64 n6) ∧ w'.cell? ⟨w6.heap.size, 1, none⟩ = some (.int .i64 d6) ∧ w'.cell? ⟨w3.heap.size, 1, none⟩ = some (.int .i64 l[j].2))
            (first | go_keep | (go_split_ands; exact held3 hb7 ‹_› ‹_› ‹_›) | (go_split_ands; exact held3 hb8 ‹_› ‹_› ‹_›))
            (first | (go_at_call 57; refine (l11Whole_any _ _).mono ?_; rintro e w7 ⟨rfl, hb7⟩; obtain ⟨s0, s1, s2, s3⟩ := below_two (w.heap.size + 1) (.int .i64 0) (.int .i64 0) hb7 (by go_cell) (by go_cell) (by go_simp) (by go_simp)) | (go_at_call 76; refine (specFracAdd_any _ _ _ _ _).mono ?_; rintro e w8 ⟨n8, d8, ok8, rfl, hr8, hb8⟩; obtain ⟨q0, q1, q2, q3⟩ := below_two (w.heap.size + 1) (.int .i64 0) (.int .i64 0) hb8 s0 s1 s2 s3))
          have B8 : Hid (Below w.heap.size w w8) := Lib.hid (BE.out.drew.trans ((hb7.trans (hb8.mono hb7.size)).mono BE.out.size))
          have R8 := Lib.hid (whole_add y3 y4 HF6.out HQ6.out HX6.out hr8)
          clear hb7 hb8 hr8
          go_wp2_with fail
          refine back_at 4 rfl rfl rfl (stored0 _ _ q0) (stored1 _ _ q1) rfl ?_
          exact ⟨n8, d8, ok8, rfl, R8.out, by have := B8.out; go_grown⟩
end Go.Proofs.Ythpfehjjaamkkac
