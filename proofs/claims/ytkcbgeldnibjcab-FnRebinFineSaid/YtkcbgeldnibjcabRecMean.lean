/- The contracts of RecordMean, of the program's and of the model's. -/
import Derived.Test.YtkcbgeldnibjcabSpecRecBet
namespace Go.Proofs.Ytkcbgeldnibjcab
open Go.RowKit

theorem fv_int {k : Int} (h0 : -1000000000 ≤ k) (h1 : k ≤ 1000000000) : fv k 1 = true := fv_iff.2 ⟨by omega, by omega, h0, h1, Int.gcd_one_right k⟩
theorem meanOf_none {l m : List Int} {t b : Int} (h : bet l m t b = none) : meanOf l m t b = none := by unfold meanOf; rw [h]
theorem meanOf_flat {l m : List Int} {t : Int} : meanOf l m t t = none := by
  unfold meanOf
  split
  · rw [if_neg]; intro h; omega
  · rfl
theorem mean_res {l m : List Int} {t b n d x y : Int} {r : Rat} {ok : Bool} (hb : bet l m t b = some r) (hf : fv n d = true) (hq : fq n d = r)
    (h : Res (fv n d && fv (b - t) 1 && !((b - t) == 0)) (fq n d / fq (b - t) 1) x y ok) : Res (meanOf l m t b).isSome ((meanOf l m t b).getD 0) x y ok := by
  obtain ⟨_, _, _, h0, h1, h2⟩ := bet_is hb
  have e : fq n d / fq (b - t) 1 = meanR t b r := by rw [hq, fq_whole]; rfl
  have v : (fv n d && fv (b - t) 1) = true := by rw [hf, fv_int (by omega) (by omega)]; rfl
  rw [e, v] at h
  simp only [Bool.true_and] at h
  rcases h with ⟨rfl, k2, k3, k4⟩ | ⟨rfl, rfl, rfl, k4⟩
  · have hne : t < b := by
      rcases Int.lt_or_eq_of_le h1 with q | q
      · exact q
      · subst q; simp at k2
    have := meanOf_of hb hne (by rw [← k4]; exact fq_fits k3)
    rw [this]
    exact Res.yes rfl k3 k4
  · have : meanOf l m t b = none := by
      unfold meanOf
      rw [hb]
      refine if_neg fun k => ?_
      rcases k4 with k4 | k4
      · have : ((b - t) == 0) = true := by simpa using k4
        have : b - t = 0 := by simpa using this
        omega
      · rw [k.2] at k4; cases k4
    rw [this]
    exact Res.no (.inl rfl)
set_option maxHeartbeats 1600000 in
theorem implRecordMean_any {w : World} {v u : Value} {l m : List Int} (t b : Int) (h : Rec w v u l m) :
    Calls Try.prog 13 #[v, u, .int .i64 t, .int .i64 b] w fun e w' => GotO (meanOf l m t b) w w' e := by
  have H := Lib.hid h
  clear h
  cases hb : bet l m t b with
  | none =>
    have T := Lib.hid (meanOf_none hb)
    have HB := Lib.hid hb
    clear hb
    go_enter Try.func13, Try.ntmps13
    go_wp2_with fail
    refine (implRecordBetween_any t b (H.out.grow (by go_grown))).mono ?_
    rintro e w1 ⟨n, d, ok, rfl, hr, b1⟩
    rw [HB.out] at hr
    obtain ⟨rfl, rfl, rfl⟩ := res_none hr rfl
    have B1 : Hid (Below w.heap.size w w1) := Lib.hid (Below.trans (by go_grown) (b1.mono (by go_size)))
    obtain ⟨r0, r1, r2, r3⟩ := below_two w.heap.size (.int .i64 0) (.int .i64 0) b1 (by go_cell) (by go_cell) (by go_simp) (by go_simp)
    have hz := b1.size
    simp only [World.size_alloc] at hz
    have hl1 : w.heap.size < w1.heap.size := by omega
    have ne1 : ¬ w1.heap.size = w.heap.size := by omega
    have ne2 : ¬ w.heap.size = w1.heap.size := by omega
    clear b1 hr
    go_wp2_with fail
    refine back_frac 8 (x := .int .i64 0) (y := .int .i64 0) rfl rfl rfl (by go_cell) (by go_cell) rfl ?_
    exact gotO_no T.out (by have := B1.out; go_grown)
  | some r =>
    have HB := Lib.hid hb
    obtain ⟨_, hfit, _, h0, h1, h2⟩ := bet_is hb
    have FT := Lib.hid hfit
    clear hb hfit
    have e1 : IntKind.i64.wrap (b - t) = b - t := IntWalk.i64_in _ (by omega)
    go_enter Try.func13, Try.ntmps13
    go_wp2_with fail
    refine (implRecordBetween_any t b (H.out.grow (by go_grown))).mono ?_
    rintro e w1 ⟨n, d, ok, rfl, hr, b1⟩
    rw [HB.out] at hr
    obtain ⟨rfl, hf, hq⟩ := res_got hr rfl FT.out
    have HF := Lib.hid hf; have HQ := Lib.hid hq
    have S1 := (((St.start (Below.refl w.heap.size w)).alloc 0 0).next b1).alloc n d
    have hz := b1.size
    simp only [World.size_alloc] at hz
    have hl1 : w.heap.size < w1.heap.size := by omega
    have ne1 : ¬ w1.heap.size = w.heap.size := by omega
    have ne2 : ¬ w.heap.size = w1.heap.size := by omega
    have r := S1.holds
    simp only [Holds, and_true] at r
    clear b1 hr hf hq hz
    go_wp2_with fail
    refine (implFracDiv_any _ _ _ _ _).mono ?_
    rintro e w2 ⟨x, y, ok, rfl, hr, b2⟩
    have RR := Lib.hid (mean_res HB.out HF.out HQ.out hr)
    have S2 := S1.next b2
    have r2 := S2.holds
    simp only [Holds, and_true] at r2
    have B2 := Lib.hid S2.below
    obtain ⟨-, x0, x1, x2, x3, x4⟩ := r2
    clear hr b2 r S1 S2
    go_wp2_with fail
    refine back_frac 8 rfl rfl rfl (stored0 _ _ x0) (stored1 _ _ x1) rfl ?_
    exact ⟨x, y, ok, rfl, RR.out, by have := B2.out; go_grown⟩
set_option maxHeartbeats 1600000 in
theorem specRecordMean_any {w : World} {v u : Value} {l m : List Int} (t b : Int) (h : Rec w v u l m) :
    Calls Try.prog 14 #[v, u, .int .i64 t, .int .i64 b] w fun e w' => GotO (meanOf l m t b) w w' e := by
  have H := Lib.hid h
  clear h
  cases hb : bet l m t b with
  | none =>
    have T := Lib.hid (meanOf_none hb)
    have HB := Lib.hid hb
    clear hb
    go_enter Try.func14, Try.ntmps14
    go_wp2_with fail
    refine (specRecordBetween_any t b (H.out.grow (by go_grown)).1 (H.out.grow (by go_grown)).2).mono ?_
    rintro e w1 ⟨n, d, ok, rfl, hr, b1⟩
    rw [HB.out] at hr
    obtain ⟨rfl, rfl, rfl⟩ := res_none hr rfl
    have B1 : Hid (Below w.heap.size w w1) := Lib.hid (Below.trans (by go_grown) (b1.mono (by go_size)))
    obtain ⟨r0, r1, r2, r3⟩ := below_two w.heap.size (.int .i64 0) (.int .i64 0) b1 (by go_cell) (by go_cell) (by go_simp) (by go_simp)
    have hz := b1.size
    simp only [World.size_alloc] at hz
    have hl1 : w.heap.size < w1.heap.size := by omega
    have ne1 : ¬ w1.heap.size = w.heap.size := by omega
    have ne2 : ¬ w.heap.size = w1.heap.size := by omega
    clear b1 hr
    go_wp2_with fail
    refine back_frac 8 (x := .int .i64 0) (y := .int .i64 0) rfl rfl rfl (by go_cell) (by go_cell) rfl ?_
    exact gotO_no T.out (by have := B1.out; go_grown)
  | some r =>
    have HB := Lib.hid hb
    obtain ⟨_, hfit, _, h0, h1, h2⟩ := bet_is hb
    have FT := Lib.hid hfit
    clear hb hfit
    have e1 : IntKind.i64.wrap (b - t) = b - t := IntWalk.i64_in _ (by omega)
    go_enter Try.func14, Try.ntmps14
    go_wp2_with fail
    refine (specRecordBetween_any t b (H.out.grow (by go_grown)).1 (H.out.grow (by go_grown)).2).mono ?_
    rintro e w1 ⟨n, d, ok, rfl, hr, b1⟩
    rw [HB.out] at hr
    obtain ⟨rfl, hf, hq⟩ := res_got hr rfl FT.out
    have HF := Lib.hid hf; have HQ := Lib.hid hq
    obtain ⟨r0, r1, r2, r3⟩ := below_two w.heap.size (.int .i64 0) (.int .i64 0) b1 (by go_cell) (by go_cell) (by go_simp) (by go_simp)
    have B1 : Hid (Below w.heap.size w w1) := Lib.hid (Below.trans (by go_grown) (b1.mono (by go_size)))
    have S1 := (((St.start (Below.refl w.heap.size w)).alloc 0 0).next b1).alloc n d
    have hz := b1.size
    simp only [World.size_alloc] at hz
    have hl1 : w.heap.size < w1.heap.size := by omega
    have ne1 : ¬ w1.heap.size = w.heap.size := by omega
    have ne2 : ¬ w.heap.size = w1.heap.size := by omega
    have r := S1.holds
    simp only [Holds, and_true] at r
    clear b1 hr hf hq hz
    by_cases ht : t = b
    · subst ht
      have T := Lib.hid (meanOf_flat (l := l) (m := m) (t := t))
      have et : (t == t) = true := by simp
      clear e1
      clear S1 r
      go_wp2_with fail
      refine back_frac 8 (x := .int .i64 0) (y := .int .i64 0) rfl rfl rfl (by go_cell) (by go_cell) rfl ?_
      exact gotO_no T.out (by have := B1.out; go_grown)
    have et : (t == b) = false := by simpa using ht
    clear ht r0 r1 r2 r3
    obtain ⟨⟨y0, y1, -, -, -⟩, z0, z1, z2, z3, -⟩ := r
    have BB := Lib.hid S1.below
    clear S1
    go_wp2_with fail
    go_region_held3 (fun w' => w'.cell? ⟨w1.heap.size, 0, none⟩ = some (.int .i64 n) ∧ w'.cell? ⟨w1.heap.size, 1, none⟩ = some (.int .i64 d))
      (first | go_keep | (go_split_ands; exact held2 hb7 ‹_› ‹_›) | (go_split_ands; exact held2 hb8 ‹_› ‹_›))
      (first | (go_at_call 40; refine (l11Whole_any _ _).mono ?_; rintro e w7 ⟨rfl, hb7⟩; obtain ⟨s0, s1, s2, s3⟩ := below_two w.heap.size (.int .i64 0) (.int .i64 0) hb7 (by go_cell) (by go_cell) (by first | assumption | go_simp) (by first | assumption | go_simp)) | (go_at_call 39; refine (specFracDiv_any _ _ _ _ _).mono ?_; rintro e w8 ⟨n8, d8, ok8, rfl, hr8, hb8⟩; obtain ⟨q0, q1, q2, q3⟩ := below_two w.heap.size (.int .i64 0) (.int .i64 0) hb8 s0 s1 s2 s3))
    have B8 : Hid (Below w.heap.size w w8) := Lib.hid (BB.out.drew.trans ((hb7.trans (hb8.mono hb7.size)).mono BB.out.size))
    have RR := Lib.hid (mean_res HB.out HF.out HQ.out hr8)
    clear hb7 hb8 hr8 z0 z1 z2 z3
    go_wp2_with fail
    refine back_frac 8 rfl rfl rfl (stored0 _ _ q0) (stored1 _ _ q1) rfl ?_
    exact ⟨n8, d8, ok8, rfl, RR.out, by have := B8.out; go_grown⟩
end Go.Proofs.Ytkcbgeldnibjcab
