/- The contracts of the program's functions on curves: the search for the straight part at a number. -/
import Derived.Test.YthhdpjkmjebjhabStraight
import Derived.Test.YthhdpjkmjebjhabRegion
namespace Go.Proofs.Ythhdpjkmjebjhab
open Go.RowKit

/-- What a curve as a function hands back at the number of a fraction. -/
def FoundC (w : World) (l : List Pc) (x : Rat) (e : Ending) (w' : World) : Prop :=
  (onC l x = true ∧ ∃ p q s, e = .returned s ∧ Straight w' w.heap.size s p q ∧ Part l x p q ∧ Below w.heap.size w w') ∨
  (onC l x = false ∧ e = .returned (.func (.func 65) #[] #[]) ∧ Below w.heap.size w w')
theorem dp_fv {n : Int} (h : 0 ≤ n) (k : n ≤ 30000) : fv n 1 = true := fv_iff.2 ⟨by omega, by omega, by omega, by omega, Int.gcd_one⟩
theorem less_whole {n d k : Int} (hf : fv n d = true) (h0 : 0 ≤ k) (h1 : k ≤ 30000) : (fv n d && fv k 1 && decide (n * 1 < k * d)) = decide (fq n d < (k : Rat)) := by
  rw [hf, dp_fv h0 h1, ← fq_whole]
  have := fq_lt hf (dp_fv h0 h1)
  simp only [Bool.true_and]
  exact decide_eq_decide.2 this
theorem whole_less {n d k : Int} (hf : fv n d = true) (h0 : 0 ≤ k) (h1 : k ≤ 30000) : (fv k 1 && fv n d && decide (k * d < n * 1)) = decide ((k : Rat) < fq n d) := by
  rw [hf, dp_fv h0 h1, ← fq_whole]
  have := fq_lt (dp_fv h0 h1) hf
  simp only [Bool.true_and]
  exact decide_eq_decide.2 this
theorem less_is {n d k : Int} {b : Bool} (hf : fv n d = true) (h0 : 0 ≤ k) (h1 : k ≤ 30000) (hb : decide (fq n d < (k : Rat)) = b) (w : World) :
    Calls Try.prog 64 #[.agg #[.int .i64 n, .int .i64 d], .agg #[.int .i64 k, .int .i64 1]] w fun e w' => Val w (.bool b) e w' := by
  have := implFracLess_any n d k 1 w
  rwa [less_whole hf h0 h1, hb] at this
theorem is_less {n d k : Int} {b : Bool} (hf : fv n d = true) (h0 : 0 ≤ k) (h1 : k ≤ 30000) (hb : decide ((k : Rat) < fq n d) = b) (w : World) :
    Calls Try.prog 64 #[.agg #[.int .i64 k, .int .i64 1], .agg #[.int .i64 n, .int .i64 d]] w fun e w' => Val w (.bool b) e w' := by
  have := implFracLess_any k 1 n d w
  rwa [whole_less hf h0 h1, hb] at this
theorem curve_is {w : World} {v : Value} {l : List Pc} {b : Bool} (h : Row w v l) (hb : isCurve l = b) : Calls Try.prog 22 #[v] w fun e w' => Val w (.bool b) e w' := by
  have := implCurveValid_any h
  rwa [hb] at this

set_option maxHeartbeats 1600000 in
theorem search_any {w : World} {b : Nat} {v : Value} {l : List Pc} (hb : w.cell? ⟨b, 0, none⟩ = some v) (h : Row w v l) {n d : Int} (hf : fv n d = true) :
    Calls Try.prog 63 #[.agg #[.int .i64 n, .int .i64 d], .pointer (some ⟨b, 0, none⟩)] w fun e w' => FoundC w l (fq n d) e w' := by
  have hbw : b < w.heap.size := cell_below hb
  have R0 := Lib.hid h
  cases hc : isCurve l
  · have HC := Lib.hid hc
    clear hc h
    go_enter Try.func63, Try.ntmps63
    go_wp2_with fail
    refine wp_region_any (by kernel_rfl) ?_
    change wpAny _ _ _ _ _ _ _ (World.drew _)
    refine wpAny_ready (rs := [0]) (by kernel_rfl) (by simp) (AllReady.cons rfl (fun K hK => ?_) AllReady.nil)
    go_simp
    refine hK _ _ ?_
    clear hK K
    refine wpAny_ready (rs := [1]) (by kernel_rfl) (by simp) (AllReady.cons rfl (fun K hK => ?_) AllReady.nil)
    go_simp
    go_wp2_with (go_at_call 22; refine (curve_is ((R0.out.grow (by go_grown))) HC.out).mono ?_; rintro e w' ⟨rfl, hb'⟩)
    refine take_yes 2 8 rfl rfl (by kernel_rfl) (by kernel_rfl) (by kernel_rfl) (fun _ _ _ h => h) (Or.inl ⟨by kernel_rfl, by intro w; go_simp; try with_reducible rfl⟩) ?_
    refine take_yes 3 9 rfl rfl (by kernel_rfl) (by kernel_rfl) (by kernel_rfl) (fun _ _ _ h => h) (Or.inl ⟨by kernel_rfl, by intro w; go_simp; try with_reducible rfl⟩) ?_
    refine take_no 4 10 rfl rfl (by kernel_rfl) (by kernel_rfl) (by kernel_rfl) (fun _ _ _ h => h) (by kernel_rfl) ?_
    refine take_no 5 11 rfl rfl (by kernel_rfl) (by kernel_rfl) (by kernel_rfl) (fun _ _ _ h => h) (by kernel_rfl) ?_
    refine take_no 6 12 rfl rfl (by kernel_rfl) (by kernel_rfl) (by kernel_rfl) (fun _ _ _ h => h) (by kernel_rfl) ?_
    refine take_no 7 13 rfl rfl (by kernel_rfl) (by kernel_rfl) (by kernel_rfl) (fun _ _ _ h => h) (by kernel_rfl) ?_
    refine take_no 8 14 rfl rfl (by kernel_rfl) (by kernel_rfl) (by kernel_rfl) (fun _ _ _ h => h) (by kernel_rfl) ?_
    refine take_no 9 15 rfl rfl (by kernel_rfl) (by kernel_rfl) (by kernel_rfl) (fun _ _ _ h => h) (by kernel_rfl) ?_
    refine take_no 10 16 rfl rfl (by kernel_rfl) (by kernel_rfl) (by kernel_rfl) (fun _ _ _ h => h) (by kernel_rfl) ?_
    refine take_yes 11 17 rfl rfl (by kernel_rfl) (by kernel_rfl) (by kernel_rfl) (fun _ _ _ h => h) (Or.inl ⟨by kernel_rfl, by intro w; go_simp; try with_reducible rfl⟩) ?_
    refine wpAny_done (by kernel_rfl) ?_ _
    simp only [Exit.then]
    simp only [Act.put, List.setIfInBounds_toArray, List.set_cons_succ, List.set_cons_zero]
    go_wp2_with fail
    go_ret
    exact .inr ⟨not_on_bad HC.out, rfl, Below.trans (by go_grown) (hb'.mono (by go_size))⟩
  · have HC := Lib.hid hc
    obtain ⟨z1, z2, zd, zs⟩ := isCurve_steps.1 hc
    obtain ⟨g, o, c, rfl, k1, k2⟩ := h.known (by omega)
    obtain ⟨c0, _⟩ := h.cells 0 (by omega)
    simp only [Nat.zero_mul, Nat.add_zero] at c0
    have g1 := cell_below c0
    simp only at g1
    have y0 : 0 ≤ l[0].1 ∧ l[0].1 ≤ 30000 := by have := zd 0 (by omega); unfold Dp at this; omega
    have HF := Lib.hid hf
    have ZD := Lib.hid zd
    unfold maxLen at k2
    have s0 : (0 : Int) < (l.length : Int) := by omega
    clear hc h hf zd zs
    have sn : 0 < l.length := by omega
    cases hlow : decide (fq n d < (l[0].1 : Rat))
    rotate_left
    · have HL := Lib.hid hlow
      clear hlow
      go_enter Try.func63, Try.ntmps63
      go_wp2_with fail
      go_region_held3 (fun w' => w'.cell? ⟨b, 0, none⟩ = some (.slice (some ⟨g, o, none⟩) l.length c) ∧ w'.cell? ⟨w.heap.size, 0, none⟩ = some (.int .i64 n) ∧ w'.cell? ⟨w.heap.size, 1, none⟩ = some (.int .i64 d) ∧ w'.cell? ⟨g, o, none⟩ = some (.int .i64 l[0].1))
        (first | go_keep | (go_split_ands; exact held4 hb1 ‹_› ‹_› ‹_› ‹_›) | (go_split_ands; exact held4 hb2 ‹_› ‹_› ‹_› ‹_›))
        (first | (go_at_call 22; refine (curve_is ((R0.out.grow (by go_grown))) HC.out).mono ?_; rintro e w1 ⟨rfl, hb1⟩) | (go_at_call 64; refine (less_is HF.out y0.1 y0.2 HL.out _).mono ?_; rintro e w2 ⟨rfl, hb2⟩))
      have B2 : Hid (Below w.heap.size w w2) := Lib.hid ((Below.trans (by go_grown) (hb1.mono (by go_size))).trans (hb2.mono (Below.trans (by go_grown) (hb1.mono (by go_size)) : Below w.heap.size w w1).size))
      rename_i HS
      have HS := Lib.hid HS
      clear hb1 hb2
      go_wp2_with fail
      go_ret
      exact .inr ⟨not_on_low (by omega) (of_decide_eq_true HL.out), rfl, B2.out⟩
    · have HL := Lib.hid hlow
      clear hlow
      go_enter Try.func63, Try.ntmps63
      go_wp2_with fail
      go_region_held3 (fun w' => w'.cell? ⟨b, 0, none⟩ = some (.slice (some ⟨g, o, none⟩) l.length c) ∧ w'.cell? ⟨w.heap.size, 0, none⟩ = some (.int .i64 n) ∧ w'.cell? ⟨w.heap.size, 1, none⟩ = some (.int .i64 d) ∧ w'.cell? ⟨g, o, none⟩ = some (.int .i64 l[0].1))
        (first | go_keep | (go_split_ands; exact held4 hb1 ‹_› ‹_› ‹_› ‹_›) | (go_split_ands; exact held4 hb2 ‹_› ‹_› ‹_› ‹_›))
        (first | (go_at_call 22; refine (curve_is ((R0.out.grow (by go_grown))) HC.out).mono ?_; rintro e w1 ⟨rfl, hb1⟩) | (go_at_call 64; refine (less_is HF.out y0.1 y0.2 HL.out _).mono ?_; rintro e w2 ⟨rfl, hb2⟩))
      have B2 : Hid (Below w.heap.size w w2) := Lib.hid ((Below.trans (by go_grown) (hb1.mono (by go_size))).trans (hb2.mono (Below.trans (by go_grown) (hb1.mono (by go_size)) : Below w.heap.size w w1).size))
      rename_i HS
      have HS := Lib.hid HS
      clear hb1 hb2
      obtain ⟨x0, x1, x2, _⟩ := HS.out
      go_wp2_with fail
      have HL2 : Hid (Passed l (fq n d) 0) := Lib.hid (passed_start sn (by have := of_decide_eq_false HL.out; grind))
      have hw2 : w.heap.size + 1 ≤ w2.heap.size := by
        have := cell_below x1
        exact this
      go_loopg [21] l.length (fun k x wr => ∃ j : Nat, x = .int .i64 j ∧ j + k = l.length ∧ Passed l (fq n d) j ∧ (j = 0 ∨ ∃ hj : j < l.length, (l[j].1 : Rat) < fq n d) ∧ Below w2.heap.size w2 wr)
      case atStart => exact ⟨0, rfl, by omega, HL2.out, .inl rfl, Below.refl _ _⟩
      case round =>
        obtain ⟨j, rfl, hk, hp, hor, hbr⟩ := hrel
        have K := Lib.hid hk; have PA := Lib.hid hp; have OR := Lib.hid hor; have BR := Lib.hid hbr
        have BW := Lib.hid (B2.out.trans (hbr.mono B2.out.size))
        have hjl : j < l.length := hp.lt
        have hs2 := hbr.size
        have v0 := (hbr.cell (cell_below x0)).trans x0
        have v1 := (hbr.cell (cell_below x1)).trans x1
        have v2 := (hbr.cell (cell_below x2)).trans x2
        clear hk hp hor hbr
        by_cases hlt : j + 1 < l.length
        · have RW := R0.out.grow BW.out
          obtain ⟨c1, c2⟩ := RW.cells (j + 1) hlt
          obtain ⟨c3, c4⟩ := RW.cells j hjl
          rw [show o + (j + 1) * 2 = o + 2 + j * 2 by omega] at c1 c2
          have hgl : g < wr.heap.size := cell_below c1
          have hwl : w.heap.size < wr.heap.size := by omega
          have hbl : b < wr.heap.size := by omega
          have dpj := ZD.out j hjl
          have dpk := ZD.out (j + 1) hlt
          obtain ⟨w1', w2', w3', w4'⟩ := dpk
          have lt1 : ((j : Int) < ((l.length - 1 : Nat) : Int)) := by omega
          have lt2 : ((j : Int) < ((l.length : Nat) : Int)) := by omega
          clear RW
          cases hless : decide ((l[j + 1].1 : Rat) < fq n d)
          · have HLE := Lib.hid hless
            clear hless
            go_wp2_with fail
            refine (is_less HF.out w1' w2' HLE.out _).mono ?_
            rintro e w5 ⟨rfl, hb5⟩
            obtain ⟨hs5, ha5⟩ : wr.heap.size < w5.heap.size ∧ Below wr.heap.size wr w5 := ⟨by have := hb5.size; simp at this; omega, Below.trans (by go_grown) (hb5.mono (by go_size))⟩
            have f0 : w5.cell? ⟨wr.heap.size, 0, none⟩ = some (.int .i64 l[j + 1].1) := (hb5.cell (p := ⟨wr.heap.size, 0, none⟩) (by simp)).trans (by go_cell)
            have f1 : w5.cell? ⟨wr.heap.size, 1, none⟩ = some (.int .i64 l[j + 1].2) := (hb5.cell (p := ⟨wr.heap.size, 1, none⟩) (by simp)).trans (by go_cell)
            have f2 := (ha5.cell (cell_below v0)).trans v0
            have f3 := (ha5.cell (cell_below c3)).trans c3
            have f4 := (ha5.cell (cell_below c4)).trans c4
            have HA5 := Lib.hid (BW.out.trans (ha5.mono BW.out.size))
            clear hb5 ha5 v0 v1 v2 c1 c2 c3 c4
            go_wp2_with fail
            go_region_held3 (fun w' => w'.cell? ⟨b, 0, none⟩ = some (.slice (some ⟨g, o, none⟩) l.length c) ∧ w'.cell? ⟨wr.heap.size, 0, none⟩ = some (.int .i64 l[j + 1].1) ∧ w'.cell? ⟨wr.heap.size, 1, none⟩ = some (.int .i64 l[j + 1].2) ∧ w'.cell? ⟨g, o + j * 2, none⟩ = some (.int .i64 l[j].1) ∧ w'.cell? ⟨g, o + j * 2 + 1, none⟩ = some (.int .i64 l[j].2))
              (first | go_keep | (go_split_ands; exact held5 hb6 ‹_› ‹_› ‹_› ‹_› ‹_›))
              ((go_at_call 66; refine (straightBetween_any (p := l[j]) (q := l[j + 1]) _ dpj (ZD.out (j + 1) hlt)).mono ?_; rintro e w6 ⟨s6, rfl, hs6, hb6⟩))
            have HX : Hid (¬ (l[j + 1].1 : Rat) < fq n d) := Lib.hid (of_decide_eq_false HLE.out)
            have HS6 := Lib.hid hs6
            have HB6 := Lib.hid (HA5.out.drew.trans (hb6.mono (HA5.out.drew).size))
            have HZ6 := Lib.hid hb6.size
            clear hs6 hb6
            go_wp2_with fail
            go_ret
            refine .inl ⟨PA.out.on HC.out hlt HX.out, _, _, _, rfl, ?_, PA.out.part HC.out hlt HX.out, HB6.out⟩
            exact HS6.out.mono (Nat.le_trans HA5.out.size (Nat.le_refl _))
          · have HLE := Lib.hid hless
            clear hless
            go_wp2_with fail
            refine (is_less HF.out w1' w2' HLE.out _).mono ?_
            rintro e w5 ⟨rfl, hb5⟩
            have HA5 : Hid (Below w2.heap.size w2 w5) := Lib.hid (BR.out.trans ((Below.trans (by go_grown) (hb5.mono (by go_size)) : Below wr.heap.size wr w5).mono hs2))
            have HX : Hid ((l[j + 1].1 : Rat) < fq n d) := Lib.hid (of_decide_eq_true HLE.out)
            clear hb5 v0 v1 v2 c1 c2 c3 c4
            go_wp2_with fail
            go_roundg (gk - 1)
            case measure => have := K.out; omega
            case rel => exact ⟨j + 1, by go_num, by have := K.out; omega, PA.out.next hlt HX.out, .inr ⟨hlt, HX.out⟩, HA5.out⟩
        · have hj : j = l.length - 1 := by omega
          have NO : Hid (onC l (fq n d) = false) := Lib.hid (by
            rcases OR.out with rfl | ⟨hj', hx⟩
            · omega
            · subst hj; exact not_on (by omega) hx)
          have lt1 : ¬ ((j : Int) < ((l.length - 1 : Nat) : Int)) := by omega
          go_wp2_with fail
          go_ret
          exact .inr ⟨NO.out, rfl, BW.out⟩
end Go.Proofs.Ythhdpjkmjebjhab
