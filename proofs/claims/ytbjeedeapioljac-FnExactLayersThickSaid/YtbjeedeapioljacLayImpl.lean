/- The contracts of the program's functions on layers: a list's iterator, how many come, numbers, ages. -/
import Derived.Test.YtbjeedeapioljacLayIt
import Derived.Test.YtbjeedeapioljacLaySpec2
namespace Go.Proofs.Ytbjeedeapioljac
open Go Go.RowKit Go.Shelf
attribute [local go_sem] Oper.semAt_some

/-- The layers of a list, or none. -/
def layOf (l : LL) : LL := if isLay l = true then l else []
theorem layOf_yes {l : LL} (h : isLay l = true) : layOf l = l := if_pos h
theorem layOf_no {l : LL} (h : isLay l = false) : layOf l = [] := if_neg (by rw [h]; simp)
theorem layOf_len (l : LL) : (layOf l).length ≤ 40 := by
  unfold layOf; split
  · rename_i h; exact lay_len h
  · simp
theorem lrow_none (w : World) : LRow w (.slice none 0 0) [] := lrow_empty none (Nat.zero_le _)
theorem each_any {n A : Nat} {w : World} {v : Value} {l : LL} (h : LRow w v l) (hv : 0 < l.length → InG (fun j => j < n) v) (hn : n ≤ w.heap.size) :
    Calls Try.prog 38 #[v] w fun e w' => ∃ u, e = .returned u ∧ Src n A w' u (layOf l) ∧ Below w.heap.size w w' := by
  have H := Lib.hid h; have HV := Lib.hid hv
  have hlen := layOf_len l
  obtain ⟨a, c, rfl, h1, h2, _⟩ := h.parts
  clear h hv
  have fin : Hid (∀ (w1 w2 : World) (sv : Value) (m : LL), Below w.heap.size w w1 → LRow w1 sv m → m.length ≤ 1100000 → (0 < m.length → InG (fun j => j < n) sv) → w2.cell? ⟨w1.heap.size, 0, none⟩ = some sv → w2.heap.size = w1.heap.size + 1 → Below w1.heap.size w1 w2 →
      Src n A w2 (.func (.func 55) #[] #[.pointer (some ⟨w1.heap.size, 0, none⟩)]) m) := Lib.hid (by
    intro w1 w2 sv m hb hr hm hg hc hs hb2
    have := hb.size
    refine ⟨_, _, rfl, enters_of Try.func55 (by kernel_rfl) rfl, ?_⟩
    exact seq_values w1.heap.size sv m w2 hm hc (hr.grow hb2) (fun h0 g o n' c' e => .inl (hg h0 g o n' c' e)) (fun j hj => hj.lt (by omega)))
  cases hl : isLay l
  · have R := Lib.hid hl
    clear hl
    go_enter Try.func38, Try.ntmps38
    go_wp2_with fail
    refine (implValid_is H.out R.out).mono ?_
    rintro e w1 ⟨rfl, b1⟩
    go_wp2_with fail
    refine (values_any (.slice none 0 0) [] w1 (lrow_none w1)).mono ?_
    rintro e w2 ⟨rfl, c2, s2, b2⟩
    have B1 := Lib.hid b1; have B2 := Lib.hid b2; have C2 := Lib.hid c2; have S2 := Lib.hid s2
    clear b1 b2 c2 s2
    go_wp2_with fail
    go_ret
    refine ⟨_, rfl, ?_, B1.out.trans (B2.out.mono B1.out.size)⟩
    rw [layOf_no R.out]
    exact fin.out w1 w2 _ [] B1.out (lrow_none w1) (by simp) (fun h0 => by simp at h0) C2.out S2.out B2.out
  · have R := Lib.hid hl
    clear hl
    go_enter Try.func38, Try.ntmps38
    go_wp2_with fail
    refine (implValid_is H.out R.out).mono ?_
    rintro e w1 ⟨rfl, b1⟩
    go_wp2_with fail
    refine (values_any _ l w1 (H.out.grow b1)).mono ?_
    rintro e w2 ⟨rfl, c2, s2, b2⟩
    have B1 := Lib.hid b1; have B2 := Lib.hid b2; have C2 := Lib.hid c2; have S2 := Lib.hid s2
    clear b1 b2 c2 s2
    go_wp2_with fail
    go_ret
    refine ⟨_, rfl, ?_, B1.out.trans (B2.out.mono B1.out.size)⟩
    rw [layOf_yes R.out]
    exact fin.out w1 w2 _ l B1.out (H.out.grow B1.out) (by have := lay_len R.out; omega) HV.out C2.out S2.out B2.out
set_option maxRecDepth 100000 in
set_option maxHeartbeats 1000000 in
theorem many_any {n : Nat} {w : World} {v : Value} {xs : List Ly} (h : Src n n w v xs) (hn : n ≤ w.heap.size) (hlen : xs.length ≤ 1100000) :
    Calls Try.prog 39 #[v] w fun e w' => e = .returned (.int .i64 xs.length) ∧ Below w.heap.size w w' := by
  obtain ⟨gf, lb, rfl, eg, hseq⟩ := h
  refine (callsIn_wide (n := 9)).1 ?_
  refine callsIn_of_wp_marks Try.func39 rfl trivial ?_ rfl
  simp only [Try.ntmps39, List.size_toArray, List.length_cons, List.length_nil, Nat.reduceAdd, Nat.reduceSub, Array.replicate_succ, Array.replicate_zero, List.push_toArray, List.append_toArray, List.nil_append, List.cons_append]
  gi_wp2
  obtain ⟨w1, hw1⟩ : ∃ w1, w.alloc (.cells #[.int .i64 0] 3) = w1 := ⟨_, rfl⟩
  have hb : Below w.heap.size w w1 := by rw [← hw1]; exact (Below.refl _ w).alloc (Nat.le_refl _) _
  have hs : w1.heap.size = w.heap.size + 1 := by rw [← hw1]; simp
  have c1 : w1.heap[w.heap.size]? = some (.cells #[.int .i64 0] 3 (0, 0)) := by rw [← hw1]; exact World.alloc_heap_new _ _
  rw [hw1]
  refine range_law (w0 := w) rfl eg hseq hb (fun _ => rfl) (fun j hj => by have := hj.lt hn; omega)
    (fun M k wr => wr.heap[w.heap.size]? = some (.cells #[.int .i64 k] 3 (0, 0)) ∧ Below w.heap.size w wr) (fun _ _ => False)
    (fun M k => (stable_obj _ _ _ _ (by omega)).and (stable_below (by omega) (Nat.le_refl _))) (fun M => fun _ _ h _ => h)
    (fun M hM => ⟨c1, hb⟩) ?round ?done ?stop
  case round =>
    rintro M k hk wr hM hMW ⟨hc, hbw⟩
    gi_wp2
    refine ⟨Below.refl _ _, fun W₂ ht ⟨hc2, hb2⟩ => ?_⟩
    have e1 := Boxed.cell hc2
    have f1 := Boxed.frozen hc2
    have hkn : (k : Int) < 1100000 := by omega
    gi_wp2
    refine ⟨(turned_set _ _ _ _).keep (by omega) (fun h => ?_), ?_, (turned_set _ _ _ _).below hb2 (by omega)⟩
    · rcases h with h | h <;> omega
    · exact Boxed.set (.int .i64 ((k : Int) + 1)) hc2
  case done =>
    rintro M wr hM hMW ⟨hc, hbw⟩ hD
    have bc : wr.cell? ⟨w.heap.size, 0, none⟩ = some (.int .i64 xs.length) := by simp [World.cell?, hc]
    gi_wp2
    refine ⟨by simp, .inl ⟨_, _, rfl, run_takeDeferred hD, ?_⟩⟩
    exact ⟨_, results_tmp rfl _ _ _, rfl, (turned_put _ _ _).below hbw (by omega)⟩
  case stop =>
    rintro M wr _ _ h _
    exact h.elim
theorem cntA_len (t b : Int) (l : LL) : (l.filter (inS t b)).length = cntA t b l := by rw [cntA, List.countP_eq_length_filter]
theorem cntS_len (t b : Int) (l : LL) : ((l.filter (inS t b)).filter (·.2)).length = cntS t b l := by
  rw [cntS, List.filter_filter, List.countP_eq_length_filter]
  congr 2; funext x; exact Bool.and_comm _ _
theorem span_no {t b : Int} {l : LL} (h : ¬ (0 ≤ t ∧ t ≤ b ∧ b ≤ 30000)) : cntOk l t b = false := by
  cases e : cntOk l t b
  · rfl
  · exact absurd (cntOk_iff.1 e).2 h
set_option maxHeartbeats 1000000 in
theorem implCount_any {w : World} {v : Value} {l : LL} (t b : Int) (h : LRow w v l) :
    Calls Try.prog 12 #[v, .int .i64 t, .int .i64 b] w fun e w' => e = .returned (cntV l t b) ∧ Below w.heap.size w w' := by
  have HV := Lib.hid h
  have IN : Hid (0 < l.length → InG (fun j => j < w.heap.size) v) := Lib.hid (inG_row h)
  obtain ⟨a, c, rfl, h1, h2, _⟩ := h.parts
  clear h
  cases hv : isLay l
  · have LV := Lib.hid hv
    clear hv
    go_enter Try.func12, Try.ntmps12
    go_wp2_with fail
    refine (implValid_is HV.out LV.out).mono ?_
    rintro e w1 ⟨rfl, b1⟩
    go_wp2_with fail
    go_ret3
    exact ⟨by rw [cntV_no (cntOk_lay LV.out)]; rfl, b1⟩
  have LV := Lib.hid hv
  clear hv
  by_cases q1 : t < 0
  · have d1 : decide (t < 0) = true := by simpa using q1
    have N := Lib.hid (span_no (t := t) (b := b) (l := l) (by omega))
    go_enter Try.func12, Try.ntmps12
    go_wp2_with fail
    refine (implValid_is HV.out LV.out).mono ?_
    rintro e w1 ⟨rfl, b1⟩
    go_wp2_with fail
    go_ret3
    exact ⟨by rw [cntV_no N.out]; rfl, b1⟩
  have d1 : decide (t < 0) = false := by simpa using q1
  by_cases q2 : b < t
  · have d2 : decide (b < t) = true := by simpa using q2
    have N := Lib.hid (span_no (t := t) (b := b) (l := l) (by omega))
    go_enter Try.func12, Try.ntmps12
    go_wp2_with fail
    refine (implValid_is HV.out LV.out).mono ?_
    rintro e w1 ⟨rfl, b1⟩
    go_wp2_with fail
    go_ret3
    exact ⟨by rw [cntV_no N.out]; rfl, b1⟩
  have d2 : decide (b < t) = false := by simpa using q2
  by_cases q3 : 30000 < b
  · have d3 : decide (30000 < b) = true := by simpa using q3
    have N := Lib.hid (span_no (t := t) (b := b) (l := l) (by omega))
    go_enter Try.func12, Try.ntmps12
    go_wp2_with fail
    refine (implValid_is HV.out LV.out).mono ?_
    rintro e w1 ⟨rfl, b1⟩
    go_wp2_with fail
    go_ret3
    exact ⟨by rw [cntV_no N.out]; rfl, b1⟩
  have d3 : decide (30000 < b) = false := by simpa using q3
  have OK := Lib.hid (cntOk_iff.2 ⟨LV.out, by omega, by omega, by omega⟩ : cntOk l t b = true)
  obtain ⟨m40, n40, _⟩ := cnt_bounds LV.out t b
  go_enter Try.func12, Try.ntmps12
  go_wp2_with fail
  refine (implValid_is HV.out LV.out).mono ?_
  rintro e w1 ⟨rfl, b1⟩
  have B1 := Lib.hid b1
  clear b1
  go_wp2_with fail
  refine (each_any (n := w.heap.size) (A := w.heap.size) (HV.out.grow B1.out) IN.out B1.out.size).mono ?_
  rintro e w2 ⟨u2, rfl, s2, b2⟩
  rw [layOf_yes LV.out] at s2
  have S2 := Lib.hid s2
  have B2 := Lib.hid (B1.out.trans (b2.mono B1.out.size))
  obtain ⟨g2, lb2, rfl, _⟩ := s2
  clear b2
  go_wp2_with fail
  refine (between_any t b w2 S2.out B2.out.size B2.out.size).mono ?_
  rintro e w3 ⟨u3, rfl, s3, b3⟩
  have S3 := Lib.hid s3
  have B3 := Lib.hid (B2.out.trans (b3.mono B2.out.size))
  obtain ⟨g3, lb3, rfl, _⟩ := s3
  clear b3
  go_wp2_with fail
  refine (sure_any w3 S3.out B3.out.size B3.out.size).mono ?_
  rintro e w4 ⟨u4, rfl, s4, b4⟩
  have S4 := Lib.hid s4
  have B34 := Lib.hid b4
  have B4 := Lib.hid (B3.out.trans (b4.mono B3.out.size))
  obtain ⟨g4, lb4, rfl, _⟩ := s4
  clear b4
  go_wp2_with fail
  refine (many_any S4.out B4.out.size (by rw [cntS_len]; omega)).mono ?_
  rw [cntS_len]
  rintro e w5 ⟨rfl, b5⟩
  have S5 := Lib.hid ((S3.out.grow B34.out).grow b5)
  have B5 := Lib.hid (B4.out.trans (b5.mono B4.out.size))
  clear b5
  go_wp2_with fail
  refine (many_any S5.out B5.out.size (by rw [cntA_len]; omega)).mono ?_
  rw [cntA_len]
  rintro e w6 ⟨rfl, b6⟩
  have B6 := Lib.hid (B5.out.trans (b6.mono B5.out.size))
  clear b6
  go_wp2_with fail
  go_ret3
  exact ⟨by rw [cntV_yes OK.out]; rfl, B6.out⟩
set_option maxHeartbeats 800000 in
theorem implHalf_any {w : World} {v : Value} {l : LL} (t b : Int) (h : LRow w v l) :
    Calls Try.prog 20 #[v, .int .i64 t, .int .i64 b] w fun e w' => e = .returned (halfV l t b) ∧ Below w.heap.size w w' := by
  have C := Lib.hid (implCount_any t b h)
  obtain ⟨a, c, rfl, h1, h2, _⟩ := h.parts
  clear h
  cases hv : cntOk l t b
  · have O := Lib.hid hv
    clear hv
    go_enter Try.func20, Try.ntmps20
    go_wp2_with fail
    refine C.out.mono ?_
    rw [cntV_no O.out]
    rintro e w1 ⟨rfl, b1⟩
    go_wp2_with fail
    go_ret2
    exact ⟨by rw [halfV_no O.out]; rfl, b1⟩
  · have O := Lib.hid hv
    obtain ⟨m40, n40, _⟩ := cnt_bounds (cntOk_iff.1 hv).1 t b
    clear hv
    go_enter Try.func20, Try.ntmps20
    go_wp2_with fail
    refine C.out.mono ?_
    rw [cntV_yes O.out]
    rintro e w1 ⟨rfl, b1⟩
    have e1 : IntKind.i64.wrap ((cntS t b l : Int) + cntA t b l) = (cntS t b l : Int) + cntA t b l := IntWalk.i64_in _ (by omega)
    go_wp2_with fail
    go_ret2
    exact ⟨by rw [halfV_yes O.out]; first | rfl | simp only [e1]; rfl, b1⟩
theorem age_no2 {l : LL} {a d : Int} (h : ¬ (-400000 ≤ a ∧ a ≤ 400000)) : ageOk l a d = false := by
  cases e : ageOk l a d
  · rfl
  · exact absurd ⟨(ageOk_iff.1 e).2.2.2.1, (ageOk_iff.1 e).2.2.2.2⟩ h
set_option maxHeartbeats 800000 in
theorem implAge_any {w : World} {v : Value} {l : LL} (x d : Int) (h : LRow w v l) :
    Calls Try.prog 22 #[v, .int .i64 x, .int .i64 d] w fun e w' => e = .returned (ageV l x d) ∧ Below w.heap.size w w' := by
  have C := Lib.hid (implCount_any 0 d h)
  obtain ⟨a, c, rfl, h1, h2, _⟩ := h.parts
  clear h
  cases hv : cntOk l 0 d
  · have O := Lib.hid hv
    clear hv
    go_enter Try.func22, Try.ntmps22
    go_wp2_with fail
    refine C.out.mono ?_
    rw [cntV_no O.out]
    rintro e w1 ⟨rfl, b1⟩
    go_wp2_with fail
    go_ret3
    exact ⟨by rw [ageV_no (age_no O.out)]; rfl, b1⟩
  have O := Lib.hid hv
  obtain ⟨m40, n40, _⟩ := cnt_bounds (cntOk_iff.1 hv).1 0 d
  clear hv
  by_cases q1 : x < -400000
  · have d1 : decide (x < -400000) = true := by simpa using q1
    have N := Lib.hid (age_no2 (l := l) (a := x) (d := d) (by omega))
    go_enter Try.func22, Try.ntmps22
    go_wp2_with fail
    refine C.out.mono ?_
    rw [cntV_yes O.out]
    rintro e w1 ⟨rfl, b1⟩
    go_wp2_with fail
    go_ret3
    exact ⟨by rw [ageV_no N.out]; rfl, b1⟩
  have d1 : decide (x < -400000) = false := by simpa using q1
  by_cases q2 : 400000 < x
  · have d2 : decide (400000 < x) = true := by simpa using q2
    have N := Lib.hid (age_no2 (l := l) (a := x) (d := d) (by omega))
    go_enter Try.func22, Try.ntmps22
    go_wp2_with fail
    refine C.out.mono ?_
    rw [cntV_yes O.out]
    rintro e w1 ⟨rfl, b1⟩
    go_wp2_with fail
    go_ret3
    exact ⟨by rw [ageV_no N.out]; rfl, b1⟩
  have d2 : decide (400000 < x) = false := by simpa using q2
  have Y := Lib.hid (age_in (a := x) O.out (isIn_yes (by omega) (by omega)))
  have e1 : IntKind.i64.wrap (x + cntS 0 d l) = x + cntS 0 d l := IntWalk.i64_in _ (by omega)
  have e2 : IntKind.i64.wrap (x + cntA 0 d l) = x + cntA 0 d l := IntWalk.i64_in _ (by omega)
  go_enter Try.func22, Try.ntmps22
  go_wp2_with fail
  refine C.out.mono ?_
  rw [cntV_yes O.out]
  rintro e w1 ⟨rfl, b1⟩
  go_wp2_with fail
  go_ret3
  exact ⟨by rw [ageV_yes Y.out]; rfl, b1⟩
end Go.Proofs.Ytbjeedeapioljac
