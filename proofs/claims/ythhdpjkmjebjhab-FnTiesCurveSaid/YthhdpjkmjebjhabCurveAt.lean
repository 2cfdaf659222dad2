/- The contracts of the program's functions on curves: values of curves. -/
import Derived.Test.YthhdpjkmjebjhabSearch
namespace Go.Proofs.Ythhdpjkmjebjhab
open Go.RowKit

theorem search_no {w : World} {b : Nat} {v : Value} {l : List Pc} (hb : w.cell? ⟨b, 0, none⟩ = some v) (h : Row w v l) {n d : Int} (hf : fv n d = true) (ho : onC l (fq n d) = false) :
    Calls Try.prog 63 #[.agg #[.int .i64 n, .int .i64 d], .pointer (some ⟨b, 0, none⟩)] w fun e w' => Val w (.func (.func 65) #[] #[]) e w' :=
  (search_any hb h hf).mono fun e w' hh => by
    rcases hh with ⟨h1, _⟩ | ⟨_, h2, h3⟩
    · rw [ho] at h1; cases h1
    · exact ⟨h2, h3⟩
theorem search_yes {w : World} {b : Nat} {v : Value} {l : List Pc} (hb : w.cell? ⟨b, 0, none⟩ = some v) (h : Row w v l) {n d : Int} (hf : fv n d = true) (ho : onC l (fq n d) = true) :
    Calls Try.prog 63 #[.agg #[.int .i64 n, .int .i64 d], .pointer (some ⟨b, 0, none⟩)] w fun e w' => ∃ p q s, e = .returned s ∧ Straight w' w.heap.size s p q ∧ Part l (fq n d) p q ∧ Below w.heap.size w w' :=
  (search_any hb h hf).mono fun e w' hh => by
    rcases hh with ⟨_, h2⟩ | ⟨h1, _⟩
    · exact h2
    · rw [ho] at h1; cases h1
theorem straight_call {w : World} {B : Nat} {c : Array Value} {l : List Pc} {p q : Pc} {n d : Int} (h : Straight w B (.func (.func 81) #[] c) p q) (hp : Part l (fq n d) p q) (hf : fv n d = true) :
    Calls Try.prog 81 (#[.agg #[.int .i64 n, .int .i64 d]] ++ c) w fun e w' => GotFrac true (cAt l (fq n d)) w w' e := by
  obtain ⟨c', e, hc⟩ := straight_any h hp.dp hp.dq hp.less hp.up hf hp.low hp.high (R := fun e w' => GotFrac true (cAt l (fq n d)) w w' e) (fun e w' hg => by rw [hp.val]; exact hg)
  simp only [Value.func.injEq, true_and] at e
  subst e
  exact hc
theorem Straight.made {w : World} {B : Nat} {s : Value} {p q : Pc} (h : Straight w B s p q) : ∃ b1 b2 b3 : Nat, s = .func (.func 81) #[] #[.pointer (some ⟨b1, 0, none⟩), .pointer (some ⟨b2, 0, none⟩), .pointer (some ⟨b3, 0, none⟩)] := by
  obtain ⟨b1, b2, b3, e, _⟩ := h
  exact ⟨b1, b2, b3, e⟩

set_option maxHeartbeats 1600000 in
theorem at_any {w : World} {b : Nat} {v : Value} {l : List Pc} (hb : w.cell? ⟨b, 0, none⟩ = some v) (h : Row w v l) {n d : Int} (hf : fv n d = true) :
    Calls Try.prog 46 #[.func (.func 63) #[] #[.pointer (some ⟨b, 0, none⟩)], .agg #[.int .i64 n, .int .i64 d]] w fun e w' => GotFrac (onC l (fq n d)) (cAt l (fq n d)) w w' e := by
  have hbw : b < w.heap.size := cell_below hb
  have R := Lib.hid h; have HB := Lib.hid hb; have HF := Lib.hid hf
  clear h hb hf
  cases ho : onC l (fq n d)
  · have HO := Lib.hid ho
    clear ho
    go_enter Try.func46, Try.ntmps46
    go_wp2_with fail
    go_region_held3 (fun w' => w'.cell? ⟨w.heap.size, 0, none⟩ = some (.int .i64 n) ∧ w'.cell? ⟨w.heap.size, 1, none⟩ = some (.int .i64 d))
      (first | go_keep | (go_split_ands; exact held2 hb1 ‹_› ‹_›) | (go_split_ands; exact held2 hb2 ‹_› ‹_›))
      (first | (go_at_call 63; refine (search_no ((Below.cell (B := w.heap.size) (by go_grown) hbw).trans HB.out) (R.out.grow (by go_grown)) HF.out HO.out).mono ?_; rintro e w1 ⟨rfl, hb1⟩; obtain ⟨r0, r1, r2, r3⟩ := below_two (w.heap.size + 1) (.int .i64 0) (.int .i64 0) hb1 (by go_cell) (by go_cell) (by go_simp) (by go_simp)) | (go_at_call 65; refine (nowhere_any _ _ _).mono ?_; rintro e w2 ⟨rfl, hb2⟩; obtain ⟨s0, s1, s2, s3⟩ := below_two (w.heap.size + 1) (.int .i64 0) (.int .i64 0) hb2 r0 r1 r2 r3))
    have B2 : Hid (Below w.heap.size w w2) := Lib.hid ((Below.trans (by go_grown) (hb1.mono (by go_size))).trans (hb2.mono (Below.trans (by go_grown) (hb1.mono (by go_size)) : Below w.heap.size w w1).size))
    clear hb1 hb2
    go_wp2_with fail
    refine back_at 4 rfl rfl rfl (stored0 _ _ s0) (stored1 _ _ s1) rfl ?_
    exact ⟨0, 0, false, rfl, Res.no (.inl rfl), by have := B2.out; go_grown⟩
  · have HO := Lib.hid ho
    clear ho
    go_enter Try.func46, Try.ntmps46
    go_wp2_with fail
    go_region_held3 (fun w' => w'.cell? ⟨w.heap.size, 0, none⟩ = some (.int .i64 n) ∧ w'.cell? ⟨w.heap.size, 1, none⟩ = some (.int .i64 d))
      (first | go_keep | (go_split_ands; exact held2 hb1 ‹_› ‹_›) | (go_split_ands; exact held2 hb2 ‹_› ‹_›))
      (first | (go_at_call 63; refine (search_yes ((Below.cell (B := w.heap.size) (by go_grown) hbw).trans HB.out) (R.out.grow (by go_grown)) HF.out HO.out).mono ?_; rintro e w1 ⟨p, q, s, rfl, hs, hp, hb1⟩; obtain ⟨x1, x2, x3, rfl⟩ := hs.made; obtain ⟨r0, r1, r2, r3⟩ := below_two (w.heap.size + 1) (.int .i64 0) (.int .i64 0) hb1 (by go_cell) (by go_cell) (by go_simp) (by go_simp)) | (go_at_call 81; refine (straight_call hs hp HF.out).mono ?_; rintro e w2 ⟨n2, d2, ok2, rfl, hr2, hb2⟩; obtain ⟨s0, s1, s2, s3⟩ := below_two (w.heap.size + 1) (.int .i64 0) (.int .i64 0) hb2 r0 r1 r2 r3))
    have B2 : Hid (Below w.heap.size w w2) := Lib.hid ((Below.trans (by go_grown) (hb1.mono (by go_size))).trans (hb2.mono (Below.trans (by go_grown) (hb1.mono (by go_size)) : Below w.heap.size w w1).size))
    clear hb1 hb2
    go_wp2_with fail
    refine back_at 4 rfl rfl rfl (stored0 _ _ s0) (stored1 _ _ s1) rfl ?_
    exact ⟨n2, d2, ok2, rfl, hr2, by have := B2.out; go_grown⟩

theorem curveOf_any (w : World) (a : Option Addr) (n c : Nat) :
    Calls Try.prog 45 #[.slice a n c] w fun e w' => ∃ b, e = .returned (.func (.func 63) #[] #[.pointer (some ⟨b, 0, none⟩)]) ∧ w'.cell? ⟨b, 0, none⟩ = some (.slice a n c) ∧ Below w.heap.size w w' := by
  go_enter Try.func45, Try.ntmps45
  go_wp2_with fail
  go_ret
  exact ⟨_, rfl, by go_cell, by go_grown⟩
theorem onC_range {l : List Pc} {x : Rat} (h : onC l x = true) : (0 : Rat) ≤ x ∧ x ≤ 30000 := by
  rw [onC, Bool.and_eq_true] at h
  obtain ⟨h1, h2⟩ := h
  obtain ⟨z1, z2, zd, zs⟩ := isCurve_steps.1 h1
  obtain ⟨k1, k2⟩ := (cIn_iff (by omega)).1 h2
  have a := rat_le (zd 0 (by omega)).1
  have b := rat_le (zd (l.length - 1) (by omega)).2.1
  have e0 : ((0 : Int) : Rat) = 0 := rfl
  have e1 : ((30000 : Int) : Rat) = 30000 := rfl
  grind
theorem onC_int {l : List Pc} {x : Int} (h : onC l (x : Rat) = true) : 0 ≤ x ∧ x ≤ 30000 := by
  obtain ⟨a, b⟩ := onC_range h
  exact ⟨Rat.intCast_le_intCast.1 (by have e0 : ((0 : Int) : Rat) = 0 := rfl; rw [e0]; exact a), Rat.intCast_le_intCast.1 (by have e1 : ((30000 : Int) : Rat) = 30000 := rfl; rw [e1]; exact b)⟩
theorem divInt_one (x : Int) : Rat.divInt x 1 = (x : Rat) := fq_whole x
theorem whole_res {x n d : Int} {ok : Bool} (h : Res (ofV x 1) (Rat.divInt x 1) n d ok) : (ok = true ∧ fv n d = true ∧ fq n d = (x : Rat)) ∨ (ok = false ∧ ∀ l, onC l (x : Rat) = false) := by
  rcases h with ⟨h1, _, h3, h4⟩ | ⟨h1, _, _, h4⟩
  · exact .inl ⟨h1, h3, by rw [h4, divInt_one]⟩
  · refine .inr ⟨h1, fun l => ?_⟩
    cases ho : onC l (x : Rat)
    · rfl
    · obtain ⟨a, b⟩ := onC_int ho
      have f1 : ofV x 1 = true := ofV_iff.2 (by omega)
      have f2 : fits (Rat.divInt x 1) = true := by have := fq_fits (dp_fv a b); exact this
      rw [f1, f2] at h4
      simp at h4

set_option maxHeartbeats 1600000 in
theorem implCurveAt_any {w : World} {v : Value} {l : List Pc} (x : Int) (h : Row w v l) :
    Calls Try.prog 23 #[v, .int .i64 x] w fun e w' => GotFrac (onC l (x : Rat)) (cAt l (x : Rat)) w w' e := by
  obtain ⟨a, c, rfl, h1, h2⟩ := h.len
  have R := Lib.hid h
  clear h
  go_enter Try.func23, Try.ntmps23
  go_wp2_with fail
  refine (implFracOf_any _ _ _).mono ?_
  rintro e w1 ⟨n, d, ok, rfl, hr, b1⟩
  obtain ⟨r0, r1, r2, r3⟩ := below_two w.heap.size (.int .i64 0) (.int .i64 0) b1 (by go_cell) (by go_cell) (by go_simp) (by go_simp)
  have B1 : Hid (Below w.heap.size w w1) := Lib.hid (Below.trans (by go_grown) (b1.mono (by go_size)))
  have hl1 : w.heap.size < w1.heap.size := by have := b1.size; simp at this; omega
  have ne1 : ¬ w1.heap.size = w.heap.size := by omega
  have ne2 : ¬ w.heap.size = w1.heap.size := by omega
  rcases whole_res hr with ⟨rfl, hf, hq⟩ | ⟨rfl, hno⟩
  rotate_left
  · have NO := Lib.hid (hno l)
    clear hr b1 hno
    go_wp2_with fail
    refine back_at 4 (x := .int .i64 0) (y := .int .i64 0) rfl rfl rfl (by go_cell) (by go_cell) rfl ?_
    exact ⟨0, 0, false, rfl, Res.no (.inl NO.out), by have := B1.out; go_grown⟩
  have HF := Lib.hid hf; have HQ := Lib.hid hq
  clear hr b1 hf hq
  go_wp2_with fail
  go_region_held3 (fun w' => w'.cell? ⟨w1.heap.size, 0, none⟩ = some (.int .i64 n) ∧ w'.cell? ⟨w1.heap.size, 1, none⟩ = some (.int .i64 d))
    (first | go_keep | (go_split_ands; exact held2 hb3 ‹_› ‹_›) | (go_split_ands; exact held2 hb2 ‹_› ‹_›))
    (first | (go_at_call 45; refine (curveOf_any _ _ _ _).mono ?_; rintro e w2 ⟨b, rfl, hcb, hb2⟩; obtain ⟨s0, s1, s2, s3⟩ := below_two w.heap.size (.int .i64 0) (.int .i64 0) hb2 (by go_cell) (by go_cell) (by go_simp) (by go_simp); have BA : Hid (Below w.heap.size w w2) := Lib.hid (Below.trans (by have := B1.out; go_grown) (hb2.mono (by have := B1.out.size; simp; omega)))) | (go_at_call 46; refine (at_any hcb (R.out.grow BA.out) HF.out).mono ?_; rintro e w3 ⟨n2, d2, ok2, rfl, hr2, hb3⟩; obtain ⟨q0, q1, q2, q3⟩ := below_two w.heap.size (.int .i64 0) (.int .i64 0) hb3 s0 s1 s2 s3))
  have B3 : Hid (Below w.heap.size w w3) := Lib.hid (BA.out.trans (hb3.mono BA.out.size))
  rw [HQ.out] at hr2
  have HR := Lib.hid hr2
  clear hb3 hb2 hcb hr2
  go_wp2_with fail
  refine back_at 4 rfl rfl rfl (stored0 _ _ q0) (stored1 _ _ q1) rfl ?_
  exact ⟨n2, d2, ok2, rfl, HR.out, by have := B3.out; go_grown⟩
theorem cAt_fits {l : List Pc} {x : Int} (h : onC l (x : Rat) = true) : fits (cAt l (x : Rat)) = true := by
  rw [onC, Bool.and_eq_true] at h
  obtain ⟨p, q, m, rfl, h2, h3, h4⟩ := isCurve_iff.1 h.1
  have k := h.2
  simp only [cIn, Bool.and_eq_true, decide_eq_true_eq] at k
  exact at_fits h3 h4 (Rat.intCast_le_intCast.1 k.1) (Rat.intCast_le_intCast.1 k.2)
theorem at_res {l : List Pc} {x n d : Int} {ok : Bool} (h : Res (onC l (x : Rat)) (cAt l (x : Rat)) n d ok) : (ok = true ∧ onC l (x : Rat) = true ∧ fv n d = true ∧ fq n d = cAt l (x : Rat)) ∨ (ok = false ∧ n = 0 ∧ d = 0 ∧ onC l (x : Rat) = false) := by
  rcases h with ⟨h1, h2, h3, h4⟩ | ⟨h1, h2, h3, h4⟩
  · exact .inl ⟨h1, h2, h3, h4⟩
  · refine .inr ⟨h1, h2, h3, ?_⟩
    cases ho : onC l (x : Rat)
    · rfl
    · have := cAt_fits ho
      rw [ho, this] at h4
      simp at h4
/-- The value of the second curve at that of the first one. -/
def thenV (l m : List Pc) (x : Int) : Bool := onC l (x : Rat) && onC m (cAt l (x : Rat))
def thenR (l m : List Pc) (x : Int) : Rat := cAt m (cAt l (x : Rat))

set_option maxHeartbeats 1600000 in
theorem implCurveThen_any {w : World} {v u : Value} {l m : List Pc} (x : Int) (h : Row w v l) (k : Row w u m) :
    Calls Try.prog 32 #[v, u, .int .i64 x] w fun e w' => GotFrac (thenV l m x) (thenR l m x) w w' e := by
  obtain ⟨a, c, rfl, h1, h2⟩ := h.len
  obtain ⟨a', c', rfl, h1', h2'⟩ := k.len
  have R := Lib.hid h; have S := Lib.hid k
  clear h k
  go_enter Try.func32, Try.ntmps32
  go_wp2_with fail
  refine (implCurveAt_any x (R.out.grow (by go_grown))).mono ?_
  rintro e w1 ⟨n, d, ok, rfl, hr, b1⟩
  obtain ⟨r0, r1, r2, r3⟩ := below_two w.heap.size (.int .i64 0) (.int .i64 0) b1 (by go_cell) (by go_cell) (by go_simp) (by go_simp)
  have B1 : Hid (Below w.heap.size w w1) := Lib.hid (Below.trans (by go_grown) (b1.mono (by go_size)))
  have hl1 : w.heap.size < w1.heap.size := by have := b1.size; simp at this; omega
  have ne1 : ¬ w1.heap.size = w.heap.size := by omega
  have ne2 : ¬ w.heap.size = w1.heap.size := by omega
  rcases at_res hr with ⟨rfl, ho, hf, hq⟩ | ⟨rfl, rfl, rfl, ho⟩
  rotate_left
  · have NO : Hid (thenV l m x = false) := Lib.hid (by unfold thenV; rw [ho]; rfl)
    clear hr b1 ho
    go_wp2_with fail
    refine back_at 6 (x := .int .i64 0) (y := .int .i64 0) rfl rfl rfl (by go_cell) (by go_cell) rfl ?_
    exact ⟨0, 0, false, rfl, Res.no (.inl NO.out), by have := B1.out; go_grown⟩
  have HF := Lib.hid hf; have HQ := Lib.hid hq; have HO := Lib.hid ho
  clear hr b1 hf hq ho
  go_wp2_with fail
  go_region_held3 (fun w' => w'.cell? ⟨w1.heap.size, 0, none⟩ = some (.int .i64 n) ∧ w'.cell? ⟨w1.heap.size, 1, none⟩ = some (.int .i64 d))
    (first | go_keep | (go_split_ands; exact held2 hb3 ‹_› ‹_›) | (go_split_ands; exact held2 hb2 ‹_› ‹_›))
    (first | (go_at_call 45; refine (curveOf_any _ _ _ _).mono ?_; rintro e w2 ⟨b, rfl, hcb, hb2⟩; obtain ⟨s0, s1, s2, s3⟩ := below_two w.heap.size (.int .i64 0) (.int .i64 0) hb2 (by go_cell) (by go_cell) (by go_simp) (by go_simp); have BA : Hid (Below w.heap.size w w2) := Lib.hid (Below.trans (by have := B1.out; go_grown) (hb2.mono (by have := B1.out.size; simp; omega)))) | (go_at_call 46; refine (at_any hcb (S.out.grow BA.out) HF.out).mono ?_; rintro e w3 ⟨n2, d2, ok2, rfl, hr2, hb3⟩; obtain ⟨q0, q1, q2, q3⟩ := below_two w.heap.size (.int .i64 0) (.int .i64 0) hb3 s0 s1 s2 s3))
  have B3 : Hid (Below w.heap.size w w3) := Lib.hid (BA.out.trans (hb3.mono BA.out.size))
  rw [HQ.out] at hr2
  have HR := Lib.hid hr2
  clear hb3 hb2 hcb hr2
  go_wp2_with fail
  refine back_at 6 rfl rfl rfl (stored0 _ _ q0) (stored1 _ _ q1) rfl ?_
  refine ⟨n2, d2, ok2, rfl, ?_, by have := B3.out; go_grown⟩
  have := HR.out
  unfold thenV thenR
  rw [HO.out]; exact this
end Go.Proofs.Ythhdpjkmjebjhab
