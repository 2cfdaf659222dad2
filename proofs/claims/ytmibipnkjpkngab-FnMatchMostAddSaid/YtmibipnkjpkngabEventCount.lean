/- The contracts of the model's functions on events: the number of matchings. -/
import Derived.Test.YtmibipnkjpkngabEvent
namespace Go.Proofs.Ytmibipnkjpkngab
open Go.RowKit

/-- The matchings of what is left from two places on. -/
def cf (tol : Int) (s t : List Int) (i f : Nat) : Int := ((cnt tol (s.drop i) (t.drop f) : Nat) : Int)
theorem cf_end (tol : Int) (s t : List Int) (f : Nat) : cf tol s t s.length f = 1 := by unfold cf; rw [List.drop_length, cnt_nil]; rfl
/-- Those in which the event i has a partner from the place j on. -/
def wf (tol : Int) (s t : List Int) (i j : Nat) : Int := ((cnt.with1 tol (s.getD i 0) (s.drop (i + 1)) (t.drop j) : Nat) : Int)
theorem wf_nonneg (tol : Int) (s t : List Int) (i j : Nat) : 0 ≤ wf tol s t i j := Int.natCast_nonneg _
theorem cf_nonneg (tol : Int) (s t : List Int) (i j : Nat) : 0 ≤ cf tol s t i j := Int.natCast_nonneg _
theorem wf_end (tol : Int) (s t : List Int) (i : Nat) : wf tol s t i t.length = 0 := by unfold wf; rw [List.drop_length, with1_nil]; rfl
theorem cf_step {tol : Int} {s t : List Int} {i f : Nat} (hi : i < s.length) : cf tol s t i f = cf tol s t (i + 1) f + wf tol s t i f := by
  unfold cf wf
  have hd : s.getD i 0 = s[i] := by rw [List.getD_eq_getElem?_getD, List.getElem?_eq_getElem hi]; rfl
  rw [hd, List.drop_eq_getElem_cons hi, cnt_cons]; omega
theorem wf_step {tol : Int} {s t : List Int} {i j : Nat} (hj : j < t.length) : wf tol s t i j = (if like tol (s.getD i 0) t[j] then cf tol s t (i + 1) (j + 1) else 0) + wf tol s t i (j + 1) := by
  unfold cf wf
  rw [List.drop_eq_getElem_cons hj, with1_cons]
  split <;> omega
theorem cf_le {tol : Int} {a b : List Ev} (ha : isEv a = true) (hb : isEv b = true) (i f : Nat) : cf tol (sizes a) (sizes b) i f ≤ 12870 := by
  have n8 := (isEv_iff.1 ha).1
  have m8 := (isEv_iff.1 hb).1
  have h := cnt_le tol ((sizes a).drop i) ((sizes b).drop f)
  have k := all2_bound ((sizes a).drop i).length (by rw [List.length_drop, sizes_length]; omega) ((sizes b).drop f).length (by rw [List.length_drop, sizes_length]; omega)
  unfold cf; omega
set_option maxRecDepth 100000 in
set_option maxHeartbeats 6400000 in
theorem specCount_rec {a b : List Ev} {tol : Int} (ha : isEv a = true) (hb : isEv b = true) : ∀ (d : Nat) (w : World) (v u : Value) (i f : Nat), i + d = a.length → f ≤ b.length → Row w v a → Row w u b →
    Calls Try.prog 39 #[v, u, .int .i64 tol, .int .i64 i, .int .i64 f] w fun e w' => Val w (.int .i64 (cf tol (sizes a) (sizes b) i f)) e w'
  | 0, w, v, u, i, f, hi, hf, h, k => by
    obtain ⟨pa, ca, rfl, ha1, ha2⟩ := h.len
    have e : (i : Int) = (a.length : Int) := by omega
    have R : Hid (cf tol (sizes a) (sizes b) i f = 1) := Lib.hid (by rw [show i = (sizes a).length by rw [sizes_length]; omega]; exact cf_end _ _ _ _)
    go_enter Try.func39, Try.ntmps39
    go_wp2_with fail
    go_ret
    exact ⟨by rw [R.out]; rfl, by go_grown⟩
  | d + 1, w, v, u, i, f, hi, hf, h, k => by
    have n8 := (isEv_iff.1 ha).1
    have m8 := (isEv_iff.1 hb).1
    have hia : i < a.length := by omega
    have IH := Lib.hid (specCount_rec (tol := tol) ha hb d)
    have H := Lib.hid h; have H' := Lib.hid k
    obtain ⟨ga, oa, ca, rfl, ha1, ha2⟩ := h.known (by omega)
    obtain ⟨pb, cb, rfl, hb1, hb2, hlb⟩ := k.parts
    obtain ⟨d1, d2⟩ := h.cells i hia
    have LB := Lib.hid hlb
    have VA := Lib.hid ha; have VB := Lib.hid hb
    have sa := ev_sizes ha hia
    have SX : Hid ((sizes a).getD i 0 = a[i].2) := Lib.hid (sizes_getD hia)
    have ST := Lib.hid (cf_step (tol := tol) (s := sizes a) (t := sizes b) (i := i) (f := f) (by rw [sizes_length]; exact hia))
    have w1 : IntKind.i64.wrap ((i : Int) + 1) = ((i + 1 : Nat) : Int) := by rw [show (i : Int) + 1 = ((i + 1 : Nat) : Int) by omega]; exact IntWalk.i64_in _ (by omega)
    have ne : ¬ (i : Int) = (a.length : Int) := by omega
    have i0 : (0 : Int) ≤ (i : Int) := by omega
    have i1 : (i : Int) < (a.length : Int) := by omega
    have hd : i + 1 + d = a.length := by omega
    have BD := Lib.hid (fun x y => cf_le (tol := tol) ha hb x y)
    unfold maxLen at ha2 hb2
    clear h k hlb ha hb
    go_enter Try.func39, Try.ntmps39
    go_wp2_with fail
    refine (IH.out _ _ _ (i + 1) f hd hf H.out H'.out).mono ?_
    rintro e w2 ⟨rfl, b2⟩
    have B2 := Lib.hid b2
    clear b2
    go_wp2_with fail
    go_loopg [11, 12] (b.length - f) (fun g x y wr => ∃ (j : Nat) (N : Int), x = .int .i64 N ∧ y = .int .i64 j ∧ f ≤ j ∧ j + g = b.length ∧ N + wf tol (sizes a) (sizes b) i j = cf tol (sizes a) (sizes b) i f ∧ 0 ≤ N ∧ Below w.heap.size w wr)
    case atStart => exact ⟨f, _, rfl, rfl, Nat.le_refl _, by omega, ST.out.symm, cf_nonneg _ _ _ _ _, B2.out⟩
    case round =>
      obtain ⟨j, N, rfl, rfl, hfj, hk, hN, hN0, hbl⟩ := hrel
      have K := Lib.hid hk; have NN := Lib.hid hN; have B := Lib.hid hbl
      have hjb : j ≤ b.length := by omega
      clear hk hN hbl
      by_cases hlt : j < b.length
      · obtain ⟨gb, ob, rfl, c3, c4⟩ := lies_cell LB.out j hlt
        have e1 := (B.out.cell (cell_below d1)).trans d1
        have e2 := (B.out.cell (cell_below d2)).trans d2
        have e3 := (B.out.cell (cell_below c3)).trans c3
        have e4 := (B.out.cell (cell_below c4)).trans c4
        have sb := ev_sizes VB.out hlt
        have hjs : j < (sizes b).length := by rw [sizes_length]; exact hlt
        have WS := Lib.hid (wf_step (tol := tol) (s := sizes a) (t := sizes b) (i := i) (j := j) hjs)
        have SY : Hid ((sizes b)[j]'hjs = b[j].2) := Lib.hid (sizes_get _)
        have w2' : IntKind.i64.wrap ((j : Int) + 1) = ((j + 1 : Nat) : Int) := by rw [show (j : Int) + 1 = ((j + 1 : Nat) : Int) by omega]; exact IntWalk.i64_in _ (by omega)
        have j0 : (0 : Int) ≤ (j : Int) := by omega
        have j1 : (j : Int) < (b.length : Int) := by omega
        have held : ∀ W w' : World, Below W.heap.size W w' → ((W.cell? ⟨ga, oa + i * 2, none⟩ = some (.int .i64 a[i].1) ∧ W.cell? ⟨ga, oa + i * 2 + 1, none⟩ = some (.int .i64 a[i].2) ∧ W.cell? ⟨gb, ob + j * 2, none⟩ = some (.int .i64 b[j].1) ∧ W.cell? ⟨gb, ob + j * 2 + 1, none⟩ = some (.int .i64 b[j].2)) ∧ Below wr.heap.size wr W) → ((w'.cell? ⟨ga, oa + i * 2, none⟩ = some (.int .i64 a[i].1) ∧ w'.cell? ⟨ga, oa + i * 2 + 1, none⟩ = some (.int .i64 a[i].2) ∧ w'.cell? ⟨gb, ob + j * 2, none⟩ = some (.int .i64 b[j].1) ∧ w'.cell? ⟨gb, ob + j * 2 + 1, none⟩ = some (.int .i64 b[j].2)) ∧ Below wr.heap.size wr w') :=
          fun W w' k h => ⟨⟨(k.cell (cell_below h.1.1)).trans h.1.1, (k.cell (cell_below h.1.2.1)).trans h.1.2.1, (k.cell (cell_below h.1.2.2.1)).trans h.1.2.2.1, (k.cell (cell_below h.1.2.2.2)).trans h.1.2.2.2⟩, h.2.trans (k.mono h.2.size)⟩
        have keep0 := held _ _ (Below.refl wr.heap.size wr).drew ⟨⟨e1, e2, e3, e4⟩, Below.refl _ _⟩
        have HD := Lib.hid held
        clear c3 c4 held
        cases hy : like tol a[i].2 b[j].2
        · have HY := Lib.hid hy
          have N2 : Hid (N + wf tol (sizes a) (sizes b) i (j + 1) = cf tol (sizes a) (sizes b) i f) := Lib.hid (by
            have h := NN.out; have h2 := WS.out
            rw [SX.out, SY.out, HY.out] at h2
            simp only [Bool.false_eq_true, if_false] at h2; omega)
          clear hy
          go_wp2_with fail
          go_region_held3 (fun w' => (w'.cell? ⟨ga, oa + i * 2, none⟩ = some (.int .i64 a[i].1) ∧ w'.cell? ⟨ga, oa + i * 2 + 1, none⟩ = some (.int .i64 a[i].2) ∧ w'.cell? ⟨gb, ob + j * 2, none⟩ = some (.int .i64 b[j].1) ∧ w'.cell? ⟨gb, ob + j * 2 + 1, none⟩ = some (.int .i64 b[j].2)) ∧ Below wr.heap.size wr w')
            (first | (with_reducible exact keep0) | (with_reducible exact hs1) | assumption)
            (first | (go_at_call 44; refine (likeS_is (p := a[i]) (q := b[j]) sa sb HY.out _).mono ?_; rintro e w1 ⟨rfl, b1⟩; have hs1 := HD.out _ _ b1 (by assumption)))
          all_goals
            have B5 := Lib.hid (B.out.trans (hs1.2.mono B.out.size))
            go_wp2_with fail
            go_roundg (gk - 1)
            case measure => have := K.out; omega
            case rel => exact ⟨j + 1, N, rfl, by go_num, by omega, by have := K.out; omega, N2.out, hN0, B5.out⟩
        · have HY := Lib.hid hy
          obtain ⟨c, hc⟩ : ∃ c, cf tol (sizes a) (sizes b) (i + 1) (j + 1) = c := ⟨_, rfl⟩
          have c0 := cf_nonneg tol (sizes a) (sizes b) (i + 1) (j + 1)
          have C := Lib.hid hc
          have N2 : Hid (N + c + wf tol (sizes a) (sizes b) i (j + 1) = cf tol (sizes a) (sizes b) i f) := Lib.hid (by
            have h := NN.out; have h2 := WS.out
            rw [SX.out, SY.out, HY.out, if_pos rfl, hc] at h2; omega)
          rw [hc] at c0
          have up := BD.out i f
          have wn := wf_nonneg tol (sizes a) (sizes b) i (j + 1)
          have w3 : IntKind.i64.wrap (N + c) = N + c := IntWalk.i64_in _ (by have := N2.out; omega)
          clear hy hc up wn
          go_wp2_with fail
          go_region_held3 (fun w' => (w'.cell? ⟨ga, oa + i * 2, none⟩ = some (.int .i64 a[i].1) ∧ w'.cell? ⟨ga, oa + i * 2 + 1, none⟩ = some (.int .i64 a[i].2) ∧ w'.cell? ⟨gb, ob + j * 2, none⟩ = some (.int .i64 b[j].1) ∧ w'.cell? ⟨gb, ob + j * 2 + 1, none⟩ = some (.int .i64 b[j].2)) ∧ Below wr.heap.size wr w')
            (first | (with_reducible exact keep0) | (with_reducible exact hs1) | assumption)
            (first | (go_at_call 44; refine (likeS_is (p := a[i]) (q := b[j]) sa sb HY.out _).mono ?_; rintro e w1 ⟨rfl, b1⟩; have hs1 := HD.out _ _ b1 (by assumption)))
          all_goals
            have B5 := Lib.hid (B.out.trans (hs1.2.mono B.out.size))
            go_wp2_with fail
            refine (IH.out _ _ _ (i + 1) (j + 1) hd (by omega) (H.out.grow B5.out) (H'.out.grow B5.out)).mono ?_
            rintro e w6 ⟨rfl, b6⟩
            have B6 := Lib.hid (B5.out.trans (b6.mono B5.out.size))
            rw [C.out]
            clear b6
            go_wp2_with fail
            go_roundg (gk - 1)
            case measure => have := K.out; omega
            case rel => exact ⟨j + 1, N + c, rfl, by go_num, by omega, by have := K.out; omega, N2.out, by omega, B6.out⟩
      · have hj : j = b.length := by omega
        have R : Hid (N = cf tol (sizes a) (sizes b) i f) := Lib.hid (by
          have h := NN.out
          rw [hj, ← sizes_length b, wf_end] at h; omega)
        go_wp2_with fail
        go_ret
        exact ⟨by rw [← R.out]; rfl, B.out⟩
set_option maxHeartbeats 1600000 in
theorem specCountAll_any {w : World} {v u : Value} {a b : List Ev} (tol : Int) (h : Row w v a) (k : Row w u b) :
    Calls Try.prog 19 #[v, u, .int .i64 tol] w fun e w' => Val w (.int .i64 (countB a b tol)) e w' := by
  have H := Lib.hid h; have H' := Lib.hid k
  clear h k
  cases hs : argsOk a b tol
  · have HS := Lib.hid hs
    have R := Lib.hid (countB_no hs)
    clear hs
    go_enter Try.func19, Try.ntmps19
    go_wp2_with fail
    refine (argsS_is H.out H'.out HS.out).mono ?_
    rintro e w1 ⟨rfl, b1⟩
    go_wp2_with fail
    go_ret
    exact ⟨by rw [R.out]; rfl, b1⟩
  have HS := Lib.hid hs
  have R : Hid (countB a b tol = cf tol (sizes a) (sizes b) 0 0) := Lib.hid (countB_yes hs)
  obtain ⟨va, vb, vt⟩ := argsOk_iff.1 hs
  have VA := Lib.hid va; have VB := Lib.hid vb
  clear hs va vb vt
  go_enter Try.func19, Try.ntmps19
  go_wp2_with fail
  refine (argsS_is H.out H'.out HS.out).mono ?_
  rintro e w1 ⟨rfl, b1⟩
  have B1 := Lib.hid b1
  clear b1
  go_wp2_with fail
  refine (specCount_rec VA.out VB.out a.length _ _ _ 0 0 (by omega) (Nat.zero_le _) (H.out.grow B1.out) (H'.out.grow B1.out)).mono ?_
  rintro e w2 ⟨rfl, b2⟩
  go_wp2_with fail
  go_ret
  exact ⟨by rw [R.out]; rfl, B1.out.trans (b2.mono B1.out.size)⟩
end Go.Proofs.Ytmibipnkjpkngab
