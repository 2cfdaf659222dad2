/- The contracts of the model's functions on events: the most pairs, the best matching. -/
import Derived.Test.YthhdpjkmjebjhabEventMost
import Derived.Test.YthhdpjkmjebjhabGrw
namespace Go.Proofs.Ythhdpjkmjebjhab
open Go.RowKit

def partI (tol : Int) (s t : List Int) (i f : Nat) : Int := match partner tol (s.getD i 0) (s.drop (i + 1)) (most tol (s.drop i) (t.drop f)) (t.drop f) with
  | some k => ((f + k : Nat) : Int)
  | none => -1
/-- What the search has passed: the places from f to j are no partners. -/
def Past (tol x : Int) (s : List Int) (n : Nat) (t : List Int) (f j : Nat) : Prop := partner tol x s n (t.drop f) = (partner tol x s n (t.drop j)).map fun k => k + (j - f)
theorem past_start (tol x : Int) (s : List Int) (n : Nat) (t : List Int) (f : Nat) : Past tol x s n t f f := by
  unfold Past
  cases partner tol x s n (t.drop f) <;> simp
theorem Past.next {tol x : Int} {s t : List Int} {n f j : Nat} (h : Past tol x s n t f j) (hf : f ≤ j) (hj : j < t.length) (hn : ¬ (like tol x t[j] = true ∧ most tol s (t.drop (j + 1)) + 1 = n)) : Past tol x s n t f (j + 1) := by
  unfold Past at h ⊢
  rw [h, List.drop_eq_getElem_cons hj]
  simp only [partner]
  rw [if_neg (by simpa using hn)]
  cases partner tol x s n (t.drop (j + 1)) with
  | none => rfl
  | some k => simp only [Option.map_some, Option.some.injEq]; omega
theorem Past.found {tol : Int} {s t : List Int} {i f j : Nat} (h : Past tol (s.getD i 0) (s.drop (i + 1)) (most tol (s.drop i) (t.drop f)) t f j) (hf : f ≤ j) (hj : j < t.length) (h1 : like tol (s.getD i 0) t[j] = true) (h2 : most tol (s.drop (i + 1)) (t.drop (j + 1)) + 1 = most tol (s.drop i) (t.drop f)) : partI tol s t i f = (j : Int) := by
  unfold Past at h
  unfold partI
  rw [h, List.drop_eq_getElem_cons hj]
  simp only [partner]
  rw [if_pos (by rw [h1, decide_eq_true h2]; rfl)]
  simp only [Option.map_some]; omega
theorem Past.all {tol : Int} {s t : List Int} {i f : Nat} (h : Past tol (s.getD i 0) (s.drop (i + 1)) (most tol (s.drop i) (t.drop f)) t f t.length) : partI tol s t i f = -1 := by
  unfold Past at h
  rw [List.drop_length] at h
  unfold partI
  rw [h]; rfl
set_option maxRecDepth 100000 in
set_option maxHeartbeats 6400000 in
theorem specPartner_any {w : World} {v u y : Value} {a b : List Ev} {tol : Int} {B : Nat} {gs : List Nat} {i f : Nat} (h : Row w v a) (k : Row w u b) (ha : isEv a = true) (hb : isEv b = true)
    (hg : Grid w B y (b.length + 1) gs (mf tol (sizes a) (sizes b))) (hl : gs.length = a.length + 1) (hi : i < a.length) (hf : f ≤ b.length) :
    Calls Try.prog 84 #[v, u, .int .i64 tol, y, .int .i64 i, .int .i64 f] w fun e w' => Val w (.int .i64 (partI tol (sizes a) (sizes b) i f)) e w' := by
  have n8 := (isEv_iff.1 ha).1
  have m8 := (isEv_iff.1 hb).1
  obtain ⟨ga, oa, ca, rfl, ha1, ha2⟩ := h.known (by omega)
  obtain ⟨pb, cb, rfl, hb1, hb2, hlb⟩ := k.parts
  obtain ⟨gv, cv, rfl, hv1, hv2, _, _, atg, _⟩ := hg.at (by omega)
  have g0 : i < gs.length := by omega
  have g1 : i + 1 < gs.length := by omega
  obtain ⟨d1, d2⟩ := h.cells i hi
  have r0 := atg i g0
  have r1 := atg (i + 1) g1
  have c0 := hg.cell i g0 f (by omega)
  obtain ⟨gp, hgp⟩ : ∃ g, gs[i] = g := ⟨_, rfl⟩
  obtain ⟨gq, hgq⟩ : ∃ g, gs[i + 1] = g := ⟨_, rfl⟩
  rw [hgp] at r0 c0
  rw [hgq] at r1
  have GQ := Lib.hid hgq
  have G := Lib.hid hg; have LB := Lib.hid hlb
  have VA := Lib.hid ha; have VB := Lib.hid hb
  have sa := ev_sizes ha hi
  have SX : Hid ((sizes a).getD i 0 = a[i].2) := Lib.hid (sizes_getD hi)
  obtain ⟨x0, hx0⟩ : ∃ x, mf tol (sizes a) (sizes b) i f = x := ⟨_, rfl⟩
  have X0 := Lib.hid hx0
  rw [hx0] at c0
  obtain ⟨i2, hi2⟩ : ∃ x, i + 1 = x := ⟨_, rfl⟩
  have I2 := Lib.hid hi2
  rw [hi2] at r1
  obtain ⟨m, hm⟩ : ∃ m, b.length = m := ⟨_, rfl⟩
  have HM := Lib.hid hm
  rw [hm] at m8 hf hb1 r0 r1 ⊢
  obtain ⟨n1, hn1⟩ : ∃ n, gs.length = n := ⟨_, rfl⟩
  rw [hn1] at hv1 ⊢
  have w1 : IntKind.i64.wrap ((i : Int) + 1) = (i2 : Int) := by rw [show (i : Int) + 1 = (i2 : Int) by omega]; exact IntWalk.i64_in _ (by omega)
  have j0 : (0 : Int) ≤ (i : Int) := by omega
  have j1 : (i : Int) < (n1 : Int) := by omega
  have j2 : (0 : Int) ≤ (i2 : Int) := by omega
  have j3 : (i2 : Int) < (n1 : Int) := by omega
  have j4 : (i : Int) < (a.length : Int) := by omega
  have j5 : (0 : Int) ≤ (f : Int) := by omega
  have j6 : (f : Int) < (m : Int) + 1 := by omega
  have hR : Hid (i < a.length ∧ gs.length = n1 ∧ n1 = a.length + 1) := Lib.hid ⟨hi, hn1, by omega⟩
  unfold maxLen at ha2 hb2 hv2
  clear h k ha hb hg hlb atg hgp hgq hx0 hi2 hm hl hn1
  go_enter Try.func84, Try.ntmps84
  go_wp2_with fail
  go_loopg [13] (m - f) (fun k x wr => ∃ j : Nat, x = .int .i64 j ∧ f ≤ j ∧ j + k = m ∧ Past tol ((sizes a).getD i 0) ((sizes a).drop (i + 1)) (most tol ((sizes a).drop i) ((sizes b).drop f)) (sizes b) f j ∧ Below w.heap.size w wr)
  case atStart => exact ⟨f, rfl, Nat.le_refl _, by omega, past_start _ _ _ _ _ _, Below.refl _ _⟩
  case round =>
    obtain ⟨j, rfl, hfj, hk, hp, hbl⟩ := hrel
    have K := Lib.hid hk; have P := Lib.hid hp; have B := Lib.hid hbl
    have hjm : j ≤ m := by omega
    clear hk hp hbl
    by_cases hlt : j < m
    · have hjb : j < b.length := by have := HM.out; omega
      obtain ⟨gb, ob, rfl, c3, c4⟩ := lies_cell LB.out j hjb
      have e1 := (B.out.cell (cell_below d1)).trans d1
      have e2 := (B.out.cell (cell_below d2)).trans d2
      have e3 := (B.out.cell (cell_below c3)).trans c3
      have e4 := (B.out.cell (cell_below c4)).trans c4
      have e5 := (B.out.cell (cell_below r0)).trans r0
      have e6 := (B.out.cell (cell_below r1)).trans r1
      have e7 := (B.out.cell (cell_below c0)).trans c0
      have c5 := G.out.cell (i + 1) (by have := hR.out; omega) (j + 1) (by have := HM.out; omega)
      rw [GQ.out] at c5
      have e8 := (B.out.cell (cell_below c5)).trans c5
      have y1 := mf_nonneg tol (sizes a) (sizes b) (i + 1) (j + 1)
      have y2 := mf_le tol (sizes a) (sizes b) (i + 1) (j + 1)
      rw [sizes_length] at y2
      obtain ⟨x5, hx5⟩ : ∃ x, mf tol (sizes a) (sizes b) (i + 1) (j + 1) = x := ⟨_, rfl⟩
      rw [hx5] at e8 y1 y2
      have X5 := Lib.hid hx5
      obtain ⟨q2, hq2⟩ : ∃ x, j + 1 = x := ⟨_, rfl⟩
      rw [hq2] at e8
      have Q2 := Lib.hid hq2
      have sb := ev_sizes VB.out hjb
      have SY : Hid ((sizes b)[j]'(by rw [sizes_length]; exact hjb) = b[j].2) := Lib.hid (sizes_get _)
      have w2 : IntKind.i64.wrap ((j : Int) + 1) = (q2 : Int) := by rw [show (j : Int) + 1 = (q2 : Int) by omega]; exact IntWalk.i64_in _ (by omega)
      have w3 : IntKind.i64.wrap (x5 + 1) = x5 + 1 := IntWalk.i64_in _ (by omega)
      have i0 : (0 : Int) ≤ (j : Int) := by omega
      have i1 : (j : Int) < (m : Int) := by omega
      have i3 : (0 : Int) ≤ (q2 : Int) := by omega
      have i4 : (q2 : Int) < (m : Int) + 1 := by omega
      have hjs : j < (sizes b).length := by rw [sizes_length]; exact hjb
      have HJ := Lib.hid hjs
      clear c3 c4 c5 hx5 hq2 hjs
      cases hy : like tol a[i].2 b[j].2
      · have HY := Lib.hid hy
        have P2 : Hid (Past tol ((sizes a).getD i 0) ((sizes a).drop (i + 1)) (most tol ((sizes a).drop i) ((sizes b).drop f)) (sizes b) f (j + 1)) := Lib.hid (P.out.next hfj HJ.out fun h => by
          rw [SX.out, SY.out, HY.out] at h; cases h.1)
        clear hy
        have held : ∀ W w' : World, Below W.heap.size W w' → ((W.cell? ⟨ga, oa + i * 2, none⟩ = some (.int .i64 a[i].1) ∧ W.cell? ⟨ga, oa + i * 2 + 1, none⟩ = some (.int .i64 a[i].2) ∧ W.cell? ⟨gb, ob + j * 2, none⟩ = some (.int .i64 b[j].1) ∧ W.cell? ⟨gb, ob + j * 2 + 1, none⟩ = some (.int .i64 b[j].2)) ∧ Below wr.heap.size wr W) →
            ((w'.cell? ⟨ga, oa + i * 2, none⟩ = some (.int .i64 a[i].1) ∧ w'.cell? ⟨ga, oa + i * 2 + 1, none⟩ = some (.int .i64 a[i].2) ∧ w'.cell? ⟨gb, ob + j * 2, none⟩ = some (.int .i64 b[j].1) ∧ w'.cell? ⟨gb, ob + j * 2 + 1, none⟩ = some (.int .i64 b[j].2)) ∧ Below wr.heap.size wr w') :=
          fun W w' k h => ⟨⟨(k.cell (cell_below h.1.1)).trans h.1.1, (k.cell (cell_below h.1.2.1)).trans h.1.2.1, (k.cell (cell_below h.1.2.2.1)).trans h.1.2.2.1, (k.cell (cell_below h.1.2.2.2)).trans h.1.2.2.2⟩, h.2.trans (k.mono h.2.size)⟩
        have keep0 := held _ _ (Below.refl wr.heap.size wr).drew ⟨⟨e1, e2, e3, e4⟩, Below.refl _ _⟩
        have HD := Lib.hid held
        clear held e5 e6 e7 e8
        go_wp2_with fail
        refine wp_region_held_drew (S := (fun w' => (w'.cell? ⟨ga, oa + i * 2, none⟩ = some (.int .i64 a[i].1) ∧ w'.cell? ⟨ga, oa + i * 2 + 1, none⟩ = some (.int .i64 a[i].2) ∧ w'.cell? ⟨gb, ob + j * 2, none⟩ = some (.int .i64 b[j].1) ∧ w'.cell? ⟨gb, ob + j * 2 + 1, none⟩ = some (.int .i64 b[j].2)) ∧ Below wr.heap.size wr w')) (by kernel_rfl) (by exact keep0) (fun hHeld => ?_)
        refine take_h 0 21 rfl rfl (by kernel_rfl) (by kernel_rfl) (by kernel_rfl) (fun _ _ _ h => h) (by kernel_rfl) (by intro w hSw; (try dsimp only at hSw); go_simp; try with_reducible rfl) (by assumption) ?_
        refine take_h 1 22 rfl rfl (by kernel_rfl) (by kernel_rfl) (by kernel_rfl) (fun _ _ _ h => h) (by kernel_rfl) (by intro w hSw; (try dsimp only at hSw); go_simp; try with_reducible rfl) (by assumption) ?_
        refine take_h 2 23 rfl rfl (by kernel_rfl) (by kernel_rfl) (by kernel_rfl) (fun _ _ _ h => h) (by kernel_rfl) (by intro w hSw; (try dsimp only at hSw); go_simp; try with_reducible rfl) (by assumption) ?_
        refine take_h 3 24 rfl rfl (by kernel_rfl) (by kernel_rfl) (by kernel_rfl) (fun _ _ _ h => h) (by kernel_rfl) (by intro w hSw; (try dsimp only at hSw); go_simp; try with_reducible rfl) (by assumption) ?_
        refine take_h 4 25 rfl rfl (by kernel_rfl) (by kernel_rfl) (by kernel_rfl) (fun _ _ _ h => h) (by kernel_rfl) (by intro w hSw; (try dsimp only at hSw); go_simp; try with_reducible rfl) (by assumption) ?_
        refine take_h 5 26 rfl rfl (by kernel_rfl) (by kernel_rfl) (by kernel_rfl) (fun _ _ _ h => h) (by kernel_rfl) (by intro w hSw; (try dsimp only at hSw); go_simp; try with_reducible rfl) (by assumption) ?_
        refine take_h 6 27 rfl rfl (by kernel_rfl) (by kernel_rfl) (by kernel_rfl) (fun _ _ _ h => h) (by kernel_rfl) (by intro w hSw; (try dsimp only at hSw); go_simp; try with_reducible rfl) (by assumption) ?_
        refine take_h 7 28 rfl rfl (by kernel_rfl) (by kernel_rfl) (by kernel_rfl) (fun _ _ _ h => h) (by kernel_rfl) (by intro w hSw; (try dsimp only at hSw); go_simp; try with_reducible rfl) (by assumption) ?_
        refine take_h 8 29 rfl rfl (by kernel_rfl) (by kernel_rfl) (by kernel_rfl) (fun _ _ _ h => h) (by kernel_rfl) (by intro w hSw; (try dsimp only at hSw); go_simp; try with_reducible rfl) (by assumption) ?_
        refine wpAnyH_ready (rs := [9]) (by kernel_rfl) (by simp) (AllReadyH.cons rfl (fun K hK => ?_) AllReadyH.nil)
        go_simp
        go_wp2_with (go_at_call 73; refine (likeS_is (p := a[i]) (q := b[j]) sa sb HY.out _).mono ?_; rintro e w1 ⟨rfl, b1⟩; have hs1 := HD.out _ _ b1 hHeld)
        refine hK.out _ _ (by (try dsimp only); exact hs1) (fun hHeld => ?_)
        clear hK K
        refine take_h 10 31 rfl rfl (by kernel_rfl) (by kernel_rfl) (by kernel_rfl) (fun _ _ _ h => h) (by kernel_rfl) (by intro w hSw; (try dsimp only at hSw); go_simp; try with_reducible rfl) (by assumption) ?_
        refine skip_h 11 32 rfl rfl (by kernel_rfl) (by kernel_rfl) (by kernel_rfl) (fun _ _ _ h => h) (by kernel_rfl) (by assumption) ?_
        refine skip_h 12 33 rfl rfl (by kernel_rfl) (by kernel_rfl) (by kernel_rfl) (fun _ _ _ h => h) (by kernel_rfl) (by assumption) ?_
        refine skip_h 13 34 rfl rfl (by kernel_rfl) (by kernel_rfl) (by kernel_rfl) (fun _ _ _ h => h) (by kernel_rfl) (by assumption) ?_
        refine skip_h 14 35 rfl rfl (by kernel_rfl) (by kernel_rfl) (by kernel_rfl) (fun _ _ _ h => h) (by kernel_rfl) (by assumption) ?_
        refine skip_h 15 36 rfl rfl (by kernel_rfl) (by kernel_rfl) (by kernel_rfl) (fun _ _ _ h => h) (by kernel_rfl) (by assumption) ?_
        refine skip_h 16 37 rfl rfl (by kernel_rfl) (by kernel_rfl) (by kernel_rfl) (fun _ _ _ h => h) (by kernel_rfl) (by assumption) ?_
        refine skip_h 17 38 rfl rfl (by kernel_rfl) (by kernel_rfl) (by kernel_rfl) (fun _ _ _ h => h) (by kernel_rfl) (by assumption) ?_
        refine skip_h 18 39 rfl rfl (by kernel_rfl) (by kernel_rfl) (by kernel_rfl) (fun _ _ _ h => h) (by kernel_rfl) (by assumption) ?_
        refine skip_h 19 40 rfl rfl (by kernel_rfl) (by kernel_rfl) (by kernel_rfl) (fun _ _ _ h => h) (by kernel_rfl) (by assumption) ?_
        refine skip_h 20 41 rfl rfl (by kernel_rfl) (by kernel_rfl) (by kernel_rfl) (fun _ _ _ h => h) (by kernel_rfl) (by assumption) ?_
        refine skip_h 21 42 rfl rfl (by kernel_rfl) (by kernel_rfl) (by kernel_rfl) (fun _ _ _ h => h) (by kernel_rfl) (by assumption) ?_
        refine skip_h 22 43 rfl rfl (by kernel_rfl) (by kernel_rfl) (by kernel_rfl) (fun _ _ _ h => h) (by kernel_rfl) (by assumption) ?_
        refine skip_h 23 44 rfl rfl (by kernel_rfl) (by kernel_rfl) (by kernel_rfl) (fun _ _ _ h => h) (by kernel_rfl) (by assumption) ?_
        refine skip_h 24 45 rfl rfl (by kernel_rfl) (by kernel_rfl) (by kernel_rfl) (fun _ _ _ h => h) (by kernel_rfl) (by assumption) ?_
        refine skip_h 25 46 rfl rfl (by kernel_rfl) (by kernel_rfl) (by kernel_rfl) (fun _ _ _ h => h) (by kernel_rfl) (by assumption) ?_
        refine skip_h 26 47 rfl rfl (by kernel_rfl) (by kernel_rfl) (by kernel_rfl) (fun _ _ _ h => h) (by kernel_rfl) (by assumption) ?_
        refine skip_h 27 48 rfl rfl (by kernel_rfl) (by kernel_rfl) (by kernel_rfl) (fun _ _ _ h => h) (by kernel_rfl) (by assumption) ?_
        refine skip_h 28 49 rfl rfl (by kernel_rfl) (by kernel_rfl) (by kernel_rfl) (fun _ _ _ h => h) (by kernel_rfl) (by assumption) ?_
        refine take_h 29 50 rfl rfl (by kernel_rfl) (by kernel_rfl) (by kernel_rfl) (fun _ _ _ h => h) (by kernel_rfl) (by intro w hSw; (try dsimp only at hSw); go_simp; try with_reducible rfl) (by assumption) ?_
        refine wpAnyH_done (by kernel_rfl) ?_ _
        simp only [Exit.then]
        simp only [Act.put, List.setIfInBounds_toArray, List.set_cons_succ, List.set_cons_zero]
        have B5 := Lib.hid (B.out.trans (hs1.2.mono B.out.size))
        go_wp2_with fail
        go_roundg (gk - 1)
        case measure => have := K.out; omega
        case rel =>
          have e9 : IntKind.i64.wrap ((j : Int) + 1) = ((j + 1 : Nat) : Int) := by rw [show (j : Int) + 1 = ((j + 1 : Nat) : Int) by omega]; exact IntWalk.i64_in _ (by omega)
          exact ⟨j + 1, by rw [← e9, w2], Nat.le_succ_of_le hfj, by have := K.out; omega, P2.out, B5.out⟩
      · have HY := Lib.hid hy
        clear hy
        have held : ∀ W w' : World, Below W.heap.size W w' → ((W.cell? ⟨ga, oa + i * 2, none⟩ = some (.int .i64 a[i].1) ∧ W.cell? ⟨ga, oa + i * 2 + 1, none⟩ = some (.int .i64 a[i].2) ∧ W.cell? ⟨gb, ob + j * 2, none⟩ = some (.int .i64 b[j].1) ∧ W.cell? ⟨gb, ob + j * 2 + 1, none⟩ = some (.int .i64 b[j].2) ∧ W.cell? ⟨gv, i, none⟩ = some (rowV (m + 1) gp) ∧ W.cell? ⟨gv, i2, none⟩ = some (rowV (m + 1) gq) ∧ W.cell? ⟨gp, f, none⟩ = some (.int .i64 x0) ∧ W.cell? ⟨gq, q2, none⟩ = some (.int .i64 x5)) ∧ Below wr.heap.size wr W) →
            ((w'.cell? ⟨ga, oa + i * 2, none⟩ = some (.int .i64 a[i].1) ∧ w'.cell? ⟨ga, oa + i * 2 + 1, none⟩ = some (.int .i64 a[i].2) ∧ w'.cell? ⟨gb, ob + j * 2, none⟩ = some (.int .i64 b[j].1) ∧ w'.cell? ⟨gb, ob + j * 2 + 1, none⟩ = some (.int .i64 b[j].2) ∧ w'.cell? ⟨gv, i, none⟩ = some (rowV (m + 1) gp) ∧ w'.cell? ⟨gv, i2, none⟩ = some (rowV (m + 1) gq) ∧ w'.cell? ⟨gp, f, none⟩ = some (.int .i64 x0) ∧ w'.cell? ⟨gq, q2, none⟩ = some (.int .i64 x5)) ∧ Below wr.heap.size wr w') :=
          fun W w' k h => ⟨⟨(k.cell (cell_below h.1.1)).trans h.1.1, (k.cell (cell_below h.1.2.1)).trans h.1.2.1, (k.cell (cell_below h.1.2.2.1)).trans h.1.2.2.1, (k.cell (cell_below h.1.2.2.2.1)).trans h.1.2.2.2.1, (k.cell (cell_below h.1.2.2.2.2.1)).trans h.1.2.2.2.2.1, (k.cell (cell_below h.1.2.2.2.2.2.1)).trans h.1.2.2.2.2.2.1, (k.cell (cell_below h.1.2.2.2.2.2.2.1)).trans h.1.2.2.2.2.2.2.1, (k.cell (cell_below h.1.2.2.2.2.2.2.2)).trans h.1.2.2.2.2.2.2.2⟩, h.2.trans (k.mono h.2.size)⟩
        have keep0 := held _ _ (Below.refl wr.heap.size wr).drew ⟨⟨e1, e2, e3, e4, e5, e6, e7, e8⟩, Below.refl _ _⟩
        have HD := Lib.hid held
        clear held
        by_cases hq : x5 + 1 = x0
        · have R : Hid (partI tol (sizes a) (sizes b) i f = (j : Int)) := Lib.hid (P.out.found hfj HJ.out (by rw [SX.out, SY.out]; exact HY.out) (by
            have h1 := X5.out; have h2 := X0.out
            unfold mf at h1 h2; omega))
          have w4 : IntKind.i64.wrap x0 = x0 := by rw [← hq]; exact w3
          go_wp2_with fail
          go_region_held3 (fun w' => (w'.cell? ⟨ga, oa + i * 2, none⟩ = some (.int .i64 a[i].1) ∧ w'.cell? ⟨ga, oa + i * 2 + 1, none⟩ = some (.int .i64 a[i].2) ∧ w'.cell? ⟨gb, ob + j * 2, none⟩ = some (.int .i64 b[j].1) ∧ w'.cell? ⟨gb, ob + j * 2 + 1, none⟩ = some (.int .i64 b[j].2) ∧ w'.cell? ⟨gv, i, none⟩ = some (rowV (m + 1) gp) ∧ w'.cell? ⟨gv, i2, none⟩ = some (rowV (m + 1) gq) ∧ w'.cell? ⟨gp, f, none⟩ = some (.int .i64 x0) ∧ w'.cell? ⟨gq, q2, none⟩ = some (.int .i64 x5)) ∧ Below wr.heap.size wr w')
            (first | (with_reducible exact keep0) | (with_reducible exact hs1) | assumption)
            (first | (go_at_call 73; refine (likeS_is (p := a[i]) (q := b[j]) sa sb HY.out _).mono ?_; rintro e w1 ⟨rfl, b1⟩; have hs1 := HD.out _ _ b1 (by assumption)))
          all_goals
            have B5 := Lib.hid (B.out.trans (hs1.2.mono B.out.size))
            go_wp2_with fail
            go_ret
            exact ⟨by rw [R.out]; rfl, B5.out⟩
        · have P2 : Hid (Past tol ((sizes a).getD i 0) ((sizes a).drop (i + 1)) (most tol ((sizes a).drop i) ((sizes b).drop f)) (sizes b) f (j + 1)) := Lib.hid (P.out.next hfj HJ.out fun h => hq (by
            have h1 := X5.out; have h2 := X0.out; have h3 := h.2
            unfold mf at h1 h2; omega))
          have e9 : Hid ((q2 : Int) = ((j + 1 : Nat) : Int)) := Lib.hid (by have := Q2.out; omega)
          go_wp2_with fail
          go_region_held3 (fun w' => (w'.cell? ⟨ga, oa + i * 2, none⟩ = some (.int .i64 a[i].1) ∧ w'.cell? ⟨ga, oa + i * 2 + 1, none⟩ = some (.int .i64 a[i].2) ∧ w'.cell? ⟨gb, ob + j * 2, none⟩ = some (.int .i64 b[j].1) ∧ w'.cell? ⟨gb, ob + j * 2 + 1, none⟩ = some (.int .i64 b[j].2) ∧ w'.cell? ⟨gv, i, none⟩ = some (rowV (m + 1) gp) ∧ w'.cell? ⟨gv, i2, none⟩ = some (rowV (m + 1) gq) ∧ w'.cell? ⟨gp, f, none⟩ = some (.int .i64 x0) ∧ w'.cell? ⟨gq, q2, none⟩ = some (.int .i64 x5)) ∧ Below wr.heap.size wr w')
            (first | (with_reducible exact keep0) | (with_reducible exact hs1) | assumption)
            (first | (go_at_call 73; refine (likeS_is (p := a[i]) (q := b[j]) sa sb HY.out _).mono ?_; rintro e w1 ⟨rfl, b1⟩; have hs1 := HD.out _ _ b1 (by assumption)))
          all_goals
            have B5 := Lib.hid (B.out.trans (hs1.2.mono B.out.size))
            go_wp2_with fail
            go_roundg (gk - 1)
            case measure => have := K.out; omega
            case rel => exact ⟨j + 1, by rw [e9.out], Nat.le_succ_of_le hfj, by have := K.out; omega, P2.out, B5.out⟩
    · have hj : j = m := by omega
      have R : Hid (partI tol (sizes a) (sizes b) i f = -1) := Lib.hid (by
        have := P.out
        rw [hj, ← HM.out, ← sizes_length b] at this
        exact this.all)
      go_wp2_with fail
      go_ret
      exact ⟨by rw [R.out]; rfl, B.out⟩
theorem partS_is {w : World} {v u y : Value} {a b : List Ev} {tol : Int} {B : Nat} {gs : List Nat} {i f : Nat} {c : Int} (h : Row w v a) (k : Row w u b) (ha : isEv a = true) (hb : isEv b = true)
    (hg : Grid w B y (b.length + 1) gs (mf tol (sizes a) (sizes b))) (hl : gs.length = a.length + 1) (hi : i < a.length) (hf : f ≤ b.length) (hc : partI tol (sizes a) (sizes b) i f = c) :
    Calls Try.prog 84 #[v, u, .int .i64 tol, y, .int .i64 i, .int .i64 f] w fun e w' => Val w (.int .i64 c) e w' := by
  have := specPartner_any h k ha hb hg hl hi hf
  rwa [hc] at this
theorem best_step {tol : Int} {s t : List Int} {j f : Nat} (hj : j < s.length) :
    (partI tol s t j f = -1 ∧ bestM tol (s.drop j) (t.drop f) f = -1 :: bestM tol (s.drop (j + 1)) (t.drop f) f) ∨
    ∃ k : Nat, partI tol s t j f = (k : Int) ∧ f ≤ k ∧ k < t.length ∧ bestM tol (s.drop j) (t.drop f) f = (k : Int) :: bestM tol (s.drop (j + 1)) (t.drop (k + 1)) (k + 1) := by
  have hd : s.getD j 0 = s[j] := by rw [List.getD_eq_getElem?_getD, List.getElem?_eq_getElem hj]; rfl
  unfold partI
  rw [hd]
  have e := List.drop_eq_getElem_cons hj
  rw [e]
  simp only [bestM]
  cases hp : partner tol s[j] (s.drop (j + 1)) (most tol (s[j] :: s.drop (j + 1)) (t.drop f)) (t.drop f) with
  | none => left; exact ⟨rfl, rfl⟩
  | some k =>
    right
    have := (partner_some hp).1
    rw [List.length_drop] at this
    exact ⟨f + k, rfl, by omega, by omega, by simp only [List.drop_drop]; rfl⟩
/-- A list of the call's own, and whether there is one. -/
def BestE (w : World) (o : Option (List Int)) (e : Ending) (w' : World) : Prop :=
  ∃ v, e = .returned (.tuple #[v, .bool o.isSome]) ∧ IOwn w' w.heap.size v (o.getD []) ∧ Below w.heap.size w w'
set_option maxRecDepth 100000 in
set_option maxHeartbeats 3200000 in
theorem specBest_any {w : World} {v u : Value} {a b : List Ev} (tol : Int) (h : Row w v a) (k : Row w u b) :
    Calls Try.prog 68 #[v, u, .int .i64 tol] w fun e w' => BestE w (bestEB a b tol) e w' := by
  have H := Lib.hid h; have H' := Lib.hid k
  obtain ⟨pa, ca, rfl, ha1, ha2⟩ := h.len
  unfold maxLen at ha2
  clear h k
  have O0 : Hid (IOwn (w.alloc (.cells #[] 3)) w.heap.size (.slice (some ⟨w.heap.size, 0, none⟩) 0 0) []) := Lib.hid (iown_new (Nat.le_refl _))
  have B0 := Lib.hid ((Below.refl w.heap.size w).alloc (Nat.le_refl _) (.cells #[] 3))
  cases hs : argsOk a b tol
  · have HS := Lib.hid hs
    have R := Lib.hid (bestEB_no hs)
    clear hs
    go_enter Try.func68, Try.ntmps68
    go_wp2_with fail
    refine (argsS_is (H.out.grow ((Below.refl _ _).alloc (Nat.le_refl _) _)) (H'.out.grow ((Below.refl _ _).alloc (Nat.le_refl _) _)) HS.out).mono ?_
    rintro e w1 ⟨rfl, b1⟩
    have O1 := Lib.hid (O0.out.grow b1)
    have B1 := Lib.hid (B0.out.trans (b1.mono B0.out.size))
    clear b1
    go_wp2_with fail
    go_returns
    exact ⟨_, by rw [R.out]; rfl, by rw [R.out]; exact O1.out, B1.out⟩
  have HS := Lib.hid hs
  have R := Lib.hid (bestEB_yes hs)
  obtain ⟨va, vb, vt⟩ := argsOk_iff.1 hs
  have VA := Lib.hid va; have VB := Lib.hid vb
  have n8 := (isEv_iff.1 va).1
  have m8 := (isEv_iff.1 vb).1
  clear hs va vb vt
  go_enter Try.func68, Try.ntmps68
  go_wp2_with fail
  refine (argsS_is (H.out.grow ((Below.refl _ _).alloc (Nat.le_refl _) _)) (H'.out.grow ((Below.refl _ _).alloc (Nat.le_refl _) _)) HS.out).mono ?_
  rintro e w1 ⟨rfl, b1⟩
  have O1 := Lib.hid (O0.out.grow b1)
  have B1 := Lib.hid (B0.out.trans (b1.mono B0.out.size))
  clear b1
  go_wp2_with fail
  refine (specTable_any (H.out.grow B1.out) (H'.out.grow B1.out) VA.out VB.out).mono ?_
  rintro e w2 ⟨y, gs, rfl, hg, hl, b2⟩
  have O2 := Lib.hid (O1.out.grow b2)
  have B2 := Lib.hid (B1.out.trans (b2.mono B1.out.size))
  have G := Lib.hid hg; have GL := Lib.hid hl
  clear b2 hg hl O0 B0 O1
  go_wp2_with fail
  go_loopg [8, 10, 11] a.length (fun k x z q wr => ∃ (j f : Nat) (L : List Int), z = .int .i64 f ∧ q = .int .i64 j ∧ j + k = a.length ∧ f ≤ b.length ∧ L.length = j ∧ bestM tol (sizes a) (sizes b) 0 = L ++ bestM tol ((sizes a).drop j) ((sizes b).drop f) f ∧ IOwn wr w.heap.size x L ∧ Grw wr w2.heap.size x L ∧ Below w2.heap.size w2 wr)
  case atStart => exact ⟨0, 0, [], rfl, rfl, by omega, Nat.zero_le _, rfl, rfl, O2.out, .inl ⟨rfl, _, rfl⟩, Below.refl _ _⟩
  case round =>
    obtain ⟨j, f, L, rfl, rfl, hk, hf, hL, hb, ho, hgr, hbl⟩ := hrel
    have K := Lib.hid hk; have F := Lib.hid hf; have LL := Lib.hid hL; have BB := Lib.hid hb; have O := Lib.hid ho; have GR := Lib.hid hgr
    have B3 := Lib.hid (B2.out.trans (hbl.mono B2.out.size))
    have BL := Lib.hid hbl
    have hjl : j ≤ a.length := by omega
    have hf8 : f ≤ 8 := by omega
    clear hk hf hL hb ho hgr hbl
    by_cases hlt : j < a.length
    · have i0 : (0 : Int) ≤ (j : Int) := by omega
      have i1 : (j : Int) < (a.length : Int) := by omega
      rcases best_step (tol := tol) (s := sizes a) (t := sizes b) (j := j) (f := f) (by rw [sizes_length]; exact hlt) with ⟨p1, p2⟩ | ⟨q, p1, p2, p3, p4⟩
      · have PI := Lib.hid p1
        have P2 : Hid (bestM tol (sizes a) (sizes b) 0 = (L ++ [-1]) ++ bestM tol ((sizes a).drop (j + 1)) ((sizes b).drop f) f) := Lib.hid (by rw [BB.out, p2, List.append_assoc]; rfl)
        clear p1 p2
        go_wp2_with fail
        refine (partS_is (H.out.grow B3.out) (H'.out.grow B3.out) VA.out VB.out (G.out.grow BL.out) GL.out hlt F.out PI.out).mono ?_
        rintro e w4 ⟨rfl, b4⟩
        have G4 := Lib.hid ((GR.out.grow b4).grow ((Below.refl w4.heap.size w4).alloc (Nat.le_refl _) (.cells #[.int .i64 (-1)] 3)))
        have B4 := Lib.hid ((BL.out.trans (b4.mono BL.out.size)).alloc (Nat.le_trans BL.out.size b4.size) (.cells #[.int .i64 (-1)] 3))
        have N4 := Lib.hid (new_one w4 (.int .i64 (-1)) 3)
        have hs5 : w2.heap.size ≤ w4.heap.size := Nat.le_trans BL.out.size b4.size
        have hs6 := B2.out.size
        clear b4
        go_wp2_with (at_builtin; refine grw_append intT rfl _ _ rfl (B := w2.heap.size) _ L rfl G4.out ⟨w4.heap.size, 0, none⟩ (-1) rfl N4.out (by have := LL.out; omega) (by simp; omega) ?_; intro v8 w8 hown8 hg8)
        have O8 := Lib.hid hown8
        have B8 := Lib.hid (B4.out.trans hg8)
        clear hown8 hg8
        go_wp2_with fail
        go_roundg (gk - 1)
        case measure => have := K.out; omega
        case rel => exact ⟨j + 1, f, L ++ [-1], rfl, by go_num, by have := K.out; omega, F.out, by rw [List.length_append, LL.out]; rfl, P2.out, O8.out.mono hs6, .inr O8.out, B8.out⟩
      · have hq8 : (q : Int) < (b.length : Int) := by rw [sizes_length] at p3; omega
        have PI := Lib.hid p1
        have P2 : Hid (bestM tol (sizes a) (sizes b) 0 = (L ++ [(q : Int)]) ++ bestM tol ((sizes a).drop (j + 1)) ((sizes b).drop (q + 1)) (q + 1)) := Lib.hid (by rw [BB.out, p4, List.append_assoc]; rfl)
        have hq0 : (0 : Int) ≤ (q : Int) := by omega
        have hw : IntKind.i64.wrap ((q : Int) + 1) = ((q + 1 : Nat) : Int) := by rw [show (q : Int) + 1 = ((q + 1 : Nat) : Int) by omega]; exact IntWalk.i64_in _ (by omega)
        clear p1 p2 p3 p4
        go_wp2_with fail
        refine (partS_is (H.out.grow B3.out) (H'.out.grow B3.out) VA.out VB.out (G.out.grow BL.out) GL.out hlt F.out PI.out).mono ?_
        rintro e w4 ⟨rfl, b4⟩
        have G4 := Lib.hid ((GR.out.grow b4).grow ((Below.refl w4.heap.size w4).alloc (Nat.le_refl _) (.cells #[.int .i64 (q : Int)] 3)))
        have B4 := Lib.hid ((BL.out.trans (b4.mono BL.out.size)).alloc (Nat.le_trans BL.out.size b4.size) (.cells #[.int .i64 (q : Int)] 3))
        have N4 := Lib.hid (new_one w4 (.int .i64 (q : Int)) 3)
        have hs5 : w2.heap.size ≤ w4.heap.size := Nat.le_trans BL.out.size b4.size
        have hs6 := B2.out.size
        clear b4
        go_wp2_with (at_builtin; refine grw_append intT rfl _ _ rfl (B := w2.heap.size) _ L rfl G4.out ⟨w4.heap.size, 0, none⟩ (q : Int) rfl N4.out (by have := LL.out; omega) (by simp; omega) ?_; intro v8 w8 hown8 hg8)
        have O8 := Lib.hid hown8
        have B8 := Lib.hid (B4.out.trans hg8)
        clear hown8 hg8
        go_wp2_with fail
        go_roundg (gk - 1)
        case measure => have := K.out; omega
        case rel => exact ⟨j + 1, q + 1, L ++ [(q : Int)], by first | rfl | (rw [hw]), by go_num, by have := K.out; omega, by omega, by rw [List.length_append, LL.out]; rfl, P2.out, O8.out.mono hs6, .inr O8.out, B8.out⟩
    · have hj : j = a.length := by omega
      have E : Hid (bestM tol (sizes a) (sizes b) 0 = L) := Lib.hid (by
        rw [BB.out, List.drop_eq_nil_of_le (by rw [sizes_length]; omega)]
        simp [bestM])
      go_wp2_with fail
      go_returns
      exact ⟨_, by rw [R.out]; rfl, by rw [R.out]; show IOwn _ _ _ (bestM tol (sizes a) (sizes b) 0); rw [E.out]; exact O.out, B3.out⟩
theorem best_small {a b : List Ev} {tol : Int} (ha : isEv a = true) (hb : isEv b = true) : IBd 20 8 (bestM tol (sizes a) (sizes b) 0) := by
  have n8 := (isEv_iff.1 ha).1
  have m8 := (isEv_iff.1 hb).1
  have h := (mok_iff (Int.le_refl 0)).1 (bestM_ok (tol := tol) (t := sizes b) (s := sizes a) (f := 0)).1
  rw [List.drop_zero] at h
  refine ⟨by rw [bestM_length, sizes_length]; exact n8, fun p hp => ?_⟩
  obtain ⟨i, hi, rfl⟩ := List.getElem_of_mem hp
  rcases h.each i hi (by rwa [bestM_length] at hi) with k | ⟨k1, k2, _⟩
  · omega
  · rw [sizes_length] at k2; omega
theorem best_got {a b : List Ev} {tol : Int} : IBd 20 8 ((bestEB a b tol).getD []) ∧ ((bestEB a b tol).isSome = true → ((bestEB a b tol).getD []).length = a.length) := by
  unfold bestEB
  split
  · rename_i h
    obtain ⟨va, vb, _⟩ := argsOk_iff.1 h
    exact ⟨best_small va vb, fun _ => by simp only [Option.getD_some]; rw [bestM_length, sizes_length]⟩
  · exact ⟨⟨by simp, fun p hp => by simp at hp⟩, fun h => by simp at h⟩
end Go.Proofs.Ythhdpjkmjebjhab
