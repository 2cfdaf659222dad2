/- The program's table of a signal's tails, of best cuts; the best cuts. -/
import Derived.Test.YtihgfhddljicaabCutTab
import Derived.Test.YtihgfhddljicaabBox3
import Derived.Test.YtihgfhddljicaabCutSpec3
namespace Go.Proofs.Ytihgfhddljicaab
open Go.RowKit

theorem cutInfo : (Try.prog.info? 54).map (fun i => (i.zero, i.size, i.bytes)) = some (some (.agg #[.bool false, .int .i64 0, .int .i64 0]), 3, 24) := by kernel_rfl
/-- An entry as a value. -/
def aggV (p : V3) : Value := .agg #[.bool p.1, .int .i64 p.2.1, .int .i64 p.2.2]
theorem info3_parts {T : TypeId} (h : (Try.prog.info? T).map (fun i => (i.zero, i.size, i.bytes)) = some (some (.agg #[.bool false, .int .i64 0, .int .i64 0]), 3, 24)) :
    ∃ i, Try.prog.info? T = some i ∧ i.zero = some (.agg #[.bool false, .int .i64 0, .int .i64 0]) ∧ i.size = 3 ∧ i.bytes = 24 := by
  cases hq : Try.prog.info? T with
  | none => simp [hq] at h
  | some i => simp [hq] at h; exact ⟨i, rfl, h.1, h.2.1, h.2.2⟩
theorem cut_size : (Try.prog.info? 54).map (·.size) = some 3 := by
  obtain ⟨i, hi, _, hs, _⟩ := info3_parts cutInfo
  rw [hi]; simp [hs]
theorem ret3 {fn : Func} {t : Tmp} {R : Ending → World → Prop} {a : Act} {w : World} {x y z : Value} (h : fn.results = #[.cell t 54]) (hd : a.defers = []) (g : Nat) (hp : a.tmps.getD t undef = .pointer (some ⟨g, 0, none⟩))
    (hg : CB 54 w g [x, y, z]) (hR : R (.returned (.agg #[x, y, z])) w) : bodyPost Try.prog fn R .ret a w :=
  ⟨hd, _, results_cell_row h a.tmps w g 54 #[x, y, z] (0, 0) _ hp hg Try.underlying54 rfl cut_size, hR⟩
set_option maxHeartbeats 1600000 in
theorem gather_any {w : World} {cb g o n cp q : Nat} {c : List Int} (p : V3) (r : V3) (hc : w.cell? ⟨cb, 0, none⟩ = some (.slice (some ⟨g, o, none⟩) n cp)) (hr : IRow w (.slice (some ⟨g, o, none⟩) n cp) c)
    (hn : c.length = n) (hq : q < n) {y : Int} (hy : c.getD q 0 = y) (hw : IntKind.i64.wrap (y + r.2.2) = y + r.2.2) :
    Calls Try.prog 34 #[.agg #[.bool p.1, .int .i64 p.2.1, .int .i64 p.2.2], .int .i64 q, .agg #[.bool r.1, .int .i64 r.2.1, .int .i64 r.2.2], .pointer (some ⟨cb, 0, none⟩)] w fun e w' => e = .returned (aggV (gathV p q y r)) ∧ Below w.heap.size w w' := by
  have d1 := hr.cells q (by omega)
  rw [← getD_nat (show q < c.length by omega), hy] at d1
  have l0 := cell_below hc
  have l1 := cell_below d1
  simp only at l0 l1
  obtain ⟨p1, p2, p3⟩ := p
  obtain ⟨r1, r2, r3⟩ := r
  simp only at hw ⊢
  have i1 : (0 : Int) ≤ (q : Int) := by omega
  have i2 : (q : Int) < (n : Int) := by omega
  have B0 : Below w.heap.size w (((w.alloc (.cells #[.bool p1, .int .i64 p2, .int .i64 p3] 54)).alloc (.cells #[.bool r1, .int .i64 r2, .int .i64 r3] 54)).alloc (.cells #[.bool false, .int .i64 0, .int .i64 0] 54)) := by go_grown
  have e0 := (B0.cell (p := ⟨cb, 0, none⟩) l0).trans hc
  have e1 := (B0.cell (p := ⟨g, o + q, none⟩) l1).trans d1
  have a0 : (((w.alloc (.cells #[.bool p1, .int .i64 p2, .int .i64 p3] 54)).alloc (.cells #[.bool r1, .int .i64 r2, .int .i64 r3] 54)).alloc (.cells #[.bool false, .int .i64 0, .int .i64 0] 54)).cell? ⟨w.heap.size, 0, none⟩ = some (.bool p1) := by go_cell
  have a1 : (((w.alloc (.cells #[.bool p1, .int .i64 p2, .int .i64 p3] 54)).alloc (.cells #[.bool r1, .int .i64 r2, .int .i64 r3] 54)).alloc (.cells #[.bool false, .int .i64 0, .int .i64 0] 54)).cell? ⟨w.heap.size, 1, none⟩ = some (.int .i64 p2) := by go_cell
  have a2 : (((w.alloc (.cells #[.bool p1, .int .i64 p2, .int .i64 p3] 54)).alloc (.cells #[.bool r1, .int .i64 r2, .int .i64 r3] 54)).alloc (.cells #[.bool false, .int .i64 0, .int .i64 0] 54)).cell? ⟨w.heap.size, 2, none⟩ = some (.int .i64 p3) := by go_cell
  have b0 : (((w.alloc (.cells #[.bool p1, .int .i64 p2, .int .i64 p3] 54)).alloc (.cells #[.bool r1, .int .i64 r2, .int .i64 r3] 54)).alloc (.cells #[.bool false, .int .i64 0, .int .i64 0] 54)).cell? ⟨w.heap.size + 1, 0, none⟩ = some (.bool r1) := by go_cell
  have b2 : (((w.alloc (.cells #[.bool p1, .int .i64 p2, .int .i64 p3] 54)).alloc (.cells #[.bool r1, .int .i64 r2, .int .i64 r3] 54)).alloc (.cells #[.bool false, .int .i64 0, .int .i64 0] 54)).cell? ⟨w.heap.size + 1, 2, none⟩ = some (.int .i64 r3) := by go_cell
  have X : CB 54 (((w.alloc (.cells #[.bool p1, .int .i64 p2, .int .i64 p3] 54)).alloc (.cells #[.bool r1, .int .i64 r2, .int .i64 r3] 54)).alloc (.cells #[.bool false, .int .i64 0, .int .i64 0] 54)) (w.heap.size + 1 + 1) [.bool false, .int .i64 0, .int .i64 0] := by
    have hz : ((w.alloc (.cells #[.bool p1, .int .i64 p2, .int .i64 p3] 54)).alloc (.cells #[.bool r1, .int .i64 r2, .int .i64 r3] 54)).heap.size = w.heap.size + 1 + 1 := by simp
    unfold CB
    rw [← hz]
    exact Array.getElem?_push_size
  obtain ⟨W, hW⟩ : ∃ W, (((w.alloc (.cells #[.bool p1, .int .i64 p2, .int .i64 p3] 54)).alloc (.cells #[.bool r1, .int .i64 r2, .int .i64 r3] 54)).alloc (.cells #[.bool false, .int .i64 0, .int .i64 0] 54)) = W := ⟨_, rfl⟩
  rw [hW] at B0 e0 e1 a0 a1 a2 b0 b2 X
  have x0 : W.cell? ⟨w.heap.size + 1 + 1, 0, none⟩ = some (.bool false) := X.cell 0
  have x1 : W.cell? ⟨w.heap.size + 1 + 1, 1, none⟩ = some (.int .i64 0) := X.cell 1
  have x2 : W.cell? ⟨w.heap.size + 1 + 1, 2, none⟩ = some (.int .i64 0) := X.cell 2
  have f0 := X.froz 0; have f1 := X.froz 1; have f2 := X.froz 2
  have HW := Lib.hid hW; have BB := Lib.hid B0; have HX := Lib.hid X
  clear hr hy hn hc d1 l0 l1 hW B0 X
  by_cases hcase : r1 = false ∨ (p1 = true ∧ p3 ≤ y + r3)
  · have R : Hid (gathV (p1, p2, p3) q y (r1, r2, r3) = (p1, p2, p3)) := Lib.hid (if_pos hcase)
    cases r1
    · clear hcase
      go_enter Try.func34, Try.ntmps34
      go_upto_region 1 with fail
      rw [HW.out]
      go_wp2_with fail
      go_quiet (fail)
      go_wp2_with fail
      refine ret3 rfl rfl (w.heap.size + 1 + 1) rfl (((CB.set (HX.out.grow (below_drews (Below.refl _ _) _) HX.out.lt) 0 _).set 1 _).set 2 _) ?_
      rw [R.out]
      exact ⟨rfl, below3 (below_drews BB.out _) (by omega) _ _ _ _ _ _⟩
    · obtain ⟨rfl, hp⟩ : p1 = true ∧ p3 ≤ y + r3 := by simpa using hcase
      clear hcase
      go_enter Try.func34, Try.ntmps34
      go_upto_region 1 with fail
      rw [HW.out]
      go_wp2_with fail
      go_quiet (fail)
      go_wp2_with fail
      refine ret3 rfl rfl (w.heap.size + 1 + 1) rfl (((CB.set (HX.out.grow (below_drews (Below.refl _ _) _) HX.out.lt) 0 _).set 1 _).set 2 _) ?_
      rw [R.out]
      exact ⟨rfl, below3 (below_drews BB.out _) (by omega) _ _ _ _ _ _⟩
  · have R : Hid (gathV (p1, p2, p3) q y (r1, r2, r3) = (true, (q : Int), y + r3)) := Lib.hid (if_neg hcase)
    obtain ⟨rfl, hp⟩ : r1 = true ∧ (p1 = false ∨ ¬ p3 ≤ y + r3) := by
      cases r1 <;> cases p1 <;> simp_all
    clear hcase
    cases p1
    · clear hp
      go_enter Try.func34, Try.ntmps34
      go_upto_region 1 with fail
      rw [HW.out]
      go_wp2_with fail
      go_quiet (fail)
      go_wp2_with fail
      refine ret3 rfl rfl (w.heap.size + 1 + 1) rfl (((CB.set (HX.out.grow (below_drews (Below.refl _ _) _) HX.out.lt) 0 _).set 1 _).set 2 _) ?_
      rw [R.out]
      exact ⟨rfl, below3 (below_drews BB.out _) (by omega) _ _ _ _ _ _⟩
    · replace hp : ¬ p3 ≤ y + r3 := by simpa using hp
      go_enter Try.func34, Try.ntmps34
      go_upto_region 1 with fail
      rw [HW.out]
      go_wp2_with fail
      go_quiet (fail)
      go_wp2_with fail
      refine ret3 rfl rfl (w.heap.size + 1 + 1) rfl (((CB.set (HX.out.grow (below_drews (Below.refl _ _) _) HX.out.lt) 0 _).set 1 _).set 2 _) ?_
      rw [R.out]
      exact ⟨rfl, below3 (below_drews BB.out _) (by omega) _ _ _ _ _ _⟩
theorem gather_is {w : World} {cb g o n cp q : Nat} {c : List Int} (p : V3) (r : V3) {x : V3} (hc : w.cell? ⟨cb, 0, none⟩ = some (.slice (some ⟨g, o, none⟩) n cp)) (hr : IRow w (.slice (some ⟨g, o, none⟩) n cp) c)
    (hn : c.length = n) (hq : q < n) {y : Int} (hy : c.getD q 0 = y) (hw : IntKind.i64.wrap (y + r.2.2) = y + r.2.2) (hx : gathV p q y r = x) :
    Calls Try.prog 34 #[.agg #[.bool p.1, .int .i64 p.2.1, .int .i64 p.2.2], .int .i64 q, .agg #[.bool r.1, .int .i64 r.2.1, .int .i64 r.2.2], .pointer (some ⟨cb, 0, none⟩)] w fun e w' => e = .returned (.agg #[.bool x.1, .int .i64 x.2.1, .int .i64 x.2.2]) ∧ Below w.heap.size w w' := by
  have := gather_any p r hc hr hn hq hy hw
  rwa [hx] at this
/-- What is in the table of the best cuts. -/
def bestF (a b : Nat) (c : List Int) (i : Nat) : V3 := vEnt i (best a b (c.drop i))
set_option maxRecDepth 100000 in
set_option maxHeartbeats 6400000 in
theorem tailsCut_any {n a b cb g o cp : Nat} {w : World} {c : List Int} (hc : w.cell? ⟨cb, 0, none⟩ = some (.slice (some ⟨g, o, none⟩) n cp)) (hr : IRow w (.slice (some ⟨g, o, none⟩) n cp) c)
    (hn : c.length = n) (hs : isSig c = true) (h1 : 1 ≤ a) (h2 : a ≤ b) (h3 : b ≤ 16) :
    Calls Try.prog 33 #[.int .i64 n, .agg #[.int .i64 a, .int .i64 b], .agg #[.bool true, .int .i64 0, .int .i64 0], .func (.func 34) #[] #[.pointer (some ⟨cb, 0, none⟩)]] w fun e w' =>
      ∃ g L, e = .returned (.slice (some ⟨g, 0, none⟩) (n + 1) (n + 1)) ∧ w.heap.size ≤ g ∧ B3 54 w' g L ∧ Tab (false, 0, 0) (bestF a b c) n 0 L ∧ Below w.heap.size w w' := by
  obtain ⟨s1, s2, _⟩ := isSig_iff.1 hs
  rw [hn] at s1 s2
  obtain ⟨i0, hi0, hz0, hz1, hz2⟩ := info3_parts cutInfo
  have e1 : IntKind.i64.wrap ((n : Int) + 1) = ((n + 1 : Nat) : Int) := by rw [show (n : Int) + 1 = ((n + 1 : Nat) : Int) by omega]; exact IntWalk.i64_in _ (by omega)
  have e2 : IntKind.i64.wrap ((n : Int) - 1) = (n : Int) - 1 := IntWalk.i64_in _ (by omega)
  have B0 : Hid (Below w.heap.size w ((w.alloc (.cells #[.int .i64 a, .int .i64 b] 47)).alloc (.cells #[.bool true, .int .i64 0, .int .i64 0] 54))) := Lib.hid (by go_grown)
  have c0 : ((w.alloc (.cells #[.int .i64 a, .int .i64 b] 47)).alloc (.cells #[.bool true, .int .i64 0, .int .i64 0] 54)).cell? ⟨w.heap.size, 0, none⟩ = some (.int .i64 a) := by go_cell
  have c1 : ((w.alloc (.cells #[.int .i64 a, .int .i64 b] 47)).alloc (.cells #[.bool true, .int .i64 0, .int .i64 0] 54)).cell? ⟨w.heap.size, 1, none⟩ = some (.int .i64 b) := by go_cell
  have c2 : ((w.alloc (.cells #[.int .i64 a, .int .i64 b] 47)).alloc (.cells #[.bool true, .int .i64 0, .int .i64 0] 54)).cell? ⟨w.heap.size + 1, 0, none⟩ = some (.bool true) := by go_cell
  have c3 : ((w.alloc (.cells #[.int .i64 a, .int .i64 b] 47)).alloc (.cells #[.bool true, .int .i64 0, .int .i64 0] 54)).cell? ⟨w.heap.size + 1, 1, none⟩ = some (.int .i64 0) := by go_cell
  have c4 : ((w.alloc (.cells #[.int .i64 a, .int .i64 b] 47)).alloc (.cells #[.bool true, .int .i64 0, .int .i64 0] 54)).cell? ⟨w.heap.size + 1, 2, none⟩ = some (.int .i64 0) := by go_cell
  have hs0 : ((w.alloc (.cells #[.int .i64 a, .int .i64 b] 47)).alloc (.cells #[.bool true, .int .i64 0, .int .i64 0] 54)).heap.size = w.heap.size + 1 + 1 := by simp
  have C0 := Lib.hid c0; have C1 := Lib.hid c1; have C2 := Lib.hid c2; have C3 := Lib.hid c3; have C4 := Lib.hid c4; have HS0 := Lib.hid hs0
  have HC := Lib.hid hc; have HR := Lib.hid hr; have HN := Lib.hid hn; have HS := Lib.hid hs
  clear c0 c1 c2 c3 c4 hs0 hc hr hn hs
  have i1 : (0 : Int) ≤ (n : Int) := by omega
  have i2 : (n : Int) < ((n + 1 : Nat) : Int) := by omega
  go_enter Try.func33, Try.ntmps33
  go_upto_region 2 with (refine wpList_make_full _ rfl _ _ 51 rfl w.heap.size 54 i0 _ 3 Try.underlying51 hi0 hz0 hz1 .i64 .i64 _ _ (n + 1) rfl rfl rfl rfl (by rw [hz2]; omega) (by unfold maxLen; omega) (by rw [HS0.out]; omega) ?_; intro w1 hown hg)
  have mk := own_block3 hown
  rw [HS0.out] at mk
  have it : B3 54 w1 (w.heap.size + 1 + 1) (List.replicate (n + 1) (false, 0, 0)) := by
    unfold B3; rw [← made3]; exact mk.1
  have BB1 : Hid (Below w.heap.size w w1) := Lib.hid (B0.out.grown hg (by rw [HS0.out]; omega) (fun k hk => by simp at hk))
  have B1 : Below (w.heap.size + 1 + 1) ((w.alloc (.cells #[.int .i64 a, .int .i64 b] 47)).alloc (.cells #[.bool true, .int .i64 0, .int .i64 0] 54)) w1 := (Below.refl _ _).grown hg (Nat.le_of_eq HS0.out.symm) (fun k hk => by simp at hk)
  have d0 := (B1.cell (p := ⟨w.heap.size, 0, none⟩) (by show w.heap.size < _; omega)).trans C0.out
  have d1 := (B1.cell (p := ⟨w.heap.size, 1, none⟩) (by show w.heap.size < _; omega)).trans C1.out
  have d2 := (B1.cell (p := ⟨w.heap.size + 1, 0, none⟩) (Nat.lt_succ_self _)).trans C2.out
  have d3 := (B1.cell (p := ⟨w.heap.size + 1, 1, none⟩) (Nat.lt_succ_self _)).trans C3.out
  have d4 := (B1.cell (p := ⟨w.heap.size + 1, 2, none⟩) (Nat.lt_succ_self _)).trans C4.out
  have hc1 := (BB1.out.cell (cell_below HC.out)).trans HC.out
  have hr1 := HR.out.grow BB1.out
  obtain ⟨t0, t1, t2⟩ := it.cells n (by simp)
  simp only [List.getElem_replicate] at t0 t1 t2
  have f0 := it.froz (n * 3); have f1 := it.froz (n * 3 + 1); have f2 := it.froz (n * 3 + 2)
  have I2 := Lib.hid (it.set n (by simp) (true, 0, 0))
  have B2 := Lib.hid (below3 (Below.refl (w.heap.size + 1 + 1) w1) (Nat.le_refl _) (n * 3) (n * 3 + 1) (n * 3 + 2) (.bool true) (.int .i64 0) (.int .i64 0))
  have F : Hid (Tab (false, 0, 0) (bestF a b c) n n ((List.replicate (n + 1) ((false, 0, 0) : V3)).set n (true, 0, 0))) := Lib.hid (((tab_new ((false, 0, 0) : V3) (bestF a b c) n).put (true, 0, 0)).shut (by unfold bestF; rw [← HN.out, List.drop_length]; rfl))
  have D0 := Lib.hid d0; have D1 := Lib.hid d1; have HC1 := Lib.hid hc1; have HR1 := Lib.hid hr1
  have gl := cell_below (hr1.cells 0 (by rw [HN.out]; omega))
  have hcw := cell_below HC.out
  have hgw := cell_below (HR.out.cells 0 (by rw [HN.out]; omega))
  simp only at hcw hgw
  have HCW := Lib.hid hcw; have HGW := Lib.hid hgw
  clear hown hg it mk B1 d0 d1 hi0 hz0 hz1 hz2 C0 C1 C2 C3 C4 HS0 hc1 hr1 gl hcw hgw
  clear i0
  go_wp2_with fail
  go_loopg [10] n (fun k x wr => ∃ L, x = .int .i64 ((k : Int) - 1) ∧ k ≤ n ∧ Tab (false, 0, 0) (bestF a b c) n k L ∧ B3 54 wr (w.heap.size + 1 + 1) L ∧ Below (w.heap.size + 1 + 1) w1 wr)
  case atStart => exact ⟨_, rfl, Nat.le_refl _, F.out, I2.out, B2.out⟩
  case round =>
    obtain ⟨gj, rfl⟩ : ∃ g, g = gk := ⟨_, rfl⟩
    obtain ⟨wo, rfl⟩ : ∃ x, x = wr := ⟨wr, rfl⟩
    obtain ⟨L, rfl, hk, ht, hi, hb⟩ := hrel
    have T := Lib.hid ht; have I := Lib.hid hi; have B := Lib.hid hb
    clear ht hi hb F I2 B2 e1 e2 t0 t1 t2 f0 f1 f2 d2 d3 d4
    by_cases hz : gj = 0
    · subst hz
      have ee : ((0 : Nat) : Int) - 1 = -1 := by omega
      rw [ee]
      clear ee
      go_wp2_with fail
      go_ret
      exact ⟨_, L, rfl, by omega, I.out, T.out, BB1.out.trans (B.out.mono (by omega))⟩
    · obtain ⟨q, rfl⟩ : ∃ q, gj = q + 1 := ⟨gj - 1, by omega⟩
      have ee : ((q + 1 : Nat) : Int) - 1 = (q : Int) := by omega
      rw [ee]
      clear ee hz
      have d0 := (B.out.cell (p := ⟨w.heap.size, 0, none⟩) (by show w.heap.size < _; omega)).trans D0.out
      have i3 : (0 : Int) ≤ (q : Int) := by omega
      have i4 : (q : Int) < ((n + 1 : Nat) : Int) := by omega
      have u0 : IntKind.i64.wrap ((q : Int) + (a : Int)) = (q : Int) + ((a : Int) + ((0 : Nat) : Int)) := by rw [show (q : Int) + ((a : Int) + ((0 : Nat) : Int)) = (q : Int) + (a : Int) by omega]; exact IntWalk.i64_in _ (by omega)
      go_wp2_with fail
      go_loopg [11] (dists a b (n - q)) (fun k y wr => ∃ (i : Nat) (M : List V3), y = .int .i64 ((q : Int) + ((a : Int) + (i : Int))) ∧ i + k = dists a b (n - q) ∧ Tab1 (false, 0, 0) (bestF a b c) n q (vEnt q (bestP a b (c.drop q) i)) M ∧ B3 54 wr (w.heap.size + 1 + 1) M ∧ Below (w.heap.size + 1 + 1) w1 wr)
      case atStart => exact ⟨0, _, by first | rfl | (rw [u0]), by omega, T.out.open, I.out, B.out⟩
      case round =>
        obtain ⟨i, M, rfl, hk2, ht, hi, hb⟩ := hrel
        have K2 := Lib.hid hk2; have T3 := Lib.hid ht; have I3 := Lib.hid hi; have B3' := Lib.hid hb
        have hid : i ≤ dists a b (n - q) := by omega
        clear hk2 ht hi hb d0 u0
        have d1 := (B3'.out.cell (p := ⟨w.heap.size, 1, none⟩) (by show w.heap.size < _; omega)).trans D1.out
        have v1 : IntKind.i64.wrap ((q : Int) + (b : Int)) = (q : Int) + (b : Int) := IntWalk.i64_in _ (by omega)
        obtain ⟨mx, hmx⟩ : ∃ m : Nat, min (q + b) n = m := ⟨_, rfl⟩
        have v2 : (if (n : Int) < (q : Int) + (b : Int) then (n : Int) else (q : Int) + (b : Int)) = (mx : Int) := by split <;> omega
        by_cases hi : i < dists a b (n - q)
        · obtain ⟨n1, n2⟩ := dist_in h1 hi
          obtain ⟨s, hr⟩ : ∃ s : Nat, q + (a + i) = s := ⟨_, rfl⟩
          have lenM := T3.out.len
          obtain ⟨x1, x2, x3⟩ := I3.out.cells s (by omega)
          rw [T3.out.done s (by omega) (by omega)] at x1 x2 x3
          obtain ⟨y1, y2, y3⟩ := I3.out.cells q (by omega)
          rw [T3.out.here] at y1 y2 y3
          have f3 := I3.out.froz (q * 3); have f4 := I3.out.froz (q * 3 + 1); have f5 := I3.out.froz (q * 3 + 2)
          have GV := gathV_is q s (a + i) (c.getD (s - 1) 0) (bestP a b (c.drop q) i) (best a b (c.drop s)) (by omega)
          have GB := bestP_next a b c q i h1
          rw [hr] at GB
          rw [← GB, show q + (a + i) - 1 = s - 1 by omega] at GV
          obtain ⟨u, hu⟩ : ∃ u : V3, bestF a b c s = u := ⟨_, rfl⟩
          have hu2 : vEnt s (best a b (c.drop s)) = u := hu
          obtain ⟨v, hv⟩ : ∃ u : V3, vEnt q (bestP a b (c.drop q) i) = u := ⟨_, rfl⟩
          obtain ⟨x, hx⟩ : ∃ u : V3, vEnt q (bestP a b (c.drop q) (i + 1)) = u := ⟨_, rfl⟩
          rw [hu] at x1 x2 x3
          rw [hv] at y1 y2 y3
          rw [hv, hu2, hx] at GV
          have ub : 0 ≤ u.2.2 ∧ u.2.2 ≤ 16000 := by
            rw [← hu2]
            cases hb : best a b (c.drop s) with
            | none => rw [vEnt_none]; decide
            | some p => rw [vEnt_cost]; exact ent_bound h1 HS.out hb
          obtain ⟨y, hy⟩ : ∃ y : Int, c.getD (s - 1) 0 = y := ⟨_, rfl⟩
          have yb : 0 ≤ y ∧ y ≤ 1000 := by
            rw [← hy, getD_nat (show s - 1 < c.length by rw [HN.out]; omega)]; exact sig_get HS.out _
          rw [hy] at GV
          have wy : IntKind.i64.wrap (y + u.2.2) = y + u.2.2 := IntWalk.i64_in _ (by omega)
          have T4 : Hid (Tab1 (false, 0, 0) (bestF a b c) n q (vEnt q (bestP a b (c.drop q) (i + 1))) (M.set q x)) := Lib.hid (by rw [hx]; exact T3.out.put _)
          have ee : (q : Int) + ((a : Int) + (i : Int)) = (s : Int) := by omega
          rw [ee]
          have c2 : (s : Int) ≤ (mx : Int) := by omega
          have j3 : (0 : Int) ≤ (s : Int) := by omega
          have j4 : (s : Int) < (n : Int) + 1 := by omega
          have i4' : (q : Int) < (n : Int) + 1 := by omega
          have hsn : s - 1 < n := by omega
          have w2 : IntKind.i64.wrap ((s : Int) - 1) = ((s - 1 : Nat) : Int) := by rw [show (s : Int) - 1 = ((s - 1 : Nat) : Int) by omega]; exact IntWalk.i64_in _ (by omega)
          have w3 : IntKind.i64.wrap ((s : Int) + 1) = (s : Int) + 1 := IntWalk.i64_in _ (by omega)
          have hGlt : w.heap.size + 1 + 1 < wr.drew.heap.size := I3.out.lt
          have hcD : wr.drew.cell? ⟨cb, 0, none⟩ = some (.slice (some ⟨g, o, none⟩) n cp) := (B3'.out.drew.cell (p := ⟨cb, 0, none⟩) (by show cb < _; have := HCW.out; omega)).trans HC1.out
          have hrD : IRow wr.drew (.slice (some ⟨g, o, none⟩) n cp) c := HR.out.grow ((BB1.out.trans (B3'.out.mono (by omega))).drew)
          have HR2 := Lib.hid hr; have GG := Lib.hid GV; have HCD := Lib.hid hcD; have HRD := Lib.hid hrD; have HY := Lib.hid hy
          clear GV GB hu hu2 hv hx hy hr n1 n2 ee hmx lenM hcD hrD yb ub
          go_wp2_with fail
          refine calm_region 15 (fun w' => w'.cell? ⟨w.heap.size + 1 + 1, q * 3, none⟩ = some (.bool v.1) ∧ w'.cell? ⟨w.heap.size + 1 + 1, q * 3 + 1, none⟩ = some (.int .i64 v.2.1) ∧ w'.cell? ⟨w.heap.size + 1 + 1, q * 3 + 2, none⟩ = some (.int .i64 v.2.2) ∧ w'.cell? ⟨w.heap.size + 1 + 1, s * 3, none⟩ = some (.bool u.1) ∧ w'.cell? ⟨w.heap.size + 1 + 1, s * 3 + 1, none⟩ = some (.int .i64 u.2.1) ∧ w'.cell? ⟨w.heap.size + 1 + 1, s * 3 + 2, none⟩ = some (.int .i64 u.2.2) ∧ w'.frozen? ⟨w.heap.size + 1 + 1, q * 3, none⟩ = false ∧ w'.frozen? ⟨w.heap.size + 1 + 1, q * 3 + 1, none⟩ = false ∧ w'.frozen? ⟨w.heap.size + 1 + 1, q * 3 + 2, none⟩ = false) (by kernel_rfl) (by exact ⟨y1, y2, y3, x1, x2, x3, f3, f4, f5⟩) (fun hHeld => ?_)
          refine take_l 0 39 rfl rfl (by kernel_rfl) (by kernel_rfl) (by kernel_rfl) (by kernel_rfl) (fun _ _ _ h => h) (by kernel_rfl) (by intro w hSw; (try dsimp only at hSw); go_simp; try with_reducible rfl) (by assumption) ?_
          refine take_l 1 40 rfl rfl (by kernel_rfl) (by kernel_rfl) (by kernel_rfl) (by kernel_rfl) (fun _ _ _ h => h) (by kernel_rfl) (by intro w hSw; (try dsimp only at hSw); go_simp; try with_reducible rfl) (by assumption) ?_
          refine take_l 2 41 rfl rfl (by kernel_rfl) (by kernel_rfl) (by kernel_rfl) (by kernel_rfl) (fun _ _ _ h => h) (by kernel_rfl) (by intro w hSw; (try dsimp only at hSw); go_simp; try with_reducible rfl) (by assumption) ?_
          refine take_l 3 42 rfl rfl (by kernel_rfl) (by kernel_rfl) (by kernel_rfl) (by kernel_rfl) (fun _ _ _ h => h) (by kernel_rfl) (by intro w hSw; (try dsimp only at hSw); go_simp; try with_reducible rfl) (by assumption) ?_
          refine take_l 4 43 rfl rfl (by kernel_rfl) (by kernel_rfl) (by kernel_rfl) (by kernel_rfl) (fun _ _ _ h => h) (by kernel_rfl) (by intro w hSw; (try dsimp only at hSw); go_simp; try with_reducible rfl) (by assumption) ?_
          refine take_l 5 44 rfl rfl (by kernel_rfl) (by kernel_rfl) (by kernel_rfl) (by kernel_rfl) (fun _ _ _ h => h) (by kernel_rfl) (by intro w hSw; (try dsimp only at hSw); go_simp; try with_reducible rfl) (by assumption) ?_
          refine take_l 6 45 rfl rfl (by kernel_rfl) (by kernel_rfl) (by kernel_rfl) (by kernel_rfl) (fun _ _ _ h => h) (by kernel_rfl) (by intro w hSw; (try dsimp only at hSw); go_simp; try with_reducible rfl) (by assumption) ?_
          refine take_l 7 46 rfl rfl (by kernel_rfl) (by kernel_rfl) (by kernel_rfl) (by kernel_rfl) (fun _ _ _ h => h) (by kernel_rfl) (by intro w hSw; (try dsimp only at hSw); go_simp; try with_reducible rfl) (by assumption) ?_
          refine take_l 8 47 rfl rfl (by kernel_rfl) (by kernel_rfl) (by kernel_rfl) (by kernel_rfl) (fun _ _ _ h => h) (by kernel_rfl) (by intro w hSw; (try dsimp only at hSw); go_simp; try with_reducible rfl) (by assumption) ?_
          refine take_l 9 48 rfl rfl (by kernel_rfl) (by kernel_rfl) (by kernel_rfl) (by kernel_rfl) (fun _ _ _ h => h) (by kernel_rfl) (by intro w hSw; (try dsimp only at hSw); go_simp; try with_reducible rfl) (by assumption) ?_
          refine take_l 10 49 rfl rfl (by kernel_rfl) (by kernel_rfl) (by kernel_rfl) (by kernel_rfl) (fun _ _ _ h => h) (by kernel_rfl) (by intro w hSw; (try dsimp only at hSw); go_simp; try with_reducible rfl) (by assumption) ?_
          refine take_l 11 50 rfl rfl (by kernel_rfl) (by kernel_rfl) (by kernel_rfl) (by kernel_rfl) (fun _ _ _ h => h) (by kernel_rfl) (by intro w hSw; (try dsimp only at hSw); go_simp; try with_reducible rfl) (by assumption) ?_
          refine take_l 12 51 rfl rfl (by kernel_rfl) (by kernel_rfl) (by kernel_rfl) (by kernel_rfl) (fun _ _ _ h => h) (by kernel_rfl) (by intro w hSw; (try dsimp only at hSw); go_simp; try with_reducible rfl) (by assumption) ?_
          refine step_l 13 (by kernel_rfl) rfl (fun K hK => ?_)
          go_simp
          go_wp2_with (go_at_call 34; refine (gather_is v u HCD.out HRD.out HN.out hsn HY.out wy GG.out).mono ?_; rintro e w5 ⟨rfl, b5⟩)
          refine hK.out _ _ (by (try dsimp only); (exact ⟨(b5.cell (cell_below hHeld.1)).trans hHeld.1, (b5.cell (cell_below hHeld.2.1)).trans hHeld.2.1, (b5.cell (cell_below hHeld.2.2.1)).trans hHeld.2.2.1, (b5.cell (cell_below hHeld.2.2.2.1)).trans hHeld.2.2.2.1, (b5.cell (cell_below hHeld.2.2.2.2.1)).trans hHeld.2.2.2.2.1, (b5.cell (cell_below hHeld.2.2.2.2.2.1)).trans hHeld.2.2.2.2.2.1, (b5.frozen (p := ⟨w.heap.size + 1 + 1, q * 3, none⟩) hGlt).trans hHeld.2.2.2.2.2.2.1, (b5.frozen (p := ⟨w.heap.size + 1 + 1, q * 3 + 1, none⟩) hGlt).trans hHeld.2.2.2.2.2.2.2.1, (b5.frozen (p := ⟨w.heap.size + 1 + 1, q * 3 + 2, none⟩) hGlt).trans hHeld.2.2.2.2.2.2.2.2⟩)) (fun hHeld => ?_)
          clear hK K
          refine take_l 14 53 rfl rfl (by kernel_rfl) (by kernel_rfl) (by kernel_rfl) (by kernel_rfl) (fun _ _ _ h => h) (by kernel_rfl) (by intro w hSw; (try dsimp only at hSw); go_simp; try with_reducible rfl) (by assumption) ?_
          refine last_l (by kernel_rfl) rfl (by kernel_rfl) (fun K hK => ?_)
          go_simp
          refine hK.out _ _ ?_
          clear hK K
          try simp only [Exit.then]
          try simp only [Act.put, List.setIfInBounds_toArray, List.set_cons_succ, List.set_cons_zero]
          have I5 := Lib.hid ((I3.out.grow ((Below.refl wr.heap.size wr).drew.trans b5) I3.out.lt).set q (by rw [T3.out.len]; omega) x)
          have B5 := Lib.hid (below3 ((B3'.out.drew).trans (b5.mono (Nat.le_of_lt hGlt))) (Nat.le_refl (w.heap.size + 1 + 1)) (q * 3) (q * 3 + 1) (q * 3 + 2) (.bool x.1) (.int .i64 x.2.1) (.int .i64 x.2.2))
          clear hHeld b5
          go_wp2_with fail
          go_roundg (gk - 1)
          case measure => have := K2.out; omega
          case rel => exact ⟨i + 1, _, by have := HR2.out; congr 1; omega, by have := K2.out; omega, T4.out, I5.out, B5.out⟩
        · have hii : i = dists a b (n - q) := by omega
          have T4 := Lib.hid (T3.out.shut (show _ = bestF a b c q by unfold bestF; rw [hii, bestP_all h1 HN.out (by omega)]))
          have u3 : IntKind.i64.wrap ((q : Int) - 1) = (q : Int) - 1 := IntWalk.i64_in _ (by omega)
          have c2 : ¬ (q : Int) + ((a : Int) + (i : Int)) ≤ (mx : Int) := by unfold dists at hii; omega
          clear hii hi hmx
          go_wp2_with fail
          go_roundg q
          case measure => omega
          case rel => exact ⟨M, by first | rfl | (rw [u3]), by omega, T4.out, I3.out, B3'.out⟩
end Go.Proofs.Ytihgfhddljicaab
