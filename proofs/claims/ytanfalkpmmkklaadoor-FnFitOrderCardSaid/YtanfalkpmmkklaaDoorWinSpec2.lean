/- The contracts of the model's functions on windows, second part: tight windows. -/
import Derived.Test.YtanfalkpmmkklaaDoorWinSpec
import Derived.Test.YtanfalkpmmkklaaDoorWinMix
import Derived.Test.YtanfalkpmmkklaaDoorLate
namespace Go.Proofs.YtanfalkpmmkklaaDoor
open Go.RowKit

theorem both_is {p q : Wn} {lo hi : Int} (h : bothW p lo hi = q) (w : World) :
    Calls Tryd.prog 36 #[.agg #[.int .i64 p.1, .int .i64 p.2], .int .i64 lo, .int .i64 hi] w fun e w' => e = .returned (.agg #[.int .i64 q.1, .int .i64 q.2]) ∧ Below w.heap.size w w' := by
  subst h; exact specBoth_any p lo hi w
theorem wl_new (w1 : World) {w : World} (k : Below w.heap.size w w1) : Hid (Own WT (w1.alloc (.cells #[] WT)) w.heap.size (.slice (some ⟨w1.heap.size, 0, none⟩) 0 0) [] ∧ Below w.heap.size w (w1.alloc (.cells #[] WT))) := Lib.hid ⟨own_new WT k.size, k.alloc k.size _⟩
theorem set_own {w w' : World} {g i : Nat} {x y : Int} {B : Nat} (h : Below B w w') (hg : B ≤ g) : Below B w ((w'.setCell ⟨g, i, none⟩ (.int .i64 x)).setCell ⟨g, i + 1, none⟩ (.int .i64 y)) :=
  (h.setCell (p := ⟨g, i, none⟩) hg _).setCell (p := ⟨g, i + 1, none⟩) hg _
set_option maxRecDepth 100000 in
set_option maxHeartbeats 6400000 in
theorem specTight_any {w : World} {v u : Value} {l s : List Pc} (h : Row w v l) (k : Row w u s) :
    Calls Tryd.prog 19 #[v, u] w fun e w' => LstB WT w (tightOf l s) e w' := by
  cases hw : isWin l s
  · have HW := Lib.hid hw
    have R := Lib.hid (tight_invalid hw)
    have H := Lib.hid h; have H' := Lib.hid k
    clear h k hw
    go_enter Tryd.func19, Tryd.ntmps19
    go_wp2_with fail
    refine (winS_is H.out H'.out HW.out).mono ?_
    rintro e w1 ⟨rfl, b1⟩
    have O1 := wl_new w1 b1
    go_wp2_with fail
    go_ret2
    rw [R.out]
    exact ⟨_, rfl, O1.out.1, O1.out.2⟩
  have HW := Lib.hid hw
  have W := Lib.hid (isWin_iff.1 hw)
  have n1 := W.out.one
  have n12 := W.out.most
  have sl := W.out.len
  obtain ⟨g, o, c, rfl, h1, h2⟩ := h.known (by omega)
  obtain ⟨a', c', rfl, k1, k2⟩ := k.len
  have H := Lib.hid h; have H' := Lib.hid k
  unfold maxLen at h2 k2
  obtain ⟨_, _, _, e9, _, _, _, h9⟩ := id h
  simp only [Value.slice.injEq] at e9
  obtain ⟨rfl, rfl, rfl⟩ := e9
  have LI := Lib.hid (lies_news h9.all)
  have FL := Lib.hid (fwL_length l s); have TL := Lib.hid (tiL_length l s)
  have HM := Lib.hid (mix_start W.out)
  clear h k hw h9
  go_enter Tryd.func19, Tryd.ntmps19
  go_wp2_with fail
  refine (winS_is H.out H'.out HW.out).mono ?_
  rintro e w1 ⟨rfl, b1⟩
  have EA := Lib.hid (own_new WT (w := w1) b1.size)
  have A1 := Lib.hid ((Below.refl w1.heap.size w1).alloc (Nat.le_refl _) (.cells #[] WT))
  have NW : Hid (∀ j u, (cells2 l)[j]? = some u → (w1.alloc (.cells #[] WT)).cell? ((⟨g, o, none⟩ : Addr).add j) = some u) := Lib.hid (fun j u hu => by
    have q := LI.out j u hu
    exact (((b1.trans (A1.out.mono b1.size)).cell (cell_below q)).trans q))
  have B1 := Lib.hid b1
  have z1 := b1.size
  clear b1
  go_wp2_with (at_builtin; refine append_list winT rfl _ _ rfl (B := w.heap.size) _ [] rfl EA.out ⟨g, o, none⟩ l.length c l rfl rfl NW.out (by simp; omega) (by simp; omega) ?_; intro v5 w5 hown5 g5; rw [List.nil_append] at hown5; have O5 := Lib.hid hown5; have B5 := Lib.hid (B1.out.trans ((A1.out.mono z1).trans (EA.out.below g5 (by simp; omega)))); clear hown5 g5)
  obtain ⟨gv, cv, rfl, v1, v2, v3, v4, -⟩ := O5.out.at (by omega)
  have OM : Hid (Own WT w5 w.heap.size (.slice (some ⟨gv, 0, none⟩) l.length cv) (mixW (fwL l s) l 1)) := Lib.hid (by rw [HM.out]; exact O5.out)
  unfold maxLen at v2
  clear O5 EA A1 NW LI
  go_wp2_with fail
  go_loopg [7] l.length (fun k x wr => ∃ i : Nat, x = .int .i64 i ∧ i + k = l.length + 1 ∧ 1 ≤ i ∧ i ≤ l.length ∧ Own WT wr w.heap.size (.slice (some ⟨gv, 0, none⟩) l.length cv) (mixW (fwL l s) l i) ∧ Below w.heap.size w wr)
  case atStart => exact ⟨1, rfl, by omega, by omega, by omega, OM.out, B5.out⟩
  case round =>
    obtain ⟨i, rfl, hk, hi1, hin, ho, hb⟩ := hrel
    have K := Lib.hid hk; have O := Lib.hid ho; have B := Lib.hid hb
    clear hk ho hb OM B5
    by_cases hlt : i < l.length
    · obtain ⟨j, rfl⟩ : ∃ j, i = j + 1 := ⟨i - 1, by omega⟩
      have ml := mix_len (A := fwL l s) (B := l) (k := j + 1) FL.out rfl (by omega)
      obtain ⟨gv', cv', e', -, -, -, gl, hp⟩ := O.out.at (by omega)
      simp only [Value.slice.injEq, Option.some.injEq, Addr.mk.injEq, and_true] at e'
      obtain ⟨rfl, -, rfl⟩ := e'
      have p1 := hp (j + 1) (by omega)
      have p0 := hp j (by omega)
      rw [mix_ge FL.out rfl (by omega) (Nat.le_refl _)] at p1
      rw [mix_lt FL.out rfl (by omega) (by omega), fwL_get] at p0
      obtain ⟨gs, os, cs, es, _, _⟩ := H'.out.known (by omega)
      simp only [Value.slice.injEq, true_and] at es
      obtain ⟨rfl, rfl⟩ := es
      obtain ⟨d4, d5⟩ := H'.out.cells j (by omega)
      have c4 := (B.out.cell (cell_below d4)).trans d4
      have c5 := (B.out.cell (cell_below d5)).trans d5
      have bx := W.out.okl (j + 1) hlt; have by0 := fw_bd W.out j (by omega); have bz := W.out.oks j hlt
      have br := fw_bd W.out (j + 1) hlt
      have fx := fw_next (l := l) (s := s) (i := j)
      rw [gW_get hlt] at bx fx
      rw [gW_get (show j < s.length by omega)] at bz fx
      obtain ⟨x, hx⟩ : ∃ x, l[j + 1] = x := ⟨_, rfl⟩
      obtain ⟨y, hy⟩ : ∃ y, fwW l s j = y := ⟨_, rfl⟩
      obtain ⟨z, hz0⟩ : ∃ z, s[j]'(by omega) = z := ⟨_, rfl⟩
      obtain ⟨r, hr⟩ : ∃ r, fwW l s (j + 1) = r := ⟨_, rfl⟩
      rw [hx] at p1 bx fx
      rw [hy] at p0 by0 fx
      rw [hz0] at c4 c5 bz fx
      rw [hr] at br fx
      have RW : Hid ((fwL l s)[j + 1]'(by rw [FL.out]; exact hlt) = r) := Lib.hid (by rw [fwL_get]; exact hr)
      clear hx hy hz0 hr
      obtain ⟨x1, x2⟩ := x; obtain ⟨y1, y2⟩ := y; obtain ⟨z1, z2⟩ := z; obtain ⟨r1, r2⟩ := r
      have FX := Lib.hid fx.symm
      simp only at p0 p1 c4 c5 bx by0 bz br
      clear fx
      have js0 : (0 : Int) ≤ (j : Int) := by omega
      have js1 : (j : Int) < (s.length : Int) := by omega
      have jl1 : (j : Int) < (l.length : Int) := by omega
      have jl2 : (j : Int) + 1 < (l.length : Int) := by omega
      have js2 : (0 : Int) ≤ (j : Int) + 1 := by omega
      have jt : ((j : Int) + 1).toNat = j + 1 := by omega
      have s1 : IntKind.i64.wrap ((j : Int) + 1 - 1) = (j : Int) := by rw [show (j : Int) + 1 - 1 = j by omega]; exact IntWalk.i64_in _ (by omega)
      have s2 : IntKind.i64.wrap (j : Int) = (j : Int) := IntWalk.i64_in _ (by omega)
      have s3 : IntKind.i64.wrap (y1 + z1) = y1 + z1 := IntWalk.i64_in _ (by omega)
      have s4 : IntKind.i64.wrap (y2 + z2) = y2 + z2 := IntWalk.i64_in _ (by omega)
      have C4 := Lib.hid c4; have C5 := Lib.hid c5
      have C0 := Lib.hid p1.top; have C1 := Lib.hid p1.bot; have C2 := Lib.hid p0.top; have C3 := Lib.hid p0.bot; have F0 := Lib.hid p1.f0; have F1 := Lib.hid p1.f1
      have mkS : ∀ w' : World, Below wr.heap.size wr w' → (Below wr.heap.size wr w' ∧ w'.cell? ⟨gv, (j + 1) * 2, none⟩ = some (.int .i64 x1) ∧ w'.cell? ⟨gv, (j + 1) * 2 + 1, none⟩ = some (.int .i64 x2) ∧ w'.cell? ⟨gv, j * 2, none⟩ = some (.int .i64 y1) ∧ w'.cell? ⟨gv, j * 2 + 1, none⟩ = some (.int .i64 y2) ∧ w'.cell? ⟨gs, os + j * 2, none⟩ = some (.int .i64 z1) ∧ w'.cell? ⟨gs, os + j * 2 + 1, none⟩ = some (.int .i64 z2) ∧ w'.frozen? ⟨gv, (j + 1) * 2, none⟩ = false ∧ w'.frozen? ⟨gv, (j + 1) * 2 + 1, none⟩ = false) := fun w' b => ⟨b, (b.cell gl).trans C0.out, (b.cell gl).trans C1.out, (b.cell gl).trans C2.out, (b.cell gl).trans C3.out, (b.cell (cell_below C4.out)).trans C4.out, (b.cell (cell_below C5.out)).trans C5.out, (b.frozen gl).trans F0.out, (b.frozen gl).trans F1.out⟩
      have hz := B.out.size
      clear c4 c5 d4 d5 p0 p1 hp
      go_wp2_with fail
      refine calm_region 34 (fun w' => (Below wr.heap.size wr w' ∧ w'.cell? ⟨gv, (j + 1) * 2, none⟩ = some (.int .i64 x1) ∧ w'.cell? ⟨gv, (j + 1) * 2 + 1, none⟩ = some (.int .i64 x2) ∧ w'.cell? ⟨gv, j * 2, none⟩ = some (.int .i64 y1) ∧ w'.cell? ⟨gv, j * 2 + 1, none⟩ = some (.int .i64 y2) ∧ w'.cell? ⟨gs, os + j * 2, none⟩ = some (.int .i64 z1) ∧ w'.cell? ⟨gs, os + j * 2 + 1, none⟩ = some (.int .i64 z2) ∧ w'.frozen? ⟨gv, (j + 1) * 2, none⟩ = false ∧ w'.frozen? ⟨gv, (j + 1) * 2 + 1, none⟩ = false)) (by kernel_rfl) (by exact mkS _ (Below.refl _ _).drew) (fun hHeld => ?_)
      refine take_l 0 24 rfl rfl (by kernel_rfl) (by kernel_rfl) (by kernel_rfl) (by kernel_rfl) (fun _ _ _ h => h) (by kernel_rfl) (by intro w hSw; (try dsimp only at hSw); go_simp; try with_reducible rfl) (by assumption) ?_
      refine take_l 1 25 rfl rfl (by kernel_rfl) (by kernel_rfl) (by kernel_rfl) (by kernel_rfl) (fun _ _ _ h => h) (by kernel_rfl) (by intro w hSw; (try dsimp only at hSw); go_simp; try with_reducible rfl) (by assumption) ?_
      refine take_l 2 26 rfl rfl (by kernel_rfl) (by kernel_rfl) (by kernel_rfl) (by kernel_rfl) (fun _ _ _ h => h) (by kernel_rfl) (by intro w hSw; (try dsimp only at hSw); go_simp; try with_reducible rfl) (by assumption) ?_
      refine take_l 3 27 rfl rfl (by kernel_rfl) (by kernel_rfl) (by kernel_rfl) (by kernel_rfl) (fun _ _ _ h => h) (by kernel_rfl) (by intro w hSw; (try dsimp only at hSw); go_simp; try with_reducible rfl) (by assumption) ?_
      refine take_l 4 28 rfl rfl (by kernel_rfl) (by kernel_rfl) (by kernel_rfl) (by kernel_rfl) (fun _ _ _ h => h) (by kernel_rfl) (by intro w hSw; (try dsimp only at hSw); go_simp; try with_reducible rfl) (by assumption) ?_
      refine take_l 5 29 rfl rfl (by kernel_rfl) (by kernel_rfl) (by kernel_rfl) (by kernel_rfl) (fun _ _ _ h => h) (by kernel_rfl) (by intro w hSw; (try dsimp only at hSw); go_simp; try with_reducible rfl) (by assumption) ?_
      refine take_l 6 30 rfl rfl (by kernel_rfl) (by kernel_rfl) (by kernel_rfl) (by kernel_rfl) (fun _ _ _ h => h) (by kernel_rfl) (by intro w hSw; (try dsimp only at hSw); go_simp; try with_reducible rfl) (by assumption) ?_
      refine take_l 7 31 rfl rfl (by kernel_rfl) (by kernel_rfl) (by kernel_rfl) (by kernel_rfl) (fun _ _ _ h => h) (by kernel_rfl) (by intro w hSw; (try dsimp only at hSw); go_simp; try with_reducible rfl) (by assumption) ?_
      refine take_l 8 32 rfl rfl (by kernel_rfl) (by kernel_rfl) (by kernel_rfl) (by kernel_rfl) (fun _ _ _ h => h) (by kernel_rfl) (by intro w hSw; (try dsimp only at hSw); go_simp; try with_reducible rfl) (by assumption) ?_
      refine take_l 9 33 rfl rfl (by kernel_rfl) (by kernel_rfl) (by kernel_rfl) (by kernel_rfl) (fun _ _ _ h => h) (by kernel_rfl) (by intro w hSw; (try dsimp only at hSw); go_simp; try with_reducible rfl) (by assumption) ?_
      refine take_l 10 34 rfl rfl (by kernel_rfl) (by kernel_rfl) (by kernel_rfl) (by kernel_rfl) (fun _ _ _ h => h) (by kernel_rfl) (by intro w hSw; (try dsimp only at hSw); go_simp; try with_reducible rfl) (by assumption) ?_
      refine take_l 11 35 rfl rfl (by kernel_rfl) (by kernel_rfl) (by kernel_rfl) (by kernel_rfl) (fun _ _ _ h => h) (by kernel_rfl) (by intro w hSw; (try dsimp only at hSw); go_simp; try with_reducible rfl) (by assumption) ?_
      refine take_l 12 36 rfl rfl (by kernel_rfl) (by kernel_rfl) (by kernel_rfl) (by kernel_rfl) (fun _ _ _ h => h) (by kernel_rfl) (by intro w hSw; (try dsimp only at hSw); go_simp; try with_reducible rfl) (by assumption) ?_
      refine take_l 13 37 rfl rfl (by kernel_rfl) (by kernel_rfl) (by kernel_rfl) (by kernel_rfl) (fun _ _ _ h => h) (by kernel_rfl) (by intro w hSw; (try dsimp only at hSw); go_simp; try with_reducible rfl) (by assumption) ?_
      refine take_l 14 38 rfl rfl (by kernel_rfl) (by kernel_rfl) (by kernel_rfl) (by kernel_rfl) (fun _ _ _ h => h) (by kernel_rfl) (by intro w hSw; (try dsimp only at hSw); go_simp; try with_reducible rfl) (by assumption) ?_
      refine take_l 15 39 rfl rfl (by kernel_rfl) (by kernel_rfl) (by kernel_rfl) (by kernel_rfl) (fun _ _ _ h => h) (by kernel_rfl) (by intro w hSw; (try dsimp only at hSw); go_simp; try with_reducible rfl) (by assumption) ?_
      refine take_l 16 40 rfl rfl (by kernel_rfl) (by kernel_rfl) (by kernel_rfl) (by kernel_rfl) (fun _ _ _ h => h) (by kernel_rfl) (by intro w hSw; (try dsimp only at hSw); go_simp; try with_reducible rfl) (by assumption) ?_
      refine take_l 17 41 rfl rfl (by kernel_rfl) (by kernel_rfl) (by kernel_rfl) (by kernel_rfl) (fun _ _ _ h => h) (by kernel_rfl) (by intro w hSw; (try dsimp only at hSw); go_simp; try with_reducible rfl) (by assumption) ?_
      refine take_l 18 42 rfl rfl (by kernel_rfl) (by kernel_rfl) (by kernel_rfl) (by kernel_rfl) (fun _ _ _ h => h) (by kernel_rfl) (by intro w hSw; (try dsimp only at hSw); go_simp; try with_reducible rfl) (by assumption) ?_
      refine take_l 19 43 rfl rfl (by kernel_rfl) (by kernel_rfl) (by kernel_rfl) (by kernel_rfl) (fun _ _ _ h => h) (by kernel_rfl) (by intro w hSw; (try dsimp only at hSw); go_simp; try with_reducible rfl) (by assumption) ?_
      refine take_l 20 44 rfl rfl (by kernel_rfl) (by kernel_rfl) (by kernel_rfl) (by kernel_rfl) (fun _ _ _ h => h) (by kernel_rfl) (by intro w hSw; (try dsimp only at hSw); go_simp; try with_reducible rfl) (by assumption) ?_
      refine take_l 21 45 rfl rfl (by kernel_rfl) (by kernel_rfl) (by kernel_rfl) (by kernel_rfl) (fun _ _ _ h => h) (by kernel_rfl) (by intro w hSw; (try dsimp only at hSw); go_simp; try with_reducible rfl) (by assumption) ?_
      refine take_l 22 46 rfl rfl (by kernel_rfl) (by kernel_rfl) (by kernel_rfl) (by kernel_rfl) (fun _ _ _ h => h) (by kernel_rfl) (by intro w hSw; (try dsimp only at hSw); go_simp; try with_reducible rfl) (by assumption) ?_
      refine take_l 23 47 rfl rfl (by kernel_rfl) (by kernel_rfl) (by kernel_rfl) (by kernel_rfl) (fun _ _ _ h => h) (by kernel_rfl) (by intro w hSw; (try dsimp only at hSw); go_simp; try with_reducible rfl) (by assumption) ?_
      refine take_l 24 48 rfl rfl (by kernel_rfl) (by kernel_rfl) (by kernel_rfl) (by kernel_rfl) (fun _ _ _ h => h) (by kernel_rfl) (by intro w hSw; (try dsimp only at hSw); go_simp; try with_reducible rfl) (by assumption) ?_
      refine take_l 25 49 rfl rfl (by kernel_rfl) (by kernel_rfl) (by kernel_rfl) (by kernel_rfl) (fun _ _ _ h => h) (by kernel_rfl) (by intro w hSw; (try dsimp only at hSw); go_simp; try with_reducible rfl) (by assumption) ?_
      refine take_l 26 50 rfl rfl (by kernel_rfl) (by kernel_rfl) (by kernel_rfl) (by kernel_rfl) (fun _ _ _ h => h) (by kernel_rfl) (by intro w hSw; (try dsimp only at hSw); go_simp; try with_reducible rfl) (by assumption) ?_
      refine take_l 27 51 rfl rfl (by kernel_rfl) (by kernel_rfl) (by kernel_rfl) (by kernel_rfl) (fun _ _ _ h => h) (by kernel_rfl) (by intro w hSw; (try dsimp only at hSw); go_simp; try with_reducible rfl) (by assumption) ?_
      refine take_l 28 52 rfl rfl (by kernel_rfl) (by kernel_rfl) (by kernel_rfl) (by kernel_rfl) (fun _ _ _ h => h) (by kernel_rfl) (by intro w hSw; (try dsimp only at hSw); go_simp; try with_reducible rfl) (by assumption) ?_
      refine take_l 29 53 rfl rfl (by kernel_rfl) (by kernel_rfl) (by kernel_rfl) (by kernel_rfl) (fun _ _ _ h => h) (by kernel_rfl) (by intro w hSw; (try dsimp only at hSw); go_simp; try with_reducible rfl) (by assumption) ?_
      refine take_l 30 54 rfl rfl (by kernel_rfl) (by kernel_rfl) (by kernel_rfl) (by kernel_rfl) (fun _ _ _ h => h) (by kernel_rfl) (by intro w hSw; (try dsimp only at hSw); go_simp; try with_reducible rfl) (by assumption) ?_
      refine take_l 31 55 rfl rfl (by kernel_rfl) (by kernel_rfl) (by kernel_rfl) (by kernel_rfl) (fun _ _ _ h => h) (by kernel_rfl) (by intro w hSw; (try dsimp only at hSw); go_simp; try with_reducible rfl) (by assumption) ?_
      refine step_l 32 (by kernel_rfl) rfl (fun K hK => ?_)
      go_simp
      go_wp2_with ((go_at_call 36; refine (both_is FX.out _).mono ?_; rintro e w9 ⟨rfl, b9⟩; have b9' := Below.trans hHeld.1 (b9.mono hHeld.1.size)))
      refine hK.out _ _ (by (try dsimp only); exact mkS _ b9') (fun hHeld => ?_)
      clear hK K
      refine step_l 33 (by kernel_rfl) rfl (fun K hK => ?_)
      go_simp
      refine hK.out _ _ hHeld (fun hHeld => ?_)
      clear hK K
      refine last_l (by kernel_rfl) rfl (by kernel_rfl) (fun K hK => ?_)
      go_simp
      refine hK.out _ _ ?_
      clear hK K
      try simp only [Exit.then]
      try simp only [Act.put, List.setIfInBounds_toArray, List.set_cons_succ, List.set_cons_zero]
      have B9 := Lib.hid (B.out.trans (b9'.mono hz))
      have O9 := O.out.grow b9'
      obtain ⟨gw, cw, ew, -, -, -, -, -, st⟩ := O9.set2 (j + 1) (by rw [ml]; omega) (r1, r2)
      simp only [Value.slice.injEq, Option.some.injEq, Addr.mk.injEq, and_true] at ew
      obtain ⟨rfl, -, -⟩ := ew
      have SO := Lib.hid st
      have BS := Lib.hid (set_own (i := (j + 1) * 2) (x := r1) (y := r2) B9.out v3)
      clear st O9 b9 b9' hHeld mkS
      try go_wp2_with fail
      go_roundg (gk - 1)
      case measure => have := K.out; omega
      case rel =>
        refine ⟨j + 2, by go_num, by have := K.out; omega, by omega, by omega, ?_, BS.out⟩
        have e := mix_next (A := fwL l s) (B := l) (k := j + 1) FL.out rfl hlt
        rw [RW.out] at e
        rw [← e]
        exact SO.out
    · obtain rfl : i = l.length := by omega
      have OF : Hid (Own WT wr w.heap.size (.slice (some ⟨gv, 0, none⟩) l.length cv) (mixW (fwL l s) (tiL l s) (l.length - 1))) := Lib.hid (by rw [mix_turn W.out]; have := O.out; rwa [mix_full _ _ FL.out rfl] at this)
      have wn : IntKind.i64.wrap ((l.length : Int) - 2) = (l.length : Int) - 2 := IntWalk.i64_in _ (by omega)
      obtain ⟨wb, hwb⟩ : ∃ x, x = wr := ⟨wr, rfl⟩
      have BF := Lib.hid B.out
      rw [← hwb] at OF BF
      clear O B K hi1 hin
      go_wp2_with fail
      go_loopg [8] l.length (fun k x wr => ∃ (q : Nat) (xi : Int), x = .int .i64 xi ∧ xi = (q : Int) - 1 ∧ q < k ∧ q + 1 ≤ l.length ∧ Own WT wr w.heap.size (.slice (some ⟨gv, 0, none⟩) l.length cv) (mixW (fwL l s) (tiL l s) q) ∧ Below w.heap.size w wr)
      case atStart => exact ⟨l.length - 1, (l.length : Int) - 2, by rfl, by omega, by omega, by omega, by rw [← hwb]; exact OF.out, by rw [← hwb]; exact BF.out⟩
      case round =>
        clear hwb OF BF hlt wn
        obtain ⟨q, xi, rfl, hxi, hk, hqn, ho, hb⟩ := hrel
        have K := Lib.hid hk; have O := Lib.hid ho; have B := Lib.hid hb
        clear hk ho hb
        cases q with
        | succ j =>
          obtain rfl : xi = (j : Int) := by omega
          clear hxi
          have hlt : j + 1 < l.length := by omega
          have ml := mix_len (A := fwL l s) (B := tiL l s) (k := j + 1) FL.out TL.out (by omega)
          obtain ⟨gv', cv', e', -, -, -, gl, hp⟩ := O.out.at (by omega)
          simp only [Value.slice.injEq, Option.some.injEq, Addr.mk.injEq, and_true] at e'
          obtain ⟨rfl, -, rfl⟩ := e'
          have p1 := hp (j + 1) (by omega)
          have p0 := hp j (by omega)
          rw [mix_ge FL.out TL.out (by omega) (Nat.le_refl _), tiL_get] at p1
          rw [mix_lt FL.out TL.out (by omega) (by omega), fwL_get] at p0
          obtain ⟨gs, os, cs, es, _, _⟩ := H'.out.known (by omega)
          simp only [Value.slice.injEq, true_and] at es
          obtain ⟨rfl, rfl⟩ := es
          obtain ⟨d4, d5⟩ := H'.out.cells j (by omega)
          have c4 := (B.out.cell (cell_below d4)).trans d4
          have c5 := (B.out.cell (cell_below d5)).trans d5
          have bx := fw_bd W.out j (by omega); have by0 := ti_bd W.out (l.length - 1 - (j + 1)) (j + 1) (by omega); have bz := W.out.oks j hlt
          have fx := tiW_next (l := l) (s := s) (i := j) hlt
          rw [gW_get (show j < s.length by omega)] at bz fx
          obtain ⟨x, hx⟩ : ∃ x, fwW l s j = x := ⟨_, rfl⟩
          obtain ⟨y, hy⟩ : ∃ y, tiW l s (j + 1) = y := ⟨_, rfl⟩
          obtain ⟨z, hz0⟩ : ∃ z, s[j]'(by omega) = z := ⟨_, rfl⟩
          obtain ⟨r, hr⟩ : ∃ r, tiW l s j = r := ⟨_, rfl⟩
          rw [hx] at p0 bx fx
          rw [hy] at p1 by0 fx
          rw [hz0] at c4 c5 bz fx
          rw [hr] at fx
          have RW : Hid ((tiL l s)[j]'(by rw [TL.out]; omega) = r) := Lib.hid (by rw [tiL_get]; exact hr)
          clear hx hy hz0 hr
          obtain ⟨x1, x2⟩ := x; obtain ⟨y1, y2⟩ := y; obtain ⟨z1, z2⟩ := z; obtain ⟨r1, r2⟩ := r
          have FX := Lib.hid fx.symm
          simp only at p0 p1 c4 c5 bx by0 bz
          clear fx
          have js0 : (0 : Int) ≤ (j : Int) := by omega
          have js1 : (j : Int) < (s.length : Int) := by omega
          have jl1 : (j : Int) < (l.length : Int) := by omega
          have jl2 : (j : Int) + 1 < (l.length : Int) := by omega
          have js2 : (0 : Int) ≤ (j : Int) + 1 := by omega
          have jt : ((j : Int) + 1).toNat = j + 1 := by omega
          have s1 : IntKind.i64.wrap ((j : Int) + 1) = (j : Int) + 1 := IntWalk.i64_in _ (by omega)
          have s3 : IntKind.i64.wrap (y1 - z2) = y1 - z2 := IntWalk.i64_in _ (by omega)
          have s4 : IntKind.i64.wrap (y2 - z1) = y2 - z1 := IntWalk.i64_in _ (by omega)
          have C4 := Lib.hid c4; have C5 := Lib.hid c5
          have C0 := Lib.hid p0.top; have C1 := Lib.hid p0.bot; have C2 := Lib.hid p1.top; have C3 := Lib.hid p1.bot; have F0 := Lib.hid p0.f0; have F1 := Lib.hid p0.f1
          have mkS : ∀ w' : World, Below wr.heap.size wr w' → (Below wr.heap.size wr w' ∧ w'.cell? ⟨gv, j * 2, none⟩ = some (.int .i64 x1) ∧ w'.cell? ⟨gv, j * 2 + 1, none⟩ = some (.int .i64 x2) ∧ w'.cell? ⟨gv, (j + 1) * 2, none⟩ = some (.int .i64 y1) ∧ w'.cell? ⟨gv, (j + 1) * 2 + 1, none⟩ = some (.int .i64 y2) ∧ w'.cell? ⟨gs, os + j * 2, none⟩ = some (.int .i64 z1) ∧ w'.cell? ⟨gs, os + j * 2 + 1, none⟩ = some (.int .i64 z2) ∧ w'.frozen? ⟨gv, j * 2, none⟩ = false ∧ w'.frozen? ⟨gv, j * 2 + 1, none⟩ = false) := fun w' b => ⟨b, (b.cell gl).trans C0.out, (b.cell gl).trans C1.out, (b.cell gl).trans C2.out, (b.cell gl).trans C3.out, (b.cell (cell_below C4.out)).trans C4.out, (b.cell (cell_below C5.out)).trans C5.out, (b.frozen gl).trans F0.out, (b.frozen gl).trans F1.out⟩
          have hz := B.out.size
          clear c4 c5 d4 d5 p0 p1 hp
          go_wp2_with fail
          refine calm_region 32 (fun w' => (Below wr.heap.size wr w' ∧ w'.cell? ⟨gv, j * 2, none⟩ = some (.int .i64 x1) ∧ w'.cell? ⟨gv, j * 2 + 1, none⟩ = some (.int .i64 x2) ∧ w'.cell? ⟨gv, (j + 1) * 2, none⟩ = some (.int .i64 y1) ∧ w'.cell? ⟨gv, (j + 1) * 2 + 1, none⟩ = some (.int .i64 y2) ∧ w'.cell? ⟨gs, os + j * 2, none⟩ = some (.int .i64 z1) ∧ w'.cell? ⟨gs, os + j * 2 + 1, none⟩ = some (.int .i64 z2) ∧ w'.frozen? ⟨gv, j * 2, none⟩ = false ∧ w'.frozen? ⟨gv, j * 2 + 1, none⟩ = false)) (by kernel_rfl) (by exact mkS _ (Below.refl _ _).drew) (fun hHeld => ?_)
          refine take_l 0 65 rfl rfl (by kernel_rfl) (by kernel_rfl) (by kernel_rfl) (by kernel_rfl) (fun _ _ _ h => h) (by kernel_rfl) (by intro w hSw; (try dsimp only at hSw); go_simp; try with_reducible rfl) (by assumption) ?_
          refine take_l 1 66 rfl rfl (by kernel_rfl) (by kernel_rfl) (by kernel_rfl) (by kernel_rfl) (fun _ _ _ h => h) (by kernel_rfl) (by intro w hSw; (try dsimp only at hSw); go_simp; try with_reducible rfl) (by assumption) ?_
          refine take_l 2 67 rfl rfl (by kernel_rfl) (by kernel_rfl) (by kernel_rfl) (by kernel_rfl) (fun _ _ _ h => h) (by kernel_rfl) (by intro w hSw; (try dsimp only at hSw); go_simp; try with_reducible rfl) (by assumption) ?_
          refine take_l 3 68 rfl rfl (by kernel_rfl) (by kernel_rfl) (by kernel_rfl) (by kernel_rfl) (fun _ _ _ h => h) (by kernel_rfl) (by intro w hSw; (try dsimp only at hSw); go_simp; try with_reducible rfl) (by assumption) ?_
          refine take_l 4 69 rfl rfl (by kernel_rfl) (by kernel_rfl) (by kernel_rfl) (by kernel_rfl) (fun _ _ _ h => h) (by kernel_rfl) (by intro w hSw; (try dsimp only at hSw); go_simp; try with_reducible rfl) (by assumption) ?_
          refine take_l 5 70 rfl rfl (by kernel_rfl) (by kernel_rfl) (by kernel_rfl) (by kernel_rfl) (fun _ _ _ h => h) (by kernel_rfl) (by intro w hSw; (try dsimp only at hSw); go_simp; try with_reducible rfl) (by assumption) ?_
          refine take_l 6 71 rfl rfl (by kernel_rfl) (by kernel_rfl) (by kernel_rfl) (by kernel_rfl) (fun _ _ _ h => h) (by kernel_rfl) (by intro w hSw; (try dsimp only at hSw); go_simp; try with_reducible rfl) (by assumption) ?_
          refine take_l 7 72 rfl rfl (by kernel_rfl) (by kernel_rfl) (by kernel_rfl) (by kernel_rfl) (fun _ _ _ h => h) (by kernel_rfl) (by intro w hSw; (try dsimp only at hSw); go_simp; try with_reducible rfl) (by assumption) ?_
          refine take_l 8 73 rfl rfl (by kernel_rfl) (by kernel_rfl) (by kernel_rfl) (by kernel_rfl) (fun _ _ _ h => h) (by kernel_rfl) (by intro w hSw; (try dsimp only at hSw); go_simp; try with_reducible rfl) (by assumption) ?_
          refine take_l 9 74 rfl rfl (by kernel_rfl) (by kernel_rfl) (by kernel_rfl) (by kernel_rfl) (fun _ _ _ h => h) (by kernel_rfl) (by intro w hSw; (try dsimp only at hSw); go_simp; try with_reducible rfl) (by assumption) ?_
          refine take_l 10 75 rfl rfl (by kernel_rfl) (by kernel_rfl) (by kernel_rfl) (by kernel_rfl) (fun _ _ _ h => h) (by kernel_rfl) (by intro w hSw; (try dsimp only at hSw); go_simp; try with_reducible rfl) (by assumption) ?_
          refine take_l 11 76 rfl rfl (by kernel_rfl) (by kernel_rfl) (by kernel_rfl) (by kernel_rfl) (fun _ _ _ h => h) (by kernel_rfl) (by intro w hSw; (try dsimp only at hSw); go_simp; try with_reducible rfl) (by assumption) ?_
          refine take_l 12 77 rfl rfl (by kernel_rfl) (by kernel_rfl) (by kernel_rfl) (by kernel_rfl) (fun _ _ _ h => h) (by kernel_rfl) (by intro w hSw; (try dsimp only at hSw); go_simp; try with_reducible rfl) (by assumption) ?_
          refine take_l 13 78 rfl rfl (by kernel_rfl) (by kernel_rfl) (by kernel_rfl) (by kernel_rfl) (fun _ _ _ h => h) (by kernel_rfl) (by intro w hSw; (try dsimp only at hSw); go_simp; try with_reducible rfl) (by assumption) ?_
          refine take_l 14 79 rfl rfl (by kernel_rfl) (by kernel_rfl) (by kernel_rfl) (by kernel_rfl) (fun _ _ _ h => h) (by kernel_rfl) (by intro w hSw; (try dsimp only at hSw); go_simp; try with_reducible rfl) (by assumption) ?_
          refine take_l 15 80 rfl rfl (by kernel_rfl) (by kernel_rfl) (by kernel_rfl) (by kernel_rfl) (fun _ _ _ h => h) (by kernel_rfl) (by intro w hSw; (try dsimp only at hSw); go_simp; try with_reducible rfl) (by assumption) ?_
          refine take_l 16 81 rfl rfl (by kernel_rfl) (by kernel_rfl) (by kernel_rfl) (by kernel_rfl) (fun _ _ _ h => h) (by kernel_rfl) (by intro w hSw; (try dsimp only at hSw); go_simp; try with_reducible rfl) (by assumption) ?_
          refine take_l 17 82 rfl rfl (by kernel_rfl) (by kernel_rfl) (by kernel_rfl) (by kernel_rfl) (fun _ _ _ h => h) (by kernel_rfl) (by intro w hSw; (try dsimp only at hSw); go_simp; try with_reducible rfl) (by assumption) ?_
          refine take_l 18 83 rfl rfl (by kernel_rfl) (by kernel_rfl) (by kernel_rfl) (by kernel_rfl) (fun _ _ _ h => h) (by kernel_rfl) (by intro w hSw; (try dsimp only at hSw); go_simp; try with_reducible rfl) (by assumption) ?_
          refine take_l 19 84 rfl rfl (by kernel_rfl) (by kernel_rfl) (by kernel_rfl) (by kernel_rfl) (fun _ _ _ h => h) (by kernel_rfl) (by intro w hSw; (try dsimp only at hSw); go_simp; try with_reducible rfl) (by assumption) ?_
          refine take_l 20 85 rfl rfl (by kernel_rfl) (by kernel_rfl) (by kernel_rfl) (by kernel_rfl) (fun _ _ _ h => h) (by kernel_rfl) (by intro w hSw; (try dsimp only at hSw); go_simp; try with_reducible rfl) (by assumption) ?_
          refine take_l 21 86 rfl rfl (by kernel_rfl) (by kernel_rfl) (by kernel_rfl) (by kernel_rfl) (fun _ _ _ h => h) (by kernel_rfl) (by intro w hSw; (try dsimp only at hSw); go_simp; try with_reducible rfl) (by assumption) ?_
          refine take_l 22 87 rfl rfl (by kernel_rfl) (by kernel_rfl) (by kernel_rfl) (by kernel_rfl) (fun _ _ _ h => h) (by kernel_rfl) (by intro w hSw; (try dsimp only at hSw); go_simp; try with_reducible rfl) (by assumption) ?_
          refine take_l 23 88 rfl rfl (by kernel_rfl) (by kernel_rfl) (by kernel_rfl) (by kernel_rfl) (fun _ _ _ h => h) (by kernel_rfl) (by intro w hSw; (try dsimp only at hSw); go_simp; try with_reducible rfl) (by assumption) ?_
          refine take_l 24 89 rfl rfl (by kernel_rfl) (by kernel_rfl) (by kernel_rfl) (by kernel_rfl) (fun _ _ _ h => h) (by kernel_rfl) (by intro w hSw; (try dsimp only at hSw); go_simp; try with_reducible rfl) (by assumption) ?_
          refine take_l 25 90 rfl rfl (by kernel_rfl) (by kernel_rfl) (by kernel_rfl) (by kernel_rfl) (fun _ _ _ h => h) (by kernel_rfl) (by intro w hSw; (try dsimp only at hSw); go_simp; try with_reducible rfl) (by assumption) ?_
          refine take_l 26 91 rfl rfl (by kernel_rfl) (by kernel_rfl) (by kernel_rfl) (by kernel_rfl) (fun _ _ _ h => h) (by kernel_rfl) (by intro w hSw; (try dsimp only at hSw); go_simp; try with_reducible rfl) (by assumption) ?_
          refine take_l 27 92 rfl rfl (by kernel_rfl) (by kernel_rfl) (by kernel_rfl) (by kernel_rfl) (fun _ _ _ h => h) (by kernel_rfl) (by intro w hSw; (try dsimp only at hSw); go_simp; try with_reducible rfl) (by assumption) ?_
          refine take_l 28 93 rfl rfl (by kernel_rfl) (by kernel_rfl) (by kernel_rfl) (by kernel_rfl) (fun _ _ _ h => h) (by kernel_rfl) (by intro w hSw; (try dsimp only at hSw); go_simp; try with_reducible rfl) (by assumption) ?_
          refine take_l 29 94 rfl rfl (by kernel_rfl) (by kernel_rfl) (by kernel_rfl) (by kernel_rfl) (fun _ _ _ h => h) (by kernel_rfl) (by intro w hSw; (try dsimp only at hSw); go_simp; try with_reducible rfl) (by assumption) ?_
          refine step_l 30 (by kernel_rfl) rfl (fun K hK => ?_)
          go_simp
          go_wp2_with ((go_at_call 36; refine (both_is FX.out _).mono ?_; rintro e w9 ⟨rfl, b9⟩; have b9' := Below.trans hHeld.1 (b9.mono hHeld.1.size)))
          refine hK.out _ _ (by (try dsimp only); exact mkS _ b9') (fun hHeld => ?_)
          clear hK K
          refine step_l 31 (by kernel_rfl) rfl (fun K hK => ?_)
          go_simp
          refine hK.out _ _ hHeld (fun hHeld => ?_)
          clear hK K
          refine last_l (by kernel_rfl) rfl (by kernel_rfl) (fun K hK => ?_)
          go_simp
          refine hK.out _ _ ?_
          clear hK K
          try simp only [Exit.then]
          try simp only [Act.put, List.setIfInBounds_toArray, List.set_cons_succ, List.set_cons_zero]
          have B9 := Lib.hid (B.out.trans (b9'.mono hz))
          have O9 := O.out.grow b9'
          obtain ⟨gw, cw, ew, -, -, -, -, -, st⟩ := O9.set2 j (by rw [ml]; omega) (r1, r2)
          simp only [Value.slice.injEq, Option.some.injEq, Addr.mk.injEq, and_true] at ew
          obtain ⟨rfl, -, -⟩ := ew
          have SO := Lib.hid st
          have BS := Lib.hid (set_own (i := j * 2) (x := r1) (y := r2) B9.out v3)
          clear st O9 b9 b9' hHeld mkS
          try go_wp2_with fail
          go_roundg (gk - 1)
          case measure => have := K.out; omega
          case rel =>
            refine ⟨j, (j : Int) - 1, by go_num, rfl, by have := K.out; omega, by omega, ?_, BS.out⟩
            have e := mix_prev (A := fwL l s) (B := tiL l s) (k := j) FL.out TL.out (by omega)
            rw [RW.out] at e
            rw [← e]
            exact SO.out
        | zero =>
          have hx1 : xi = -1 := by omega
          subst hx1
          have OT : Hid (Own WT wr w.heap.size (.slice (some ⟨gv, 0, none⟩) l.length cv) (tiL l s)) := Lib.hid O.out
          obtain ⟨wb, hwb⟩ : ∃ x, x = wr := ⟨wr, rfl⟩
          have BF := Lib.hid B.out
          rw [← hwb] at OT BF
          clear O B K hxi hqn
          go_wp2_with fail
          go_loopg [9] l.length (fun k x wr => ∃ j : Nat, x = .int .i64 j ∧ j + k = l.length ∧ goodW ((tiL l s).take j) = true ∧ Below wb.heap.size wb wr)
          case atStart => exact ⟨0, rfl, by omega, rfl, by rw [hwb]; exact Below.refl _ _⟩
          case round =>
            clear hwb
            obtain ⟨j, rfl, hk, hg, hb⟩ := hrel
            have K := Lib.hid hk; have G := Lib.hid hg; have B := Lib.hid hb
            have BW := Lib.hid (BF.out.trans (B.out.mono BF.out.size))
            have OW := Lib.hid (OT.out.grow B.out)
            have hjl : j ≤ l.length := by omega
            clear hk hg hb
            by_cases hlt : j < l.length
            · obtain ⟨gv', cv', e', -, -, -, gl, hp⟩ := OW.out.at (by rw [TL.out]; omega)
              simp only [Value.slice.injEq, Option.some.injEq, Addr.mk.injEq, and_true] at e'
              obtain ⟨rfl, -, rfl⟩ := e'
              have p0 := hp j (by rw [TL.out]; exact hlt)
              have js0 : (0 : Int) ≤ (j : Int) := by omega
              have jl1 : (j : Int) < (l.length : Int) := by omega
              have c0 := p0.top; have c1 := p0.bot
              have jt : j < (tiL l s).length := by rw [TL.out]; exact hlt
              obtain ⟨r, hr⟩ : ∃ r, (tiL l s)[j] = r := ⟨_, rfl⟩
              rw [hr] at c0 c1
              have HR := Lib.hid hr
              obtain ⟨r1, r2⟩ := r
              clear hp p0 hr
              by_cases hgt : r1 > r2
              · have R := Lib.hid (tight_bad (good_not jt (by rw [HR.out]; exact hgt)))
                have gt1 : r2 < r1 := hgt
                go_wp2_with fail
                go_quiet (fail)
                go_wp2_with fail
                go_ret2
                rw [R.out]
                have BN := below_drews BW.out nq
                exact ⟨_, rfl, (wl_new _ BN).out.1, (wl_new _ BN).out.2⟩
              · have G2 := Lib.hid (good_take jt G.out (by rw [HR.out]; simp only; omega))
                have gt1 : ¬ r2 < r1 := hgt
                go_wp2_with fail
                go_quiet (fail)
                go_wp2_with fail
                go_roundg (gk - 1)
                case measure => have := K.out; omega
                case rel => exact ⟨j + 1, by go_num, by have := K.out; omega, G2.out, below_drews B.out _⟩
            · have R : Hid (tightOf l s = some (tiL l s)) := Lib.hid (tight_good HW.out (by have := G.out; rwa [List.take_of_length_le (by rw [TL.out]; omega)] at this))
              have jl : ¬ (j : Int) < (l.length : Int) := by omega
              go_wp2_with fail
              go_ret2
              rw [R.out]
              exact ⟨_, rfl, OW.out, BW.out⟩
end Go.Proofs.YtanfalkpmmkklaaDoor
