/- The contract of the program's tightWindows: down by a loop, up by slices.Backward, and the error if a window is empty. -/
import Derived.Test.YtanfalkpmmkklaaDoorWinBack
import Derived.Test.YtanfalkpmmkklaaDoorWinSpec2
import Derived.Test.YtanfalkpmmkklaaDoorRound
import Derived.Test.YtanfalkpmmkklaaDoorSent
namespace Go.Proofs.YtanfalkpmmkklaaDoor
open Go Go.RowKit Go.Shelf
attribute [local go_sem] Oper.semAt_some

/-- A block of one cell. -/
def Boxed (w : World) (b : Nat) (t : TypeId) (x : Value) : Prop := w.heap[b]? = some (.cells #[x] t (0, 0))
theorem Boxed.lt {w : World} {b : Nat} {t : TypeId} {x : Value} (h : Boxed w b t x) : b < w.heap.size := (Array.getElem?_eq_some_iff.1 h).1
theorem Boxed.cell {w : World} {b : Nat} {t : TypeId} {x : Value} (h : Boxed w b t x) : w.cell? ⟨b, 0, none⟩ = some x := by
  unfold Boxed at h; simp [World.cell?, h]
theorem Boxed.grow {w w' : World} {b : Nat} {t : TypeId} {x : Value} (h : Boxed w b t x) (k : Below w.heap.size w w') : Boxed w' b t x := (k.block b h.lt).trans h
theorem Boxed.new (w : World) (t : TypeId) (x : Value) : Boxed (w.alloc (.cells #[x] t)) w.heap.size t x := World.alloc_heap_new w _
theorem Boxed.other {w w' : World} {b c : Nat} {t : TypeId} {x : Value} (h : Boxed w b t x) (k : Turned c w w') (hc : b ≠ c) : Boxed w' b t x := (k.block b hc).trans h
/-- Two cells of one block have turned. -/
theorem turned_two (W : World) (b i j : Nat) (x y : Value) : Turned b W ((W.setCell ⟨b, i, none⟩ x).setCell ⟨b, j, none⟩ y) :=
  have h := turned_set W b i x; have k := turned_set (W.setCell ⟨b, i, none⟩ x) b j y
  ⟨k.os.trans h.os, k.tape.trans h.tape, k.output.trans h.output, k.size.trans h.size, fun q hq => (k.block q hq).trans (h.block q hq)⟩
structure Boxed2 (w : World) (b : Nat) (z1 z2 : Int) (c : Nat) (y1 y2 : Int) : Prop where
  z1 : w.cell? ⟨b, 0, none⟩ = some (.int .i64 z1)
  z2 : w.cell? ⟨b, 1, none⟩ = some (.int .i64 z2)
  y1 : w.cell? ⟨c, 0, none⟩ = some (.int .i64 y1)
  y2 : w.cell? ⟨c, 1, none⟩ = some (.int .i64 y2)
theorem boxed2 (w : World) (z1 z2 y1 y2 : Int) : Boxed2 ((w.alloc (.cells #[.int .i64 z1, .int .i64 z2] WT)).alloc (.cells #[.int .i64 y1, .int .i64 y2] WT)) w.heap.size z1 z2 (w.heap.size + 1) y1 y2 := by
  have h := new_two w (.int .i64 z1) (.int .i64 z2) WT
  have k := new_two (w.alloc (.cells #[.int .i64 z1, .int .i64 z2] WT)) (.int .i64 y1) (.int .i64 y2) WT
  rw [World.size_alloc] at k
  rw [Addr.add_lit, Addr.add_lit] at h k
  have b : Below (w.alloc (.cells #[.int .i64 z1, .int .i64 z2] WT)).heap.size (w.alloc (.cells #[.int .i64 z1, .int .i64 z2] WT)) ((w.alloc (.cells #[.int .i64 z1, .int .i64 z2] WT)).alloc (.cells #[.int .i64 y1, .int .i64 y2] WT)) := (Below.refl _ _).alloc (Nat.le_refl _) _
  exact ⟨(b.cell (cell_below h.1)).trans h.1, (b.cell (cell_below h.2)).trans h.2, k.1, k.2⟩
theorem stable_own {lo M B g c n : Nat} {T : TypeId} {m : List Pc} (h : g < lo) : Stable lo M (fun W => Own T W B (.slice (some ⟨g, 0, none⟩) n c) m) := fun A _ ha hs =>
  ha.same fun b hb => by cases hb; exact hs.block _ (ha.lt g rfl).2 (.inl h)
def TightPost (w : World) (l s : List Pc) (ea : Addr) (e : Ending) (w' : World) : Prop := Below w.heap.size w w' ∧
  ((goodW (tiL l s) = true ∧ ∃ x, e = .returned (.tuple #[x, .nilIface]) ∧ Own WT w' w.heap.size x (tiL l s)) ∨
    (goodW (tiL l s) = false ∧ e = .returned (.tuple #[.slice none 0 0, .iface 85 (.pointer (some ea))])))
set_option maxRecDepth 100000 in
set_option maxHeartbeats 6400000 in
theorem tightW_any {w : World} {v u : Value} {l s : List Pc} (h : Row w v l) (k : Row w u s) (hw : isWin l s = true) {ea : Addr} (hE : w.cell? ⟨0, 0, none⟩ = some (.iface 85 (.pointer (some ea)))) :
    Calls Tryd.prog 31 #[v, u] w fun e w' => TightPost w l s ea e w' := by
  have HW := Lib.hid hw
  have W := Lib.hid (isWin_iff.1 hw)
  have n1 := W.out.one
  have n12 := W.out.most
  have sl := W.out.len
  obtain ⟨g, o, c, rfl, h1, h2⟩ := h.known (by omega)
  obtain ⟨a', c', rfl, k1, k2⟩ := k.len
  have H := Lib.hid h; have H' := Lib.hid k; have EE := Lib.hid hE
  unfold maxLen at h2 k2
  have FL := Lib.hid (fwL_length l s); have TL := Lib.hid (tiL_length l s)
  have HM := Lib.hid (mix_start W.out)
  clear h k hw hE
  refine (callsIn_wide (n := 9)).1 ?_
  refine callsIn_of_wp_marks Tryd.func31 rfl trivial ?_ rfl
  simp only [Tryd.ntmps31, List.size_toArray, List.length_cons, List.length_nil, Nat.reduceAdd, Nat.reduceSub, Array.replicate_succ, Array.replicate_zero, List.push_toArray, List.append_toArray, List.nil_append, List.cons_append]
  refine wpIn_mono (Q := calmPost _) ?_ calmPost_le
  refine wpIn_wide.2 ?_
  go_wp2_with fail
  refine (cloneW_any H.out (by omega)).mono ?_
  rintro e w1 ⟨x, rfl, o1, b1⟩
  obtain ⟨gv, cv, rfl, v1, v2, v3, v4, -⟩ := o1.at (by omega)
  have OM : Hid (Own WT w1 w.heap.size (.slice (some ⟨gv, 0, none⟩) l.length cv) (mixW (fwL l s) l 1)) := Lib.hid (by rw [HM.out]; exact o1)
  have B1 := Lib.hid b1
  unfold maxLen at v2
  clear o1 b1
  go_wp2_with fail
  have BX := Lib.hid ((Boxed.new w1 23 (.slice (some ⟨gv, 0, none⟩) l.length cv)))
  have OW := Lib.hid (OM.out.grow ((Below.refl w1.heap.size w1).alloc (Nat.le_refl _) (.cells #[.slice (some ⟨gv, 0, none⟩) l.length cv] 23)))
  have BW := Lib.hid (B1.out.alloc B1.out.size (.cells #[.slice (some ⟨gv, 0, none⟩) l.length cv] 23))
  obtain ⟨bx, hbx⟩ : ∃ b, w1.heap.size = b := ⟨_, rfl⟩
  have vb : gv < bx := by rw [← hbx]; exact v4
  have bw : w.heap.size ≤ bx := by rw [← hbx]; exact B1.out.size
  simp only [hbx] at BX ⊢
  go_loopg [17] s.length (fun k x wr => ∃ i : Nat, x = .int .i64 i ∧ i + k = s.length ∧ Own WT wr w.heap.size (.slice (some ⟨gv, 0, none⟩) l.length cv) (mixW (fwL l s) l (i + 1)) ∧ Boxed wr bx 23 (.slice (some ⟨gv, 0, none⟩) l.length cv) ∧ Below w.heap.size w wr)
  case atStart => exact ⟨0, rfl, by omega, OW.out, BX.out, BW.out⟩
  case round =>
    obtain ⟨j, rfl, hk, ho, hx, hb⟩ := hrel
    have K := Lib.hid hk; have O := Lib.hid ho; have X := Lib.hid hx; have B := Lib.hid hb
    clear hk ho hx hb OM OW BX BW hbx v4
    by_cases hlt : j < s.length
    · have hl1 : j + 1 < l.length := by omega
      have ml := mix_len (A := fwL l s) (B := l) (k := j + 1) FL.out rfl (by omega)
      obtain ⟨gv', cv', e', -, -, -, gl, hp⟩ := O.out.at (by omega)
      simp only [Value.slice.injEq, Option.some.injEq, Addr.mk.injEq, and_true] at e'
      obtain ⟨rfl, -, rfl⟩ := e'
      have p1 := hp (j + 1) (by omega)
      have p0 := hp j (by omega)
      rw [mix_ge FL.out rfl (by omega) (Nat.le_refl _)] at p1
      rw [mix_lt FL.out rfl (by omega) (by omega), fwL_get] at p0
      obtain ⟨gs, os, cs, es, _, _⟩ := H'.out.known (by omega)
      simp only [Value.slice.injEq, true_and] at es
      obtain ⟨rfl, rfl⟩ := es
      obtain ⟨d4, d5⟩ := H'.out.cells j hlt
      have c4 := (B.out.cell (cell_below d4)).trans d4
      have c5 := (B.out.cell (cell_below d5)).trans d5
      have bx1 := W.out.okl (j + 1) hl1; have by0 := fw_bd W.out j (by omega); have bz := W.out.oks j hl1
      have br := fw_bd W.out (j + 1) hl1
      have fx := fw_next (l := l) (s := s) (i := j)
      rw [gW_get hl1] at bx1 fx
      rw [gW_get (show j < s.length by omega)] at bz fx
      obtain ⟨x, hx⟩ : ∃ x, l[j + 1] = x := ⟨_, rfl⟩
      obtain ⟨y, hy⟩ : ∃ y, fwW l s j = y := ⟨_, rfl⟩
      obtain ⟨z, hz0⟩ : ∃ z, s[j] = z := ⟨_, rfl⟩
      obtain ⟨r, hr⟩ : ∃ r, fwW l s (j + 1) = r := ⟨_, rfl⟩
      rw [hx] at p1 bx1 fx
      rw [hy] at p0 by0 fx
      rw [hz0] at c4 c5 bz fx
      rw [hr] at br fx
      have RW : Hid ((fwL l s)[j + 1]'(by rw [FL.out]; exact hl1) = r) := Lib.hid (by rw [fwL_get]; exact hr)
      clear hx hy hz0 hr
      obtain ⟨x1, x2⟩ := x; obtain ⟨y1, y2⟩ := y; obtain ⟨z1, z2⟩ := z; obtain ⟨r1, r2⟩ := r
      have FX : Hid (bothW (x1, x2) (y1 + z1, y2 + z2).1 (y1 + z1, y2 + z2).2 = (r1, r2)) := Lib.hid fx.symm
      simp only at p0 p1 c4 c5 bx1 by0 bz br
      clear fx
      have js0 : (0 : Int) ≤ (j : Int) := by omega
      have js1 : (j : Int) < (s.length : Int) := by omega
      have jl1 : (j : Int) < (l.length : Int) := by omega
      have jl2 : (j : Int) + 1 < (l.length : Int) := by omega
      have js2 : (0 : Int) ≤ (j : Int) + 1 := by omega
      have jt : ((j : Int) + 1).toNat = j + 1 := by omega
      have s2 : IntKind.i64.wrap ((j : Int) + 1) = (j : Int) + 1 := IntWalk.i64_in _ (by omega)
      have s3 : IntKind.i64.wrap (y1 + z1) = y1 + z1 := IntWalk.i64_in _ (by omega)
      have s4 : IntKind.i64.wrap (y2 + z2) = y2 + z2 := IntWalk.i64_in _ (by omega)
      have xb := X.out.cell
      have t0 := p0.top; have t1 := p0.bot
      have P1 := Lib.hid p1
      have hz := B.out.size
      have hxl := X.out.lt
      clear d4 d5 p0 p1 hp
      go_upto_region 6 with fail
      have PA : Hid (Boxed2 ((wr.alloc (.cells #[.int .i64 z1, .int .i64 z2] WT)).alloc (.cells #[.int .i64 y1, .int .i64 y2] WT)) wr.heap.size z1 z2 (wr.heap.size + 1) y1 y2) := Lib.hid (boxed2 _ _ _ _ _)
      obtain ⟨w6, hw6⟩ : ∃ w6, (wr.alloc (.cells #[.int .i64 z1, .int .i64 z2] WT)).alloc (.cells #[.int .i64 y1, .int .i64 y2] WT) = w6 := ⟨_, rfl⟩
      have b6 : Below wr.heap.size wr w6 := by rw [← hw6]; exact ((Below.refl _ _).alloc (Nat.le_refl _) _).alloc (by simp) _
      rw [hw6] at PA
      rw [hw6]
      obtain ⟨ps, hps⟩ : ∃ b, wr.heap.size = b := ⟨_, rfl⟩
      obtain ⟨pa, hpa⟩ : ∃ b, ps + 1 = b := ⟨_, rfl⟩
      have z6 : wr.heap.size ≤ w6.heap.size := b6.size
      have q1 := (b6.cell (p := ⟨bx, 0, none⟩) hxl).trans xb
      have q2 := (b6.cell (p := ⟨gv, (j + 1) * 2, none⟩) gl).trans P1.out.top
      have q3 := (b6.cell (p := ⟨gv, (j + 1) * 2 + 1, none⟩) gl).trans P1.out.bot
      have q8 := (b6.frozen (p := ⟨gv, (j + 1) * 2, none⟩) gl).trans P1.out.f0
      have q9 := (b6.frozen (p := ⟨gv, (j + 1) * 2 + 1, none⟩) gl).trans P1.out.f1
      have gl6 : gv < w6.heap.size := by omega
      have B6 := Lib.hid (B.out.trans (b6.mono hz)); have O6 := Lib.hid (O.out.grow b6); have X6 := Lib.hid (X.out.grow b6)
      simp only [hps, hpa] at PA ⊢
      have q4 := PA.out.y1; have q5 := PA.out.y2; have q6 := PA.out.z1; have q7 := PA.out.z2
      clear hps hpa hw6 b6 PA xb t0 t1 c4 c5 P1 O X B
      have mkS : ∀ w' : World, Below w6.heap.size w6 w' → (fun w' => (Below w6.heap.size w6 w' ∧ w'.cell? ⟨bx, 0, none⟩ = some (.slice (some ⟨gv, 0, none⟩) l.length cv) ∧ w'.cell? ⟨gv, (j + 1) * 2, none⟩ = some (.int .i64 x1) ∧ w'.cell? ⟨gv, (j + 1) * 2 + 1, none⟩ = some (.int .i64 x2) ∧ w'.cell? ⟨pa, 0, none⟩ = some (.int .i64 y1) ∧ w'.cell? ⟨pa, 1, none⟩ = some (.int .i64 y2) ∧ w'.cell? ⟨ps, 0, none⟩ = some (.int .i64 z1) ∧ w'.cell? ⟨ps, 1, none⟩ = some (.int .i64 z2) ∧ w'.frozen? ⟨gv, (j + 1) * 2, none⟩ = false ∧ w'.frozen? ⟨gv, (j + 1) * 2 + 1, none⟩ = false)) w' := fun w' b => ⟨b, (b.cell (cell_below q1)).trans q1, (b.cell (cell_below q2)).trans q2, (b.cell (cell_below q3)).trans q3, (b.cell (cell_below q4)).trans q4, (b.cell (cell_below q5)).trans q5, (b.cell (cell_below q6)).trans q6, (b.cell (cell_below q7)).trans q7, (b.frozen gl6).trans q8, (b.frozen gl6).trans q9⟩
      refine calm_region 21 (fun w' => (Below w6.heap.size w6 w' ∧ w'.cell? ⟨bx, 0, none⟩ = some (.slice (some ⟨gv, 0, none⟩) l.length cv) ∧ w'.cell? ⟨gv, (j + 1) * 2, none⟩ = some (.int .i64 x1) ∧ w'.cell? ⟨gv, (j + 1) * 2 + 1, none⟩ = some (.int .i64 x2) ∧ w'.cell? ⟨pa, 0, none⟩ = some (.int .i64 y1) ∧ w'.cell? ⟨pa, 1, none⟩ = some (.int .i64 y2) ∧ w'.cell? ⟨ps, 0, none⟩ = some (.int .i64 z1) ∧ w'.cell? ⟨ps, 1, none⟩ = some (.int .i64 z2) ∧ w'.frozen? ⟨gv, (j + 1) * 2, none⟩ = false ∧ w'.frozen? ⟨gv, (j + 1) * 2 + 1, none⟩ = false)) (by kernel_rfl) (by exact mkS _ (Below.refl _ _).drew) (fun hHeld => ?_)
      refine take_l 0 26 rfl rfl (by kernel_rfl) (by kernel_rfl) (by kernel_rfl) (by kernel_rfl) (fun _ _ _ h => h) (by kernel_rfl) (by intro w hSw; (try dsimp only at hSw); go_simp; try with_reducible rfl) (by assumption) ?_
      refine take_l 1 27 rfl rfl (by kernel_rfl) (by kernel_rfl) (by kernel_rfl) (by kernel_rfl) (fun _ _ _ h => h) (by kernel_rfl) (by intro w hSw; (try dsimp only at hSw); go_simp; try with_reducible rfl) (by assumption) ?_
      refine take_l 2 28 rfl rfl (by kernel_rfl) (by kernel_rfl) (by kernel_rfl) (by kernel_rfl) (fun _ _ _ h => h) (by kernel_rfl) (by intro w hSw; (try dsimp only at hSw); go_simp; try with_reducible rfl) (by assumption) ?_
      refine take_l 3 29 rfl rfl (by kernel_rfl) (by kernel_rfl) (by kernel_rfl) (by kernel_rfl) (fun _ _ _ h => h) (by kernel_rfl) (by intro w hSw; (try dsimp only at hSw); go_simp; try with_reducible rfl) (by assumption) ?_
      refine take_l 4 30 rfl rfl (by kernel_rfl) (by kernel_rfl) (by kernel_rfl) (by kernel_rfl) (fun _ _ _ h => h) (by kernel_rfl) (by intro w hSw; (try dsimp only at hSw); go_simp; try with_reducible rfl) (by assumption) ?_
      refine take_l 5 31 rfl rfl (by kernel_rfl) (by kernel_rfl) (by kernel_rfl) (by kernel_rfl) (fun _ _ _ h => h) (by kernel_rfl) (by intro w hSw; (try dsimp only at hSw); go_simp; try with_reducible rfl) (by assumption) ?_
      refine take_l 6 32 rfl rfl (by kernel_rfl) (by kernel_rfl) (by kernel_rfl) (by kernel_rfl) (fun _ _ _ h => h) (by kernel_rfl) (by intro w hSw; (try dsimp only at hSw); go_simp; try with_reducible rfl) (by assumption) ?_
      refine take_l 7 33 rfl rfl (by kernel_rfl) (by kernel_rfl) (by kernel_rfl) (by kernel_rfl) (fun _ _ _ h => h) (by kernel_rfl) (by intro w hSw; (try dsimp only at hSw); go_simp; try with_reducible rfl) (by assumption) ?_
      refine take_l 8 34 rfl rfl (by kernel_rfl) (by kernel_rfl) (by kernel_rfl) (by kernel_rfl) (fun _ _ _ h => h) (by kernel_rfl) (by intro w hSw; (try dsimp only at hSw); go_simp; try with_reducible rfl) (by assumption) ?_
      refine take_l 9 35 rfl rfl (by kernel_rfl) (by kernel_rfl) (by kernel_rfl) (by kernel_rfl) (fun _ _ _ h => h) (by kernel_rfl) (by intro w hSw; (try dsimp only at hSw); go_simp; try with_reducible rfl) (by assumption) ?_
      refine take_l 10 36 rfl rfl (by kernel_rfl) (by kernel_rfl) (by kernel_rfl) (by kernel_rfl) (fun _ _ _ h => h) (by kernel_rfl) (by intro w hSw; (try dsimp only at hSw); go_simp; try with_reducible rfl) (by assumption) ?_
      refine take_l 11 37 rfl rfl (by kernel_rfl) (by kernel_rfl) (by kernel_rfl) (by kernel_rfl) (fun _ _ _ h => h) (by kernel_rfl) (by intro w hSw; (try dsimp only at hSw); go_simp; try with_reducible rfl) (by assumption) ?_
      refine take_l 12 38 rfl rfl (by kernel_rfl) (by kernel_rfl) (by kernel_rfl) (by kernel_rfl) (fun _ _ _ h => h) (by kernel_rfl) (by intro w hSw; (try dsimp only at hSw); go_simp; try with_reducible rfl) (by assumption) ?_
      refine take_l 13 39 rfl rfl (by kernel_rfl) (by kernel_rfl) (by kernel_rfl) (by kernel_rfl) (fun _ _ _ h => h) (by kernel_rfl) (by intro w hSw; (try dsimp only at hSw); go_simp; try with_reducible rfl) (by assumption) ?_
      refine take_l 14 40 rfl rfl (by kernel_rfl) (by kernel_rfl) (by kernel_rfl) (by kernel_rfl) (fun _ _ _ h => h) (by kernel_rfl) (by intro w hSw; (try dsimp only at hSw); go_simp; try with_reducible rfl) (by assumption) ?_
      refine take_l 15 41 rfl rfl (by kernel_rfl) (by kernel_rfl) (by kernel_rfl) (by kernel_rfl) (fun _ _ _ h => h) (by kernel_rfl) (by intro w hSw; (try dsimp only at hSw); go_simp; try with_reducible rfl) (by assumption) ?_
      refine take_l 16 42 rfl rfl (by kernel_rfl) (by kernel_rfl) (by kernel_rfl) (by kernel_rfl) (fun _ _ _ h => h) (by kernel_rfl) (by intro w hSw; (try dsimp only at hSw); go_simp; try with_reducible rfl) (by assumption) ?_
      refine take_l 17 43 rfl rfl (by kernel_rfl) (by kernel_rfl) (by kernel_rfl) (by kernel_rfl) (fun _ _ _ h => h) (by kernel_rfl) (by intro w hSw; (try dsimp only at hSw); go_simp; try with_reducible rfl) (by assumption) ?_
      refine take_l 18 44 rfl rfl (by kernel_rfl) (by kernel_rfl) (by kernel_rfl) (by kernel_rfl) (fun _ _ _ h => h) (by kernel_rfl) (by intro w hSw; (try dsimp only at hSw); go_simp; try with_reducible rfl) (by assumption) ?_
      refine step_l 19 (by kernel_rfl) rfl (fun K hK => ?_)
      go_simp
      go_wp2_with ((go_at_call 41; refine (windowOfBoth_is FX.out _).mono ?_; rintro e w9 ⟨rfl, b9⟩; have b9' := Below.trans hHeld.1 (b9.mono hHeld.1.size)))
      refine hK.out _ _ (by (try dsimp only); exact mkS _ b9') (fun hHeld => ?_)
      clear hK K
      refine step_l 20 (by kernel_rfl) rfl (fun K hK => ?_)
      go_simp
      refine hK.out _ _ hHeld (fun hHeld => ?_)
      clear hK K
      refine last_l (by kernel_rfl) rfl (by kernel_rfl) (fun K hK => ?_)
      go_simp
      refine hK.out _ _ ?_
      clear hK K
      try simp only [Exit.then]
      try simp only [Act.put, List.setIfInBounds_toArray, List.set_cons_succ, List.set_cons_zero]
      have B9 := Lib.hid (B6.out.trans (b9'.mono B6.out.size))
      have O9 := O6.out.grow b9'
      have X9 := X6.out.grow b9'
      obtain ⟨gw, cw, ew, -, -, -, -, -, st⟩ := O9.set2 (j + 1) (by rw [ml]; omega) (r1, r2)
      simp only [Value.slice.injEq, Option.some.injEq, Addr.mk.injEq, and_true] at ew
      obtain ⟨rfl, -, -⟩ := ew
      have SO := Lib.hid st
      have BS := Lib.hid (set_own (i := (j + 1) * 2) (x := r1) (y := r2) B9.out v3)
      have XS := Lib.hid (X9.other (turned_two w9 gv ((j + 1) * 2) ((j + 1) * 2 + 1) (.int .i64 r1) (.int .i64 r2)) (by omega))
      clear st O9 X9 b9 b9' hHeld mkS q1 q2 q3 q4 q5 q6 q7 q8 q9
      try go_wp2_with fail
      go_roundg (gk - 1)
      case measure => have := K.out; omega
      case rel =>
        refine ⟨j + 1, by go_num, by have := K.out; omega, ?_, XS.out, BS.out⟩
        have e := mix_next (A := fwL l s) (B := l) (k := j + 1) FL.out rfl hl1
        rw [RW.out] at e
        rw [← e]
        exact SO.out
    · have hj : j = s.length := by have := K.out; omega
      subst hj
      have OF : Hid (Own WT wr w.heap.size (.slice (some ⟨gv, 0, none⟩) l.length cv) (mixW (fwL l s) (tiL l s) (l.length - 1))) := Lib.hid (by rw [mix_turn W.out]; have := O.out; rwa [sl, mix_full _ _ FL.out rfl] at this)
      have R9 := Lib.hid (H'.out.grow B.out)
      have zb := B.out.size; have gl : gv < wr.heap.size := (O.out.lt gv rfl).2; have xl := X.out.lt
      clear O K
      go_wp2_with fail
      refine (backward_any _ _ _ R9.out).mono ?_
      rintro e w2 ⟨rfl, hBs, hz2, b2⟩
      have B2 := Lib.hid (B.out.trans (b2.mono zb)); have O2 := Lib.hid (OF.out.grow b2); have X2 := Lib.hid (X.out.grow b2); have R2 := Lib.hid (R9.out.grow b2); have HB := Lib.hid hBs
      obtain ⟨Bs, hbs⟩ : ∃ b, wr.heap.size = b := ⟨_, rfl⟩
      rw [hbs] at HB hz2 zb gl xl
      simp only [hbs]
      clear hBs b2 OF R9 X B hbs
      go_wp2_with fail
      have IN : 0 < s.length → InG (fun j => j < w.heap.size ∨ j = Bs) (.slice a' s.length c') := fun h0 g9 o9 n9 c9 e9 => by
        simp only [Value.slice.injEq] at e9
        obtain ⟨rfl, rfl, rfl⟩ := e9
        exact .inl (cell_below (H'.out.cells 0 h0).1)
      refine (wpIn_wide (n := 9)).1 ?_
      refine range_law (w0 := w2) (G := fun j => j < w.heap.size ∨ j = Bs) (enc := encB) (xs := backL s) rfl (enters_of Tryd.func48 (by kernel_rfl) rfl) (seq_back Bs _ s w2 (by omega) HB.out R2.out (.inr rfl) IN) (Below.refl _ _) (fun _ => rfl) (fun j hj => by omega)
        (fun M k wr => (Own WT wr w.heap.size (.slice (some ⟨gv, 0, none⟩) l.length cv) (mixW (fwL l s) (tiL l s) (l.length - 1 - k)) ∧ Boxed wr bx 23 (.slice (some ⟨gv, 0, none⟩) l.length cv)) ∧ Below w.heap.size w wr)
        (fun _ _ => False)
        (fun M k => ((stable_own (by omega)).and (stable_obj _ _ _ _ (by omega))).and (stable_below (by omega) (Nat.le_refl _)))
        (fun M => fun _ _ h _ => h)
        (fun M hM => ⟨⟨O2.out, X2.out⟩, B2.out⟩) ?round ?done ?stop
      case round =>
        rintro M k hk wr hM hMW ⟨⟨ho, hx⟩, hb⟩
        have hk2 : k < s.length := by rwa [backL_length] at hk
        obtain ⟨j, hj⟩ : ∃ j, s.length - 1 - k = j := ⟨_, rfl⟩
        have hjs : j < s.length := by omega
        have ek : (backL s)[k] = (j, s[j]) := by rw [backL_get, hj, gW_get hjs]
        rw [ek]
        clear ho hx hb O2 X2 B2 R2 HB
        gi_wp2
        refine ⟨(Below.refl _ _).alloc (Nat.le_refl _) _, fun W₂ ht ⟨⟨ho, hx⟩, hb⟩ => ?_⟩
        have hsW : W₂.heap.size = wr.heap.size + 1 := by rw [ht.size]; simp
        have hjl : j + 1 < l.length := by omega
        have hmk : l.length - 1 - k = j + 1 := by omega
        have hmk2 : l.length - 1 - (k + 1) = j := by omega
        rw [hmk] at ho
        have O := Lib.hid ho; have X := Lib.hid hx; have B := Lib.hid hb
        have ml := mix_len (A := fwL l s) (B := tiL l s) (k := j + 1) FL.out TL.out (by omega)
        obtain ⟨gv', cv', e', -, -, -, gl, hp⟩ := ho.at (by omega)
        simp only [Value.slice.injEq, Option.some.injEq, Addr.mk.injEq, and_true] at e'
        obtain ⟨rfl, -, rfl⟩ := e'
        have p1 := hp (j + 1) (by omega)
        have p0 := hp j (by omega)
        rw [mix_ge FL.out TL.out (by omega) (Nat.le_refl _), tiL_get] at p1
        rw [mix_lt FL.out TL.out (by omega) (by omega), fwL_get] at p0
        have bx1 := fw_bd W.out j (by omega); have by0 := ti_bd W.out (l.length - 1 - (j + 1)) (j + 1) (by omega); have bz := W.out.oks j hjl
        have fx := tiW_next (l := l) (s := s) (i := j) hjl
        rw [gW_get hjs] at bz fx
        obtain ⟨x, hx9⟩ : ∃ x, fwW l s j = x := ⟨_, rfl⟩
        obtain ⟨y, hy⟩ : ∃ y, tiW l s (j + 1) = y := ⟨_, rfl⟩
        obtain ⟨z, hz0⟩ : ∃ z, s[j] = z := ⟨_, rfl⟩
        obtain ⟨r, hr⟩ : ∃ r, tiW l s j = r := ⟨_, rfl⟩
        rw [hx9] at p0 bx1 fx
        rw [hy] at p1 by0 fx
        rw [hz0] at bz fx
        simp only [hz0] at ht ⊢
        rw [hr] at fx
        have RW : Hid ((tiL l s)[j]'(by rw [TL.out]; omega) = r) := Lib.hid (by rw [tiL_get]; exact hr)
        clear hx9 hy hz0 hr
        obtain ⟨x1, x2⟩ := x; obtain ⟨y1, y2⟩ := y; obtain ⟨z1, z2⟩ := z; obtain ⟨r1, r2⟩ := r
        have FX : Hid (bothW (x1, x2) (y1 - z2, y2 - z1).1 (y1 - z2, y2 - z1).2 = (r1, r2)) := Lib.hid fx.symm
        simp only at p0 p1 bx1 by0 bz ht ⊢
        clear fx
        have n2 := new_two wr (.int .i64 z1) (.int .i64 z2) WT
        rw [Addr.add_lit, Addr.add_lit] at n2
        have q6 := (ht.cell (p := ⟨wr.heap.size, 0, none⟩) (by simp; omega)).trans n2.1
        have q7 := (ht.cell (p := ⟨wr.heap.size, 1, none⟩) (by simp; omega)).trans n2.2
        have js0 : (0 : Int) ≤ (j : Int) := by omega
        have jl1 : (j : Int) < (l.length : Int) := by omega
        have jl2 : (j : Int) + 1 < (l.length : Int) := by omega
        have js2 : (0 : Int) ≤ (j : Int) + 1 := by omega
        have jt : ((j : Int) + 1).toNat = j + 1 := by omega
        have s2 : IntKind.i64.wrap ((j : Int) + 1) = (j : Int) + 1 := IntWalk.i64_in _ (by omega)
        have s3 : IntKind.i64.wrap (y1 - z2) = y1 - z2 := IntWalk.i64_in _ (by omega)
        have s4 : IntKind.i64.wrap (y2 - z1) = y2 - z1 := IntWalk.i64_in _ (by omega)
        have xb := hx.cell
        have t0 := p1.top; have t1 := p1.bot
        have P0 := Lib.hid p0; have Q6 := Lib.hid q6; have Q7 := Lib.hid q7
        have hz := hb.size
        have hxl := hx.lt
        clear ho hx hb p0 p1 hp n2 q6 q7
        gi_wp2
        obtain ⟨w6, hw6⟩ : ∃ w6, W₂.alloc (.cells #[.int .i64 y1, .int .i64 y2] WT) = w6 := ⟨_, rfl⟩
        have b6 : Below W₂.heap.size W₂ w6 := by rw [← hw6]; exact (Below.refl _ _).alloc (Nat.le_refl _) _
        have n6 := new_two W₂ (.int .i64 y1) (.int .i64 y2) WT
        rw [Addr.add_lit, Addr.add_lit, hw6] at n6
        rw [hw6]
        obtain ⟨ps, hps⟩ : ∃ b, wr.heap.size = b := ⟨_, rfl⟩
        obtain ⟨pa, hpa⟩ : ∃ b, ps + 1 = b := ⟨_, rfl⟩
        have z6 : W₂.heap.size ≤ w6.heap.size := b6.size
        have q1 := (b6.cell (p := ⟨bx, 0, none⟩) hxl).trans xb
        have q2 := (b6.cell (p := ⟨gv, j * 2, none⟩) gl).trans P0.out.top
        have q3 := (b6.cell (p := ⟨gv, j * 2 + 1, none⟩) gl).trans P0.out.bot
        have q8 := (b6.frozen (p := ⟨gv, j * 2, none⟩) gl).trans P0.out.f0
        have q9 := (b6.frozen (p := ⟨gv, j * 2 + 1, none⟩) gl).trans P0.out.f1
        have q6 := (b6.cell (cell_below Q6.out)).trans Q6.out
        have q7 := (b6.cell (cell_below Q7.out)).trans Q7.out
        have q4 := n6.1; have q5 := n6.2
        have gl6 : gv < w6.heap.size := by omega
        have B6 := Lib.hid (B.out.trans (b6.mono hz)); have O6 := Lib.hid (O.out.grow b6); have X6 := Lib.hid (X.out.grow b6); have K6 := Lib.hid b6
        have ZP : Hid (wr.heap.size < w6.heap.size ∧ M ≤ W₂.heap.size ∧ Bs < W₂.heap.size) := Lib.hid (by omega)
        simp only [hsW, hps, hpa] at q4 q5
        simp only [hps] at q6 q7
        simp only [hps, hpa]
        clear hps hpa hw6 b6 n6 xb t0 t1 P0 Q6 Q7 O X B ht
        have mkS : ∀ w' : World, Below w6.heap.size w6 w' → (fun w' => (Below w6.heap.size w6 w' ∧ w'.cell? ⟨bx, 0, none⟩ = some (.slice (some ⟨gv, 0, none⟩) l.length cv) ∧ w'.cell? ⟨gv, j * 2, none⟩ = some (.int .i64 x1) ∧ w'.cell? ⟨gv, j * 2 + 1, none⟩ = some (.int .i64 x2) ∧ w'.cell? ⟨pa, 0, none⟩ = some (.int .i64 y1) ∧ w'.cell? ⟨pa, 1, none⟩ = some (.int .i64 y2) ∧ w'.cell? ⟨ps, 0, none⟩ = some (.int .i64 z1) ∧ w'.cell? ⟨ps, 1, none⟩ = some (.int .i64 z2) ∧ w'.frozen? ⟨gv, j * 2, none⟩ = false ∧ w'.frozen? ⟨gv, j * 2 + 1, none⟩ = false)) w' := fun w' b => ⟨b, (b.cell (cell_below q1)).trans q1, (b.cell (cell_below q2)).trans q2, (b.cell (cell_below q3)).trans q3, (b.cell (cell_below q4)).trans q4, (b.cell (cell_below q5)).trans q5, (b.cell (cell_below q6)).trans q6, (b.cell (cell_below q7)).trans q7, (b.frozen gl6).trans q8, (b.frozen gl6).trans q9⟩
        refine calm_round 19 (fun w' => (Below w6.heap.size w6 w' ∧ w'.cell? ⟨bx, 0, none⟩ = some (.slice (some ⟨gv, 0, none⟩) l.length cv) ∧ w'.cell? ⟨gv, j * 2, none⟩ = some (.int .i64 x1) ∧ w'.cell? ⟨gv, j * 2 + 1, none⟩ = some (.int .i64 x2) ∧ w'.cell? ⟨pa, 0, none⟩ = some (.int .i64 y1) ∧ w'.cell? ⟨pa, 1, none⟩ = some (.int .i64 y2) ∧ w'.cell? ⟨ps, 0, none⟩ = some (.int .i64 z1) ∧ w'.cell? ⟨ps, 1, none⟩ = some (.int .i64 z2) ∧ w'.frozen? ⟨gv, j * 2, none⟩ = false ∧ w'.frozen? ⟨gv, j * 2 + 1, none⟩ = false)) (by kernel_rfl) (by kernel_rfl) (fun ⟨_, _, h⟩ => h) (by exact mkS _ (Below.refl _ _).drew) (fun hHeld => ?_)
        refine take_l 0 57 rfl rfl (by kernel_rfl) (by kernel_rfl) (by kernel_rfl) (by kernel_rfl) (fun _ _ _ h => h) (by kernel_rfl) (by intro w hSw; (try dsimp only at hSw); go_simp; try with_reducible rfl) (by assumption) ?_
        refine take_l 1 58 rfl rfl (by kernel_rfl) (by kernel_rfl) (by kernel_rfl) (by kernel_rfl) (fun _ _ _ h => h) (by kernel_rfl) (by intro w hSw; (try dsimp only at hSw); go_simp; try with_reducible rfl) (by assumption) ?_
        refine take_l 2 59 rfl rfl (by kernel_rfl) (by kernel_rfl) (by kernel_rfl) (by kernel_rfl) (fun _ _ _ h => h) (by kernel_rfl) (by intro w hSw; (try dsimp only at hSw); go_simp; try with_reducible rfl) (by assumption) ?_
        refine take_l 3 60 rfl rfl (by kernel_rfl) (by kernel_rfl) (by kernel_rfl) (by kernel_rfl) (fun _ _ _ h => h) (by kernel_rfl) (by intro w hSw; (try dsimp only at hSw); go_simp; try with_reducible rfl) (by assumption) ?_
        refine take_l 4 61 rfl rfl (by kernel_rfl) (by kernel_rfl) (by kernel_rfl) (by kernel_rfl) (fun _ _ _ h => h) (by kernel_rfl) (by intro w hSw; (try dsimp only at hSw); go_simp; try with_reducible rfl) (by assumption) ?_
        refine take_l 5 62 rfl rfl (by kernel_rfl) (by kernel_rfl) (by kernel_rfl) (by kernel_rfl) (fun _ _ _ h => h) (by kernel_rfl) (by intro w hSw; (try dsimp only at hSw); go_simp; try with_reducible rfl) (by assumption) ?_
        refine take_l 6 63 rfl rfl (by kernel_rfl) (by kernel_rfl) (by kernel_rfl) (by kernel_rfl) (fun _ _ _ h => h) (by kernel_rfl) (by intro w hSw; (try dsimp only at hSw); go_simp; try with_reducible rfl) (by assumption) ?_
        refine take_l 7 64 rfl rfl (by kernel_rfl) (by kernel_rfl) (by kernel_rfl) (by kernel_rfl) (fun _ _ _ h => h) (by kernel_rfl) (by intro w hSw; (try dsimp only at hSw); go_simp; try with_reducible rfl) (by assumption) ?_
        refine take_l 8 65 rfl rfl (by kernel_rfl) (by kernel_rfl) (by kernel_rfl) (by kernel_rfl) (fun _ _ _ h => h) (by kernel_rfl) (by intro w hSw; (try dsimp only at hSw); go_simp; try with_reducible rfl) (by assumption) ?_
        refine take_l 9 66 rfl rfl (by kernel_rfl) (by kernel_rfl) (by kernel_rfl) (by kernel_rfl) (fun _ _ _ h => h) (by kernel_rfl) (by intro w hSw; (try dsimp only at hSw); go_simp; try with_reducible rfl) (by assumption) ?_
        refine take_l 10 67 rfl rfl (by kernel_rfl) (by kernel_rfl) (by kernel_rfl) (by kernel_rfl) (fun _ _ _ h => h) (by kernel_rfl) (by intro w hSw; (try dsimp only at hSw); go_simp; try with_reducible rfl) (by assumption) ?_
        refine take_l 11 68 rfl rfl (by kernel_rfl) (by kernel_rfl) (by kernel_rfl) (by kernel_rfl) (fun _ _ _ h => h) (by kernel_rfl) (by intro w hSw; (try dsimp only at hSw); go_simp; try with_reducible rfl) (by assumption) ?_
        refine take_l 12 69 rfl rfl (by kernel_rfl) (by kernel_rfl) (by kernel_rfl) (by kernel_rfl) (fun _ _ _ h => h) (by kernel_rfl) (by intro w hSw; (try dsimp only at hSw); go_simp; try with_reducible rfl) (by assumption) ?_
        refine take_l 13 70 rfl rfl (by kernel_rfl) (by kernel_rfl) (by kernel_rfl) (by kernel_rfl) (fun _ _ _ h => h) (by kernel_rfl) (by intro w hSw; (try dsimp only at hSw); go_simp; try with_reducible rfl) (by assumption) ?_
        refine take_l 14 71 rfl rfl (by kernel_rfl) (by kernel_rfl) (by kernel_rfl) (by kernel_rfl) (fun _ _ _ h => h) (by kernel_rfl) (by intro w hSw; (try dsimp only at hSw); go_simp; try with_reducible rfl) (by assumption) ?_
        refine take_l 15 72 rfl rfl (by kernel_rfl) (by kernel_rfl) (by kernel_rfl) (by kernel_rfl) (fun _ _ _ h => h) (by kernel_rfl) (by intro w hSw; (try dsimp only at hSw); go_simp; try with_reducible rfl) (by assumption) ?_
        refine take_l 16 73 rfl rfl (by kernel_rfl) (by kernel_rfl) (by kernel_rfl) (by kernel_rfl) (fun _ _ _ h => h) (by kernel_rfl) (by intro w hSw; (try dsimp only at hSw); go_simp; try with_reducible rfl) (by assumption) ?_
        refine step_l 17 (by kernel_rfl) rfl (fun K hK => ?_)
        go_simp
        go_wp2_with ((go_at_call 41; refine (windowOfBoth_is (p := (x1, x2)) (q := (y1 - z2, y2 - z1)) (r := (r1, r2)) FX.out _).mono ?_; rintro e w9 ⟨rfl, b9⟩; have b9' := Below.trans hHeld.1 (b9.mono hHeld.1.size)))
        refine hK.out _ _ (by (try dsimp only); exact mkS _ b9') (fun hHeld => ?_)
        clear hK K
        refine step_l 18 (by kernel_rfl) rfl (fun K hK => ?_)
        go_simp
        refine hK.out _ _ hHeld (fun hHeld => ?_)
        clear hK K
        refine last_l (by kernel_rfl) rfl (by kernel_rfl) (fun K hK => ?_)
        go_simp
        refine hK.out _ _ ?_
        clear hK K
        try simp only [Exit.then]
        try simp only [Act.put, List.setIfInBounds_toArray, List.set_cons_succ, List.set_cons_zero]
        have B9 := Lib.hid (B6.out.trans (b9'.mono B6.out.size))
        have O9 := O6.out.grow b9'
        have X9 := X6.out.grow b9'
        obtain ⟨gw, cw, ew, -, -, -, -, -, st⟩ := O9.set2 j (by rw [ml]; omega) (r1, r2)
        simp only [Value.slice.injEq, Option.some.injEq, Addr.mk.injEq, and_true] at ew
        obtain ⟨rfl, -, -⟩ := ew
        have TT := turned_two w9 gv (j * 2) (j * 2 + 1) (.int .i64 r1) (.int .i64 r2)
        have KN := (Kept.new (lo := w2.heap.size) (M := M) (G := fun j => j < w.heap.size ∨ j = Bs) (K6.out.trans (b9'.mono K6.out.size)) (ZP.out.2.1) (fun i hi => by have := ZP.out.2.2; omega)).trans (TT.keep (by omega) (by omega))
        refine ⟨KN, ⟨?_, X9.other TT (by omega)⟩, set_own (i := j * 2) (x := r1) (y := r2) B9.out v3⟩
        have e := mix_prev (A := fwL l s) (B := tiL l s) (k := j) FL.out TL.out (by omega)
        rw [RW.out] at e
        rw [hmk2, ← e]
        exact st
      case done =>
        rintro M wr hM hMW ⟨⟨ho, hx⟩, hb⟩ hD
        rw [backL_length, show l.length - 1 - s.length = 0 by omega, mix_zero] at ho
        have xb := hx.cell
        have eb := (hb.cell (cell_below EE.out)).trans EE.out
        have O := Lib.hid ho; have B := Lib.hid hb; have D := Lib.hid hD; have E := Lib.hid eb
        clear ho hb hx hD O2 X2 B2 R2 HB
        cases hg : goodW (tiL l s)
        · have HG := Lib.hid hg
          clear hg
          go_wp2_with fail
          refine (emptyW_any O.out.row HG.out).mono ?_
          rintro e w8 ⟨rfl, b8⟩
          have e8 := (b8.cell (cell_below E.out)).trans E.out
          have D8 := Lib.hid ((b8.block _ (Array.getElem?_eq_some_iff.1 D.out).1).trans D.out)
          have B8 := Lib.hid (B.out.trans (b8.mono B.out.size))
          clear b8
          go_wp2_with fail
          go_quiet (fail)
          go_wp2_with fail
          refine ⟨by simp, .inl ⟨_, _, rfl, run_takeDeferred (w := w8.drewN nq) (by rw [← hz2]; exact D8.out), ?_⟩⟩
          refine ⟨.tuple #[.slice none 0 0, .iface 85 (.pointer (some ea))], ?_, (turned_put _ _ _).below (below_drews B8.out nq) (by omega), .inr ⟨HG.out, rfl⟩⟩
          simp [results, Tryd.f31, go_sem]
        · have HG := Lib.hid hg
          clear hg
          go_wp2_with fail
          refine (emptyW_any O.out.row HG.out).mono ?_
          rintro e w8 ⟨rfl, b8⟩
          have x8 := (b8.cell (cell_below xb)).trans xb
          have D8 := Lib.hid ((b8.block _ (Array.getElem?_eq_some_iff.1 D.out).1).trans D.out)
          have B8 := Lib.hid (B.out.trans (b8.mono B.out.size))
          have O8 := Lib.hid (O.out.grow b8)
          clear b8
          go_wp2_with fail
          refine ⟨by simp, .inl ⟨_, _, rfl, run_takeDeferred (b := Bs + 1) (w := w8) (by rw [← hz2]; exact D8.out), ?_⟩⟩
          refine ⟨.tuple #[.slice (some ⟨gv, 0, none⟩) l.length cv, .nilIface], ?_, (turned_put _ _ _).below B8.out (by omega), .inl ⟨HG.out, _, rfl, O8.out.same fun b hb => (turned_put w8 (Bs + 1) (.deferred none)).block b (by have hq : gv = b := Option.some.inj hb; omega)⟩⟩
          simp [results, Tryd.f31, go_sem]
      case stop =>
        rintro M wr _ _ h _
        exact h.elim
theorem tightW_yes {w : World} {v u : Value} {l s : List Pc} (h : Row w v l) (k : Row w u s) (hw : isWin l s = true) (hg : goodW (tiL l s) = true) {ea : Addr} (hE : w.cell? ⟨0, 0, none⟩ = some (.iface 85 (.pointer (some ea)))) :
    Calls Tryd.prog 31 #[v, u] w fun e w' => ∃ x, e = .returned (.tuple #[x, .nilIface]) ∧ Own WT w' w.heap.size x (tiL l s) ∧ Below w.heap.size w w' :=
  (tightW_any h k hw hE).mono fun e w' ⟨hb, hc⟩ => by
    rcases hc with ⟨_, x, h1, h2⟩ | ⟨h1, _⟩
    · exact ⟨x, h1, h2, hb⟩
    · rw [hg] at h1; cases h1
theorem tightW_no {w : World} {v u : Value} {l s : List Pc} (h : Row w v l) (k : Row w u s) (hw : isWin l s = true) (hg : goodW (tiL l s) = false) {ea : Addr} (hE : w.cell? ⟨0, 0, none⟩ = some (.iface 85 (.pointer (some ea)))) :
    Calls Tryd.prog 31 #[v, u] w fun e w' => e = .returned (.tuple #[.slice none 0 0, .iface 85 (.pointer (some ea))]) ∧ Below w.heap.size w w' :=
  (tightW_any h k hw hE).mono fun e w' ⟨hb, hc⟩ => by
    rcases hc with ⟨h1, _⟩ | ⟨_, h1⟩
    · rw [hg] at h1; cases h1
    · exact ⟨h1, hb⟩
end Go.Proofs.YtanfalkpmmkklaaDoor
