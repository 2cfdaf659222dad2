/- The draws of the laws on orders. -/
import Derived.Test.YtcemgdekcfdfhaaDoorOrdDraw
import Derived.Test.YtcemgdekcfdfhaaDoorOrdRank
namespace Go.Proofs.YtcemgdekcfdfhaaDoor
open Go.RowKit

/-- Two lists of numbers of layers. -/
structure Drawn2 (w w' : World) (v u : Value) (l s : List Int) : Prop where
  one : IOwn w' w.heap.size v l
  two : IOwn w' w.heap.size u s
  l1 : 1 ≤ l.length
  l3 : l.length ≤ 3
  s1 : 1 ≤ s.length
  s4 : s.length ≤ 4
  bl : Lay7 l
  bs : Lay7 s
def DrewO (w : World) (e : Ending) (w' : World) : Prop := ∃ v u l s, e = .returned (.tuple #[v, u]) ∧ Drawn2 w w' v u l s ∧ Below w.heap.size w w'
/-- .. and two numbers. -/
def DrewO2 (w : World) (e : Ending) (w' : World) : Prop := ∃ v u l s i k, e = .returned (.tuple #[v, u, .int .i64 i, .int .i64 k]) ∧ Drawn2 w w' v u l s ∧ -1 ≤ i ∧ i ≤ 5 ∧ 0 ≤ k ∧ k ≤ 5 ∧ Below w.heap.size w w'
/-- .. and a rank. -/
def DrewO1 (w : World) (e : Ending) (w' : World) : Prop := ∃ v u l s n, e = .returned (.tuple #[v, u, .int .i64 n]) ∧ Drawn2 w w' v u l s ∧ -1 ≤ n ∧ n ≤ 728933458176 ∧ Below w.heap.size w w'
theorem countOf_in (l s : List Int) : -1 ≤ countOf l s ∧ countOf l s ≤ 728933458176 := by
  unfold countOf
  split
  · rename_i h
    have W := isPar_iff.1 h
    have := cnt_four W.small (by rw [par_length l s W.len]; exact W.most)
    omega
  · omega
theorem nth_cells {c : Int} (q : Int) (hc : -1 ≤ c ∧ c ≤ 728933458176) (h0 : 0 ≤ q) (h1 : q < 2) : ∃ v : Int, -1 ≤ v ∧ v ≤ 728933458176 ∧ (#[Value.int .i64 (-1), .int .i64 (max 0 c)] : Array Value)[q.toNat]? = some (.int .i64 v) := by
  have h : q = 0 ∨ q = 1 := by omega
  rcases h with rfl | rfl
  · exact ⟨-1, by decide, by decide, rfl⟩
  · exact ⟨max 0 c, by omega, by omega, rfl⟩
theorem nth_list {q : Nat} {v a b : Value} (h : q < [a, b].length) (hv : (#[a, b] : Array Value)[q]? = some v) : [a, b][q] = v := by simpa [List.getElem?_eq_getElem h] using hv
theorem nth_kept {b : Nat} {w w' : World} {i : Nat} {c : Array Value} {t : TypeId} {v : Value} (k : Keep b (w.alloc (.cells c t)).drew w') (hb : b < w.heap.size) (hv : c[i]? = some v) : w'.cell? ⟨w.heap.size, i, none⟩ = some v := by
  refine (k.cell (p := ⟨w.heap.size, i, none⟩) ?_ ?_).trans ?_
  · show w.heap.size < (w.alloc _).heap.size
    simp
  · show w.heap.size ≠ b
    omega
  · rw [World.cell?_drew, World.cell?_alloc_new]; exact hv
set_option maxRecDepth 100000 in
set_option maxHeartbeats 3200000 in
theorem DrawOrderNth_any {w : World} {a : Option Addr} {len cap : Nat} (h : Bytes w a len cap) :
    Calls Tryd.prog 7 #[.slice a len cap] w fun e w' => DrewO1 w e w' := by
  go_enter Tryd.func7, Tryd.ntmps7
  go_wp2_with fail
  refine (open_any h).mono ?_
  rintro e w1 ⟨rfl, a1, b1, s1⟩
  have hbw := a1.lt
  go_wp2_with fail
  refine (l92Parts_any a1 (by omega)).mono ?_
  rintro e w2 ⟨v, u, l, s, rfl, o1, o2, -, l1, l3, m1, m4, d1, d2, a2, k2⟩
  have O2 := Lib.hid o1; have U2 := Lib.hid o2; have D1 := Lib.hid d1; have D2 := Lib.hid d2; have A2 := Lib.hid a2; have K2 := Lib.hid k2
  obtain ⟨c, hc⟩ : ∃ c, countOf l s = c := ⟨_, rfl⟩
  have hcb := countOf_in l s
  rw [hc] at hcb
  clear o1 o2 a2 k2 d1 d2
  go_wp2_with fail
  refine (countS_is O2.out.own.row U2.out.own.row hc).mono ?_
  rintro e w3 ⟨rfl, k3⟩
  have A3 := Lib.hid (A2.out.below (k3.mono A2.out.lt)); have K3 := Lib.hid (K2.out.trans (Keep.made k3)); have O3 := Lib.hid (O2.out.grow k3); have U3 := Lib.hid (U2.out.grow k3)
  clear k3 A2 K2 O2 U2 hc
  have hbs : w.heap.size ≤ w1.heap.size := by omega
  by_cases c1 : c < 1
  · have e1 : decide (c < 1) = true := by simpa using c1
    go_wp2_with fail
    go_region_with (go_at_call 22; refine (pick_at (m := 40) (b := w.heap.size) _ ?_ (by omega)).mono ?_; (first | exact (A3.out.mono (by omega)).drew | exact ((A3.out.mono (by omega)).alloc _).drew); rintro e w9 ⟨q9, rfl, p9, r9, _, a9, k9⟩; replace r9 := r9 (by decide); obtain ⟨y, y0, y1, hv⟩ := nth_cells q9 hcb p9 r9; have hl := nth_list (by simp; omega) hv; try have c9 := nth_kept k9 A3.out.lt hv)
    all_goals
      go_wp2
      go_returns
      first
        | exact ⟨v, u, l, s, y, rfl, ⟨((O3.out.grow ((Below.refl _ _).alloc (Nat.le_refl _) _).drew).keep k9 hbw).own.mono hbs, ((U3.out.grow ((Below.refl _ _).alloc (Nat.le_refl _) _).drew).keep k9 hbw).own.mono hbs, l1, l3, m1, m4, D1.out, D2.out⟩, y0, y1, ((K3.out.trans (Keep.made ((Below.refl _ _).alloc (Nat.le_refl _) _).drew)).trans k9).below b1 (Nat.le_refl _) hbs⟩
        | exact ⟨v, u, l, s, y, rfl, ⟨(((O3.out.grow (Below.refl _ _).drew).keep k9 hbw).grow ((Below.refl _ _).alloc (Nat.le_refl _) _)).own.mono hbs, (((U3.out.grow (Below.refl _ _).drew).keep k9 hbw).grow ((Below.refl _ _).alloc (Nat.le_refl _) _)).own.mono hbs, l1, l3, m1, m4, D1.out, D2.out⟩, y0, y1, (((K3.out.trans (Keep.drew _ _)).trans k9).below b1 (Nat.le_refl _) hbs).alloc (by have := k9.size; have := K3.out.size; simp at *; omega) _⟩
  · have e1 : decide (c < 1) = false := by simpa using c1
    go_wp2_with fail
    refine (pick_at 16 A3.out (by omega)).mono ?_
    rintro e w4 ⟨q, rfl, p4, q4, _, a4, k4⟩
    have A4 := Lib.hid a4; have K4 := Lib.hid (K3.out.trans k4); have O4 := Lib.hid (O3.out.keep k4 hbw); have U4 := Lib.hid (U3.out.keep k4 hbw)
    clear a4 k4 A3 K3 O3 U3
    by_cases z : q = 0
    · subst z
      go_wp2_with fail
      go_region_with (go_at_call 22; refine (pick_at (m := 40) (b := w.heap.size) _ ?_ (by omega)).mono ?_; (first | exact (A4.out.mono (by omega)).drew | exact ((A4.out.mono (by omega)).alloc _).drew); rintro e w9 ⟨q9, rfl, p9, r9, _, a9, k9⟩; replace r9 := r9 (by decide); obtain ⟨y, y0, y1, hv⟩ := nth_cells q9 hcb p9 r9; have hl := nth_list (by simp; omega) hv; try have c9 := nth_kept k9 A4.out.lt hv)
      all_goals
        go_wp2
        go_returns
        first
          | exact ⟨v, u, l, s, y, rfl, ⟨((O4.out.grow ((Below.refl _ _).alloc (Nat.le_refl _) _).drew).keep k9 hbw).own.mono hbs, ((U4.out.grow ((Below.refl _ _).alloc (Nat.le_refl _) _).drew).keep k9 hbw).own.mono hbs, l1, l3, m1, m4, D1.out, D2.out⟩, y0, y1, ((K4.out.trans (Keep.made ((Below.refl _ _).alloc (Nat.le_refl _) _).drew)).trans k9).below b1 (Nat.le_refl _) hbs⟩
          | exact ⟨v, u, l, s, y, rfl, ⟨(((O4.out.grow (Below.refl _ _).drew).keep k9 hbw).grow ((Below.refl _ _).alloc (Nat.le_refl _) _)).own.mono hbs, (((U4.out.grow (Below.refl _ _).drew).keep k9 hbw).grow ((Below.refl _ _).alloc (Nat.le_refl _) _)).own.mono hbs, l1, l3, m1, m4, D1.out, D2.out⟩, y0, y1, (((K4.out.trans (Keep.drew _ _)).trans k9).below b1 (Nat.le_refl _) hbs).alloc (by have := k9.size; have := K4.out.size; simp at *; omega) _⟩
    · have z0 : (q == 0) = false := by simpa using z
      have c0 : c ≠ 0 := by omega
      clear z
      go_wp2_with fail
      refine wp_region_any (by kernel_rfl) ?_
      change wpAny _ _ _ _ _ _ _ (World.drew _)
      refine take_yes 0 35 rfl rfl (by kernel_rfl) (by kernel_rfl) (by kernel_rfl) (fun _ _ _ h => h) (Or.inl ⟨by kernel_rfl, by intro w; go_simp; try with_reducible rfl⟩) ?_
      refine take_yes 1 36 rfl rfl (by kernel_rfl) (by kernel_rfl) (by kernel_rfl) (fun _ _ _ h => h) (Or.inl ⟨by kernel_rfl, by intro w; go_simp; try with_reducible rfl⟩) ?_
      refine take_yes 2 37 rfl rfl (by kernel_rfl) (by kernel_rfl) (by kernel_rfl) (fun _ _ _ h => h) (Or.inl ⟨by kernel_rfl, by intro w; go_simp; try with_reducible rfl⟩) ?_
      refine take_yes 5 40 rfl rfl (by kernel_rfl) (by kernel_rfl) (by kernel_rfl) (fun _ _ _ h => h) (Or.inl ⟨by kernel_rfl, by intro w; go_simp; try with_reducible rfl⟩) ?_
      refine take_yes 8 43 rfl rfl (by kernel_rfl) (by kernel_rfl) (by kernel_rfl) (fun _ _ _ h => h) (Or.inl ⟨by kernel_rfl, by intro w; go_simp; try with_reducible rfl⟩) ?_
      refine wpAny_ready (rs := [3]) (by kernel_rfl) (by simp) (AllReady.cons rfl (fun K hK => ?_) AllReady.nil)
      go_simp
      go_wp2_with (go_at_call 22; refine (pick_at 200 A4.out.drew (by omega)).mono ?_; rintro e w5 ⟨x, rfl, p5, q5, _, a5, k5⟩; replace q5 := q5 (by decide); have f1 : IntKind.i64.wrap (x * 200) = x * 200 := IntWalk.i64_in _ (by omega))
      refine take_yes 4 39 rfl rfl (by kernel_rfl) (by kernel_rfl) (by kernel_rfl) (fun _ _ _ h => h) (Or.inl ⟨by kernel_rfl, by intro w; go_simp; try with_reducible rfl⟩) ?_
      refine wpAny_ready (rs := [6]) (by kernel_rfl) (by simp) (AllReady.cons rfl (fun K hK => ?_) AllReady.nil)
      go_simp
      go_wp2_with (go_at_call 22; refine (pick_at 200 a5 (by omega)).mono ?_; rintro e w6 ⟨y, rfl, p6, q6, _, a6, k6⟩; replace q6 := q6 (by decide); have f2 : IntKind.i64.wrap (x * 200 + y) = x * 200 + y := IntWalk.i64_in _ (by omega))
      refine take_yes 7 42 rfl rfl (by kernel_rfl) (by kernel_rfl) (by kernel_rfl) (fun _ _ _ h => h) (Or.inl ⟨by kernel_rfl, by intro w; go_simp; try with_reducible rfl⟩) ?_
      refine take_yes 9 44 rfl rfl (by kernel_rfl) (by kernel_rfl) (by kernel_rfl) (fun _ _ _ h => h) (Or.inl ⟨by kernel_rfl, by intro w; go_simp; try with_reducible rfl⟩) ?_
      refine take_yes 10 2 rfl rfl (by kernel_rfl) (by kernel_rfl) (by kernel_rfl) (fun _ _ _ h => h) (Or.inl ⟨by kernel_rfl, by intro w; go_simp; try with_reducible rfl⟩) ?_
      refine take_yes 11 3 rfl rfl (by kernel_rfl) (by kernel_rfl) (by kernel_rfl) (fun _ _ _ h => h) (Or.inl ⟨by kernel_rfl, by intro w; go_simp; try with_reducible rfl⟩) ?_
      refine take_yes 12 4 rfl rfl (by kernel_rfl) (by kernel_rfl) (by kernel_rfl) (fun _ _ _ h => h) (Or.inl ⟨by kernel_rfl, by intro w; go_simp; try with_reducible rfl⟩) ?_
      refine wpAny_done (by kernel_rfl) ?_ _
      simp only [Exit.then]
      simp only [Act.put, List.setIfInBounds_toArray, List.set_cons_succ, List.set_cons_zero]
      have kk : Keep w.heap.size w4 w6 := (Keep.trans (Keep.drew _ w4) k5).trans k6
      have t0 : 0 ≤ (x * 200 + y).tmod c := Int.tmod_nonneg c (by omega)
      have t1 : (x * 200 + y).tmod c < c := Int.tmod_lt_of_pos _ (by omega)
      refine ‹∀ (a : Act) (w : World), Code.wp _ Code.ret _ a w → _› _ _ ?_
      go_wp2
      go_returns
      exact ⟨v, u, l, s, _, rfl, ⟨(O4.out.keep kk hbw).own.mono hbs, (U4.out.keep kk hbw).own.mono hbs, l1, l3, m1, m4, D1.out, D2.out⟩, by omega, by omega, (K4.out.trans kk).below b1 (Nat.le_refl _) hbs⟩
end Go.Proofs.YtcemgdekcfdfhaaDoor
