/- The draws of windows, steps and ages. -/
import Derived.Test.YtanfalkpmmkklaaDoorWinDraw
import Derived.Test.YtanfalkpmmkklaaDoorWinSpec3
import Derived.Test.YtanfalkpmmkklaaDoorLate
namespace Go.Proofs.YtanfalkpmmkklaaDoor
open Go.RowKit

theorem made_run (n : Nat) (hn : n ≤ 100) (w : World) : (Instr.makeSlice 24 (.int .i64 (n : Int)) (.int .i64 (n : Int))).run Tryd.prog w = .ok (.slice (some ⟨w.heap.size, 0, none⟩) n n) (w.alloc (.cells (cells1 (List.replicate n 0)).toArray 3)) := by
  obtain ⟨i0, hi, hz0, hz1, hz2⟩ := info_parts intInfo
  have hb : (i0.bytes : Int) * (n : Int) ≤ 281474976710656 := by rw [hz2]; omega
  have hr := run_make (P := Tryd.prog) w 24 3 i0 (.int .i64 0) inT hi hz0 .i64 .i64 n n (by omega) (by omega) hb (by omega)
  simp only [Int.toNat_natCast, hz1, Nat.mul_one] at hr
  rw [hr]
  have e : madeCells (Value.int .i64 0).cells n = (cells1 (List.replicate n 0)).toArray := by
    show madeCells #[Value.int .i64 0] n = _
    apply Array.ext'
    have := toList_madeCells_one (.int .i64 0) n
    simpa [cells1] using this
  rw [e]
theorem made_own (n : Nat) (hn : n ≤ 100) {w : World} {B : Nat} (h : B ≤ w.heap.size) : IOwn (w.alloc (.cells (cells1 (List.replicate n 0)).toArray 3)) B (.slice (some ⟨w.heap.size, 0, none⟩) n n) (List.replicate n 0) := by
  have := World.ownsRow_lit (base := B) (e := 3) (size := 1) w (cells1 (List.replicate n (0 : Int))).toArray n h (by unfold maxLen; omega) (by simp [cells1])
  show World.ownsRow _ _ _ 1 _ (List.replicate n (0 : Int)).length (cells1 (List.replicate n 0))
  rw [List.length_replicate]
  simpa using this
theorem IOwn.keep {w w' : World} {b B : Nat} {v : Value} {l : List Int} (h : IOwn w B v l) (k : Keep b w w') (hb : b < B) : IOwn w' B v l :=
  h.same fun g hg => k.block g (h.lt g hg).2 (by have := (h.lt g hg).1; omega)
/-- Windows and steps. -/
def DrewW (w : World) (e : Ending) (w' : World) : Prop := ∃ v u l s, e = .returned (.tuple #[v, u]) ∧ Own WT w' w.heap.size v l ∧ Own WT w' w.heap.size u s ∧ 1 ≤ l.length ∧ l.length ≤ 6 ∧ s.length ≤ 6 ∧ (∀ p ∈ l, Sm 100001 p) ∧ Below w.heap.size w w'
/-- .. and ages. -/
def DrewW3 (w : World) (e : Ending) (w' : World) : Prop := ∃ v u x l s a, e = .returned (.tuple #[v, u, x]) ∧ Own WT w' w.heap.size v l ∧ Own WT w' w.heap.size u s ∧ IOwn w' w.heap.size x a ∧ 1 ≤ l.length ∧ l.length ≤ 6 ∧ s.length ≤ 6 ∧ a.length ≤ 12 ∧ Below w.heap.size w w'
theorem DrawWindowsTight_any {w : World} {a : Option Addr} {len cap : Nat} (h : Bytes w a len cap) :
    Calls Tryd.prog 18 #[.slice a len cap] w fun e w' => DrewW w e w' := by
  go_enter Tryd.func18, Tryd.ntmps18
  go_wp2_with fail
  refine (open_any h).mono ?_
  rintro e w1 ⟨rfl, a1, b1, s1⟩
  go_wp2_with fail
  refine (l92Windows_any a1 (by omega)).mono ?_
  rintro e w2 ⟨v, u, l, s, rfl, o1, o2, -, l1, d1, d2, a2, k2⟩
  have BB := Lib.hid (k2.below b1 (Nat.le_refl _) (by omega))
  have O1 := Lib.hid (o1.own.mono (B' := w.heap.size) (by omega)); have O2 := Lib.hid (o2.own.mono (B' := w.heap.size) (by omega)); have D1 := Lib.hid d1; have D2 := Lib.hid d2
  clear o1 o2 a2 k2 d1 d2
  go_wp2_with fail
  go_ret2
  exact ⟨v, u, l, s, rfl, O1.out, O2.out, l1, D1.out.1, D2.out.1, (D1.out.mono (Nat.le_refl _) (by omega : (100000 : Int) ≤ 100001)).2, BB.out⟩
theorem DrawWindowsYoung_any {w : World} {a : Option Addr} {len cap : Nat} (h : Bytes w a len cap) :
    Calls Tryd.prog 21 #[.slice a len cap] w fun e w' => DrewW w e w' := by
  go_enter Tryd.func21, Tryd.ntmps21
  go_wp2_with fail
  refine (open_any h).mono ?_
  rintro e w1 ⟨rfl, a1, b1, s1⟩
  go_wp2_with fail
  refine (l92Windows_any a1 (by omega)).mono ?_
  rintro e w2 ⟨v, u, l, s, rfl, o1, o2, -, l1, d1, d2, a2, k2⟩
  have BB := Lib.hid (k2.below b1 (Nat.le_refl _) (by omega))
  have O1 := Lib.hid (o1.own.mono (B' := w.heap.size) (by omega)); have O2 := Lib.hid (o2.own.mono (B' := w.heap.size) (by omega)); have D1 := Lib.hid d1; have D2 := Lib.hid d2
  clear o1 o2 a2 k2 d1 d2
  go_wp2_with fail
  go_ret2
  exact ⟨v, u, l, s, rfl, O1.out, O2.out, l1, D1.out.1, D2.out.1, (D1.out.mono (Nat.le_refl _) (by omega : (100000 : Int) ≤ 100001)).2, BB.out⟩
set_option maxRecDepth 100000 in
set_option maxHeartbeats 3200000 in
theorem DrawWindowsFit_any {w : World} {a : Option Addr} {len cap : Nat} (h : Bytes w a len cap) :
    Calls Tryd.prog 11 #[.slice a len cap] w fun e w' => DrewW3 w e w' := by
  go_enter Tryd.func11, Tryd.ntmps11
  go_wp2_with fail
  refine (open_any h).mono ?_
  rintro e w1 ⟨rfl, a1, b1, s1⟩
  go_wp2_with fail
  refine (l92Windows_any a1 (by omega)).mono ?_
  rintro e w2 ⟨v, u, l, s, rfl, o1, o2, -, l1, d1, d2, a2, k2⟩
  have A2 := Lib.hid a2
  have hz := k2.size
  have BB := Lib.hid (k2.below b1 (Nat.le_refl _) (by omega))
  have O1 := Lib.hid (o1.own.mono (B' := w.heap.size + 1) (by omega)); have U1 := Lib.hid (o2.own.mono (B' := w.heap.size + 1) (by omega))
  have l6 := d1.1; have s6 := d2.1
  have hz1 := BB.out.size
  have VL : Hid (∀ k, v.ownBlock = some k → k < w2.heap.size) := Lib.hid (fun k hk => (o1.own.lt k hk).2)
  have UL : Hid (∀ k, u.ownBlock = some k → k < w2.heap.size) := Lib.hid (fun k hk => (o2.own.lt k hk).2)
  have ab := A2.out.lt
  clear o1 o2 a2 k2 d1 d2
  go_wp2_with fail
  refine (specYoung_any O1.out.row U1.out.row).mono ?_
  rintro e w3 ⟨x, rfl, ox, b3⟩
  obtain ⟨y, hy⟩ : ∃ y, (youngOf l s).getD [] = y := ⟨_, rfl⟩
  have HY := Lib.hid hy
  rw [hy] at ox
  have O3 := Lib.hid (O1.out.grow b3); have U3 := Lib.hid (U1.out.grow b3); have X3 := Lib.hid ox
  have A3 := Lib.hid (A2.out.below (b3.mono (by omega))); have B3 := Lib.hid (BB.out.trans (b3.mono hz1))
  have hz3 := B3.out.size
  have hs3 : w.heap.size + 1 ≤ w3.heap.size := by have := b3.size; omega
  clear b3 ox hy O1 U1 A2 BB
  cases hb : (youngOf l s).isSome
  · have YE : y = [] := by rw [← HY.out]; cases c : youngOf l s with
      | none => rfl
      | some z => rw [c] at hb; cases hb
    clear hb
    obtain ⟨pl, cl, rfl, q1, q2⟩ := O3.out.row.len
    unfold maxLen at q2
    have MR := made_run l.length (by omega) w3.drew
    have MO : Hid (IOwn (w3.drew.alloc (.cells (cells1 (List.replicate l.length 0)).toArray 3)) w.heap.size (.slice (some ⟨w3.drew.heap.size, 0, none⟩) l.length l.length) (List.replicate l.length 0)) := Lib.hid (made_own l.length (by omega) hz3)
    have AL : Hid (Below w3.heap.size w3 (w3.drew.alloc (.cells (cells1 (List.replicate l.length 0)).toArray 3))) := Lib.hid ((Below.refl _ _).drew.alloc (Nat.le_refl _) _)
    go_wp2_with fail
    go_region_held3 (fun w' => True) (exact trivial) (fail)
    all_goals
      go_wp2_with fail
      go_ret3
      exact ⟨_, _, _, l, s, _, rfl, (O3.out.grow AL.out).mono (by omega), (U3.out.grow AL.out).mono (by omega), MO.out, l1, l6, s6, by simp; omega, B3.out.trans (AL.out.mono hz3)⟩
  · obtain ⟨t, ht⟩ : ∃ t, tightOf l s = some t := by
      cases c : tightOf l s with
      | none => unfold youngOf at hb; rw [c] at hb; cases hb
      | some t => exact ⟨t, rfl⟩
    have tg := tightOf_some ht
    have YE : y = t.map Prod.fst := by rw [← HY.out]; unfold youngOf; rw [ht]; rfl
    have yl : y.length = l.length := by rw [YE, List.length_map, tg.len]
    have yb : ∀ i (hi : i < y.length), 0 ≤ y[i] ∧ y[i] ≤ 100000 := fun i hi => by
      have r := tg.range (i := i) (by omega)
      subst YE
      rw [List.length_map] at hi
      rw [gW_get hi] at r
      simp; omega
    have YB := Lib.hid yb; have YL := Lib.hid yl
    clear hb YE ht tg yb yl
    go_wp2_with fail
    refine (specOldW_any O3.out.row U3.out.row).mono ?_
    rintro e w4 ⟨z, rfl, oz, b4⟩
    obtain ⟨zl, hzl⟩ : ∃ y, (oldOf l s).getD [] = y := ⟨_, rfl⟩
    have z12 : zl.length ≤ 12 := by rw [← hzl]; unfold oldOf; have := tight_len (l := l) (s := s); cases c : tightOf l s <;> rw [c] at this <;> simp at this ⊢ <;> exact this
    rw [hzl] at oz
    have O4 := Lib.hid (O3.out.grow b4); have U4 := Lib.hid (U3.out.grow b4); have X4 := Lib.hid (X3.out.grow b4); have Z4 := Lib.hid (oz.mono (B' := w.heap.size + 1) (by omega))
    have A4 := Lib.hid (A3.out.below (b4.mono (by have := A3.out.lt; omega))); have B4 := Lib.hid (B3.out.trans (b4.mono hz3))
    clear b4 oz hzl O3 U3 X3 A3 B3
    go_wp2_with fail
    refine (pick_at 4 A4.out (by omega)).mono ?_
    rintro e w5 ⟨q, rfl, p5, r5, _, a5, k5⟩
    replace r5 := r5 (by decide)
    have O5 := Lib.hid (O4.out.keep' k5.block (by omega)); have U5 := Lib.hid (U4.out.keep' k5.block (by omega)); have X5 := Lib.hid (X4.out.keep k5 (by omega)); have Z5 := Lib.hid (Z4.out.keep k5 (by omega))
    have A5 := Lib.hid a5
    have hz4 := B4.out.size
    have B5 := Lib.hid (k5.below B4.out (Nat.le_refl _) hz4)
    clear a5 k5 O4 U4 X4 Z4 A4 B4
    by_cases e0 : q = 0
    · subst e0
      obtain ⟨px, cx, rfl, x1, x2⟩ := X5.out.row.len
      unfold maxLen at x2
      have hz5 := B5.out.size
      go_wp2_with fail
      refine (pick_at (y.length : Int) A5.out (by omega)).mono ?_
      rintro e w6 ⟨q6, rfl, p6, r6, _, a6, k6⟩
      replace r6 := r6 (by have := YL.out; omega)
      obtain ⟨r, rfl⟩ : ∃ r : Nat, q6 = r := ⟨q6.toNat, by omega⟩
      have O6 := Lib.hid (O5.out.keep' k6.block (by omega)); have U6 := Lib.hid (U5.out.keep' k6.block (by omega)); have X6 := Lib.hid (X5.out.keep k6 (by omega))
      have A6 := Lib.hid a6; have B6 := Lib.hid (k6.below B5.out (Nat.le_refl _) hz5)
      have hr : r < y.length := by omega
      obtain ⟨g, c', e', -, -, gB, gl, hp⟩ := X6.out.at (by omega)
      simp only [Value.slice.injEq] at e'
      obtain ⟨rfl, -, rfl⟩ := e'
      have P := hp r hr
      have yb := YB.out r hr
      obtain ⟨n, hn⟩ : ∃ n, y[r] = n := ⟨_, rfl⟩
      have c0 := P.cell
      rw [hn] at c0 yb
      have C0 := Lib.hid c0; have F0 := Lib.hid P.froz
      have SE := Lib.hid (fun x : Int => P.set x)
      have hz6 := B6.out.size
      have i0 : (0 : Int) ≤ (r : Int) := by omega
      have i1 : (r : Int) < (y.length : Int) := by omega
      clear a6 k6 hp P c0 hn A5 O5 U5 X5 B5
      have mkS : ∀ w' : World, w'.heap[g]? = w6.heap[g]? → (w'.cell? ⟨g, r, none⟩ = some (.int .i64 n) ∧ w'.frozen? ⟨g, r, none⟩ = false) := fun w' h => ⟨(World.cell?_of_block (w := w6) (a := ⟨g, r, none⟩) h).trans C0.out, (World.frozen?_of_block (w := w6) (a := ⟨g, r, none⟩) h).trans F0.out⟩
      go_wp2_with fail
      refine calm_region 10 (fun w' => (w'.cell? ⟨g, r, none⟩ = some (.int .i64 n) ∧ w'.frozen? ⟨g, r, none⟩ = false)) (by kernel_rfl) (by exact mkS _ rfl) (fun hHeld => ?_)
      refine take_l 0 47 rfl rfl (by kernel_rfl) (by kernel_rfl) (by kernel_rfl) (by kernel_rfl) (fun _ _ _ h => h) (by kernel_rfl) (by intro w hSw; (try dsimp only at hSw); go_simp; try with_reducible rfl) (by assumption) ?_
      refine take_l 1 48 rfl rfl (by kernel_rfl) (by kernel_rfl) (by kernel_rfl) (by kernel_rfl) (fun _ _ _ h => h) (by kernel_rfl) (by intro w hSw; (try dsimp only at hSw); go_simp; try with_reducible rfl) (by assumption) ?_
      refine take_l 2 49 rfl rfl (by kernel_rfl) (by kernel_rfl) (by kernel_rfl) (by kernel_rfl) (fun _ _ _ h => h) (by kernel_rfl) (by intro w hSw; (try dsimp only at hSw); go_simp; try with_reducible rfl) (by assumption) ?_
      refine take_l 3 50 rfl rfl (by kernel_rfl) (by kernel_rfl) (by kernel_rfl) (by kernel_rfl) (fun _ _ _ h => h) (by kernel_rfl) (by intro w hSw; (try dsimp only at hSw); go_simp; try with_reducible rfl) (by assumption) ?_
      refine take_l 4 51 rfl rfl (by kernel_rfl) (by kernel_rfl) (by kernel_rfl) (by kernel_rfl) (fun _ _ _ h => h) (by kernel_rfl) (by intro w hSw; (try dsimp only at hSw); go_simp; try with_reducible rfl) (by assumption) ?_
      refine take_l 5 52 rfl rfl (by kernel_rfl) (by kernel_rfl) (by kernel_rfl) (by kernel_rfl) (fun _ _ _ h => h) (by kernel_rfl) (by intro w hSw; (try dsimp only at hSw); go_simp; try with_reducible rfl) (by assumption) ?_
      refine take_l 6 53 rfl rfl (by kernel_rfl) (by kernel_rfl) (by kernel_rfl) (by kernel_rfl) (fun _ _ _ h => h) (by kernel_rfl) (by intro w hSw; (try dsimp only at hSw); go_simp; try with_reducible rfl) (by assumption) ?_
      refine step_l 7 (by kernel_rfl) rfl (fun K hK => ?_)
      go_simp
      go_wp2_with ((go_at_call 26; refine (pick_at 4 A6.out.drew (by omega)).mono ?_; rintro e w7 ⟨q7, rfl, p7, r7, _, a7, k7'⟩; replace r7 := r7 (by decide); have k7 : w7.heap[g]? = w6.heap[g]? ∧ Keep w.heap.size w6.drew w7 := ⟨k7'.block g gl (by omega), k7'⟩; have A7 := Lib.hid a7; have z7 : IntKind.i64.wrap (n + q7) = n + q7 := IntWalk.i64_in _ (by omega); clear a7 k7'))
      refine hK.out _ _ (by (try dsimp only); exact mkS _ k7.1) (fun hHeld => ?_)
      clear hK K
      refine take_l 8 55 rfl rfl (by kernel_rfl) (by kernel_rfl) (by kernel_rfl) (by kernel_rfl) (fun _ _ _ h => h) (by kernel_rfl) (by intro w hSw; (try dsimp only at hSw); go_simp; try with_reducible rfl) (by assumption) ?_
      refine step_l 9 (by kernel_rfl) rfl (fun K hK => ?_)
      go_simp
      refine hK.out _ _ hHeld (fun hHeld => ?_)
      clear hK K
      refine last_l (by kernel_rfl) rfl (by kernel_rfl) (fun K hK => ?_)
      go_simp
      refine hK.out _ _ ?_
      clear hK K
      try simp only [Exit.then]
      try simp only [Act.put, List.setIfInBounds_toArray, List.set_cons_succ, List.set_cons_zero]
      have K7 := (Keep.drew w.heap.size w6).trans k7.2
      have X7 := Lib.hid (X6.out.keep K7 (by omega))
      obtain ⟨g', c'', e', -, -, _, _, hp⟩ := X7.out.at (by omega)
      simp only [Value.slice.injEq, Option.some.injEq, Addr.mk.injEq, and_true] at e'
      obtain ⟨rfl, -, -⟩ := e'
      have XS := Lib.hid ((hp r hr).set (n + q7))
      have O7 := Lib.hid (O6.out.keep' K7.block (by omega)); have U7 := Lib.hid (U6.out.keep' K7.block (by omega))
      have B7 := Lib.hid (K7.below B6.out (Nat.le_refl _) hz6)
      have vn : ∀ k, v.ownBlock = some k → k ≠ g := fun k hk e => by have := VL.out k hk; omega
      have un : ∀ k, u.ownBlock = some k → k ≠ g := fun k hk e => by have := UL.out k hk; omega
      have O8 := Lib.hid (O7.out.same fun k hk => Below.heap_setCell w7 ⟨g, r, none⟩ (.int .i64 (n + q7)) k (vn k hk))
      have U8 := Lib.hid (U7.out.same fun k hk => Below.heap_setCell w7 ⟨g, r, none⟩ (.int .i64 (n + q7)) k (un k hk))
      have B8 := Lib.hid (B7.out.setCell (p := ⟨g, r, none⟩) (by simp; omega) (.int .i64 (n + q7)))
      clear vn un O7 U7 B7 X7 hp
      go_wp2_with fail
      go_ret3
      exact ⟨_, _, _, l, s, _, rfl, O8.out.mono (by omega), U8.out.mono (by omega), XS.out.mono (by omega), l1, l6, s6, by have := YL.out; simp; omega, B8.out⟩
    have e0' : (q == 0) = false := by simpa using e0
    by_cases e1 : q = 1
    · subst e1
      go_wp2_with fail
      go_ret3
      exact ⟨_, _, _, l, s, zl, rfl, O5.out.mono (by omega), U5.out.mono (by omega), Z5.out.mono (by omega), l1, l6, s6, z12, B5.out⟩
    · have e1' : (q == 1) = false := by simpa using e1
      go_wp2_with fail
      go_ret3
      exact ⟨_, _, _, l, s, y, rfl, O5.out.mono (by omega), U5.out.mono (by omega), X5.out.mono (by omega), l1, l6, s6, by have := YL.out; omega, B5.out⟩
end Go.Proofs.YtanfalkpmmkklaaDoor
