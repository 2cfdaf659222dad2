/- The draws of ties: l92Ties, l92Some. -/
import Derived.Test.YthhdpjkmjebjhabEventDraw
import Derived.Test.YthhdpjkmjebjhabCell
import Derived.ArgAppend
namespace Go.Proofs.Ythhdpjkmjebjhab
open Go.RowKit

theorem tieT' : PairT 39 23 := ⟨by kernel_rfl, Try.underlying23⟩
/-- A list that is built up: the empty literal in block g, or in a block made since B. -/
def LsE (T : TypeId) (w : World) (g B : Nat) (v : Value) (l : List Pc) : Prop := (l = [] ∧ v = .slice (some ⟨g, 0, none⟩) 0 0 ∧ CB T w g []) ∨ Own T w B v l
theorem LsE.keep {T : TypeId} {w w' : World} {g B b : Nat} {v : Value} {l : List Pc} (h : LsE T w g B v l) (k : Keep b w w') (hb : b < B) (hg : b ≠ g) : LsE T w' g B v l := by
  rcases h with ⟨h1, h2, h3⟩ | h
  · exact .inl ⟨h1, h2, h3.same (k.block g h3.lt (Ne.symm hg))⟩
  · exact .inr (h.keep k hb)
theorem LsE.grow {T : TypeId} {w w' : World} {g B : Nat} {v : Value} {l : List Pc} (h : LsE T w g B v l) (k : Below w.heap.size w w') : LsE T w' g B v l := by
  rcases h with ⟨h1, h2, h3⟩ | h
  · exact .inl ⟨h1, h2, h3.same (k.block g h3.lt)⟩
  · exact .inr (h.grow k)
theorem cb_own {T : TypeId} {w : World} {g : Nat} (h : CB T w g []) {B : Nat} (hB : B ≤ g) : Own T w B (.slice (some ⟨g, 0, none⟩) 0 0) [] :=
  ⟨rfl, .inr ⟨g, 0, #[], rfl, hB, h, Nat.le_refl _, Nat.zero_le _, rfl, rfl⟩⟩
theorem LsE.own {T : TypeId} {w : World} {g B C : Nat} {v : Value} {l : List Pc} (h : LsE T w g B v l) (hg : C ≤ g) (hB : C ≤ B) : Own T w C v l := by
  rcases h with ⟨rfl, rfl, h3⟩ | h
  · exact cb_own h3 hg
  · exact h.mono hB
/-- One pair more: behind it the list lies in a block made since B. -/
theorem lse_append {T S : TypeId} (PT : PairT T S) {w : World} {ops : Array Oper} {rest : List Oper} {o : Oper} {a : Act} {Q : Exit → Act → World → Prop} (hgd : o.guard = none) (s x : Operand)
    (ho : o.op = .call { callee := .builtin .append, args := #[s, x], argTypes := #[S, S] }) {g B : Nat} (v : Value) (m : List Pc) (hs : a.eval s = v) (hown : LsE T w g B v m)
    (ad : Addr) (p : Pc) (hx : a.eval x = .slice (some ad) 1 1) (h0 : w.cell? (ad.add 0) = some (.int .i64 p.1)) (h1 : w.cell? (ad.add 1) = some (.int .i64 p.2)) (hm : m.length ≤ 1000000) (hB : B ≤ w.heap.size)
    (h : ∀ v' w', Own T w' B v' (m ++ [p]) → Below B w w' → wpList Try.prog ops Q rest (a.put o.dst v') w') : wpList Try.prog ops Q (o :: rest) a w := by
  rcases hown with ⟨rfl, rfl, _⟩ | hown
  · obtain ⟨i0, hi, hz0, hz1, hz2⟩ := info_parts PT.info
    refine wpList_append_grows w hgd s x S ho T i0 (.agg #[.int .i64 0, .int .i64 0]) 2 16 PT.slice hi hz0 hz1 hz2 rfl (by decide) _ 0 0 [] hs (fun e => by cases e) rfl (fun b _ j u hu => by simp at hu) ad 1 1 [.int .i64 p.1, .int .i64 p.2] hx rfl (fun j u hj => by
      match j, hj with
      | 0, hj => cases hj; exact h0
      | 1, hj => cases hj; exact h1) (by simp [Value.oneCell']) (by omega) (by unfold maxLen; omega) (by omega) ?_
    intro v' w' h2 h3
    refine h v' w' (Own.mono (B := w.heap.size) ?_ hB) ((Below.refl _ _).grown h3 hB fun k hk => by cases hk)
    exact h2
  · exact append_pair PT hgd s x ho v m hs hown ad p hx h0 h1 hm hB fun v' w' h2 h3 => h v' w' h2 (hown.below h3 hB)
/-- What l92Ties comes to. -/
def TiesDrawn (w : World) (b m : Nat) (e : Ending) (w' : World) : Prop :=
  ∃ v l, e = .returned v ∧ Own 39 w' w.heap.size v l ∧ Bd 100000 6 l ∧ At w' b (m + 20) ∧ Keep b w w'
set_option maxRecDepth 100000 in
set_option maxHeartbeats 6400000 in
theorem l92Ties_any {w : World} {b m : Nat} (h : At w b m) (hm : m ≤ 900000) :
    Calls Try.prog 40 #[.pointer (some ⟨b, 0, none⟩)] w fun e w' => TiesDrawn w b m e w' := by
  have hbw := h.lt
  have A0 := Lib.hid (h.alloc (.cells #[] 39))
  have O0 := Lib.hid (cb_new 39 w [])
  have K0 := Lib.hid (Keep.alloc b w (.cells #[] 39))
  clear h
  go_enter Try.func40, Try.ntmps40
  go_wp2_with fail
  refine (pick_at 6 A0.out (by omega)).mono ?_
  rintro e w1 ⟨x0, rfl, p1, q1, _, a1, k1⟩
  replace q1 := q1 (by decide)
  have O1 := Lib.hid (O0.out.same (k1.block w.heap.size (by simp) (by omega)))
  have A1 := Lib.hid a1; have K1 := Lib.hid (K0.out.trans k1)
  clear a1 k1 O0
  go_wp2_with fail
  refine (pick_at 6 A1.out (by omega)).mono ?_
  rintro e w2 ⟨y0, rfl, p2, q2, _, a2, k2⟩
  replace q2 := q2 (by decide)
  have O2 := Lib.hid ((O1.out.same (k2.block w.heap.size O1.out.lt (by omega))).alloc (.cells #[.int .i64 x0, .int .i64 y0] 39))
  have A2 := Lib.hid (a2.alloc (.cells #[.int .i64 x0, .int .i64 y0] 39))
  have K2 := Lib.hid ((K1.out.trans k2).trans (Keep.alloc b w2 (.cells #[.int .i64 x0, .int .i64 y0] 39)))
  have hb2 := a2.lt
  have hs2 := (K1.out.trans k2).size
  clear a2 k2 O1
  go_wp2_with fail
  refine (pick_at 6 A2.out (by omega)).mono ?_
  rintro e w3 ⟨r, rfl, p3, q3, _, a3, k3⟩
  replace q3 := q3 (by decide)
  obtain ⟨n, rfl⟩ : ∃ n : Nat, r = n := ⟨r.toNat, by omega⟩
  have O3 := Lib.hid (O2.out.same (k3.block w.heap.size O2.out.lt (by omega)))
  have A3 := Lib.hid a3; have K3 := Lib.hid (K2.out.trans k3)
  have C3 := Lib.hid ((cb_new 39 w2 [.int .i64 x0, .int .i64 y0]).same (k3.block w2.heap.size (by simp) (by omega)))
  have hz3 := k3.size
  obtain ⟨gt, hgt⟩ : ∃ g, w2.heap.size = g := ⟨_, rfl⟩
  obtain ⟨B, hB⟩ : ∃ B, w3.heap.size = B := ⟨_, rfl⟩
  have hgB : gt < B := by have := C3.out.lt; omega
  have hwt : w.heap.size ≤ gt := by omega
  have hbt : b ≠ gt := by omega
  have hBB : Hid (B ≤ w3.heap.size) := Lib.hid (by omega)
  rw [hgt] at C3
  clear a3 k3 O2 A0 A1 A2 K0 K1 K2 hB
  go_wp2_with fail
  clear hgt hs2 hb2 hz3
  go_loopg [3, 6] n (fun k v i wr => ∃ (j : Nat) (l : List Pc) (x y : Int), i = .int .i64 j ∧ j + k = n ∧ l.length = j ∧ (0 ≤ x ∧ x ≤ 10 + 6 * (j : Int)) ∧ (0 ≤ y ∧ y ≤ 10 + 6 * (j : Int)) ∧ Bd 100000 j l ∧ LsE 39 wr w.heap.size B v l ∧ CB 39 wr gt [.int .i64 x, .int .i64 y] ∧ At wr b (m + 3 + 2 * j) ∧ B ≤ wr.heap.size ∧ Keep b w wr)
  case atStart => exact ⟨0, [], x0, y0, rfl, by omega, rfl, by omega, by omega, ⟨by simp, fun p hp => by simp at hp⟩, .inl ⟨rfl, rfl, O3.out⟩, C3.out, A3.out.mono (by omega), hBB.out, K3.out⟩
  case round =>
    obtain ⟨j, l, x, y, rfl, hk, hl, hx, hy, hbd, ho, hc, hat, hBw, hke⟩ := hrel
    have K := Lib.hid hk; have O4 := Lib.hid ho; have A4 := Lib.hid hat; have K4 := Lib.hid hke; have HL := Lib.hid hl; have BD := Lib.hid hbd; have C4 := Lib.hid hc; have HB := Lib.hid hBw
    have hj5 : j ≤ n := by omega
    have c0 := hc.cell 0 _ rfl
    have c1 := hc.cell 1 _ rfl
    clear hk ho hat hke hl hbd O3 C3 A3 K3 hBB hc hBw
    by_cases hlt : (j : Int) < (n : Int)
    · have zx : IntKind.i64.wrap (x + 1) = x + 1 := IntWalk.i64_in _ (by omega)
      have zy : IntKind.i64.wrap (y + 1) = y + 1 := IntWalk.i64_in _ (by omega)
      obtain ⟨n1, n2⟩ := new_two wr (.int .i64 x) (.int .i64 y) 39
      have N1 := Lib.hid n1; have N2 := Lib.hid n2
      have BW := Lib.hid ((Below.refl wr.heap.size wr).alloc (Nat.le_refl _) (.cells #[.int .i64 x, .int .i64 y] 39))
      clear n1 n2
      go_wp2_with (at_builtin; refine lse_append tieT' rfl _ _ rfl (g := w.heap.size) (B := B) _ l rfl (O4.out.grow BW.out) ⟨wr.heap.size, 0, none⟩ (x, y) rfl N1.out N2.out (by have := HL.out; omega) (by have := HB.out; simp; omega) ?_; intro v8 w8 hown8 hb8)
      have O8 := Lib.hid hown8
      have B8 := Lib.hid ((BW.out.mono HB.out).trans hb8)
      have A8 := Lib.hid (A4.out.below (B8.out.mono (by omega)))
      have K8 := Lib.hid (K4.out.grow (Below.mono B8.out (by omega)))
      have C8 := Lib.hid (C4.out.same (B8.out.block gt hgB))
      have hs8 : B ≤ w8.heap.size := Nat.le_trans HB.out B8.out.size
      have mkS : ∀ w' : World, CB 39 w' gt [.int .i64 x, .int .i64 y] → (w'.cell? ⟨gt, 0, none⟩ = some (.int .i64 x) ∧ w'.cell? ⟨gt, 1, none⟩ = some (.int .i64 y) ∧ w'.frozen? ⟨gt, 0, none⟩ = false ∧ w'.frozen? ⟨gt, 1, none⟩ = false) := fun w' h => ⟨h.cell 0 _ rfl, h.cell 1 _ rfl, h.froz 0, h.froz 1⟩
      have CD : Hid (CB 39 w8.drew gt [.int .i64 x, .int .i64 y]) := Lib.hid C8.out
      clear hown8 hb8 c0 c1
      go_wp2_with fail
      refine calm_region 13 (fun w' => (w'.cell? ⟨gt, 0, none⟩ = some (.int .i64 x) ∧ w'.cell? ⟨gt, 1, none⟩ = some (.int .i64 y) ∧ w'.frozen? ⟨gt, 0, none⟩ = false ∧ w'.frozen? ⟨gt, 1, none⟩ = false)) (by kernel_rfl) (by exact mkS _ CD.out) (fun hHeld => ?_)
      refine take_l 0 24 rfl rfl (by kernel_rfl) (by kernel_rfl) (by kernel_rfl) (by kernel_rfl) (fun _ _ _ h => h) (by kernel_rfl) (by intro w hSw; (try dsimp only at hSw); go_simp; try with_reducible rfl) (by assumption) ?_
      refine take_l 1 25 rfl rfl (by kernel_rfl) (by kernel_rfl) (by kernel_rfl) (by kernel_rfl) (fun _ _ _ h => h) (by kernel_rfl) (by intro w hSw; (try dsimp only at hSw); go_simp; try with_reducible rfl) (by assumption) ?_
      refine take_l 2 26 rfl rfl (by kernel_rfl) (by kernel_rfl) (by kernel_rfl) (by kernel_rfl) (fun _ _ _ h => h) (by kernel_rfl) (by intro w hSw; (try dsimp only at hSw); go_simp; try with_reducible rfl) (by assumption) ?_
      refine take_l 3 27 rfl rfl (by kernel_rfl) (by kernel_rfl) (by kernel_rfl) (by kernel_rfl) (fun _ _ _ h => h) (by kernel_rfl) (by intro w hSw; (try dsimp only at hSw); go_simp; try with_reducible rfl) (by assumption) ?_
      refine take_l 6 30 rfl rfl (by kernel_rfl) (by kernel_rfl) (by kernel_rfl) (by kernel_rfl) (fun _ _ _ h => h) (by kernel_rfl) (by intro w hSw; (try dsimp only at hSw); go_simp; try with_reducible rfl) (by assumption) ?_
      refine take_l 7 31 rfl rfl (by kernel_rfl) (by kernel_rfl) (by kernel_rfl) (by kernel_rfl) (fun _ _ _ h => h) (by kernel_rfl) (by intro w hSw; (try dsimp only at hSw); go_simp; try with_reducible rfl) (by assumption) ?_
      refine take_l 8 32 rfl rfl (by kernel_rfl) (by kernel_rfl) (by kernel_rfl) (by kernel_rfl) (fun _ _ _ h => h) (by kernel_rfl) (by intro w hSw; (try dsimp only at hSw); go_simp; try with_reducible rfl) (by assumption) ?_
      refine take_l 9 33 rfl rfl (by kernel_rfl) (by kernel_rfl) (by kernel_rfl) (by kernel_rfl) (fun _ _ _ h => h) (by kernel_rfl) (by intro w hSw; (try dsimp only at hSw); go_simp; try with_reducible rfl) (by assumption) ?_
      refine step_l 4 (by kernel_rfl) rfl (fun K hK => ?_)
      go_simp
      go_wp2_with ((go_at_call 41; refine (pick_at 5 A8.out.drew (by omega)).mono ?_; rintro e w5 ⟨q5, rfl, p5, r5, _, a5, k5⟩; replace r5 := r5 (by decide); have C5 := Lib.hid (CD.out.same (k5.block gt CD.out.lt (Ne.symm hbt))); have A5 := Lib.hid a5; have K5 := Lib.hid ((K8.out.trans (Keep.drew _ _)).trans k5); have hs5 : w8.heap.size ≤ w5.heap.size := k5.size; have O5 := Lib.hid ((O8.out.grow (Below.refl _ _).drew).keep k5 (by omega)); have z5 : IntKind.i64.wrap (x + 1 + q5) = x + 1 + q5 := IntWalk.i64_in _ (by omega); clear a5 k5))
      refine hK.out _ _ (by (try dsimp only); exact mkS _ C5.out) (fun hHeld => ?_)
      clear hK K
      refine take_l 5 29 rfl rfl (by kernel_rfl) (by kernel_rfl) (by kernel_rfl) (by kernel_rfl) (fun _ _ _ h => h) (by kernel_rfl) (by intro w hSw; (try dsimp only at hSw); go_simp; try with_reducible rfl) (by assumption) ?_
      refine step_l 10 (by kernel_rfl) rfl (fun K hK => ?_)
      go_simp
      go_wp2_with ((go_at_call 41; refine (pick_at 5 A5.out (by omega)).mono ?_; rintro e w6 ⟨q6, rfl, p6, r6, _, a6, k6⟩; replace r6 := r6 (by decide); have C6 := Lib.hid (C5.out.same (k6.block gt C5.out.lt (Ne.symm hbt))); have A6 := Lib.hid a6; have K6 := Lib.hid (K5.out.trans k6); have hs6 : w5.heap.size ≤ w6.heap.size := k6.size; have O6 := Lib.hid (O5.out.keep k6 (by omega)); have z6 : IntKind.i64.wrap (y + 1 + q6) = y + 1 + q6 := IntWalk.i64_in _ (by omega); clear a6 k6))
      refine hK.out _ _ (by (try dsimp only); exact mkS _ C6.out) (fun hHeld => ?_)
      clear hK K
      refine take_l 11 35 rfl rfl (by kernel_rfl) (by kernel_rfl) (by kernel_rfl) (by kernel_rfl) (fun _ _ _ h => h) (by kernel_rfl) (by intro w hSw; (try dsimp only at hSw); go_simp; try with_reducible rfl) (by assumption) ?_
      refine take_l 12 36 rfl rfl (by kernel_rfl) (by kernel_rfl) (by kernel_rfl) (by kernel_rfl) (fun _ _ _ h => h) (by kernel_rfl) (by intro w hSw; (try dsimp only at hSw); go_simp; try with_reducible rfl) (by assumption) ?_
      refine last_l (by kernel_rfl) rfl (by kernel_rfl) (fun K hK => ?_)
      go_simp
      refine hK.out _ _ ?_
      clear hK K
      try simp only [Exit.then]
      try simp only [Act.put, List.setIfInBounds_toArray, List.set_cons_succ, List.set_cons_zero]
      go_wp2_with fail
      have C9 := Lib.hid ((C6.out.set 0 (.int .i64 (x + 1 + q5))).set 1 (.int .i64 (y + 1 + q6)))
      have S9 := Lib.hid (((Below.refl gt w6).setCell (p := ⟨gt, 0, none⟩) (Nat.le_refl _) (.int .i64 (x + 1 + q5))).setCell (p := ⟨gt, 1, none⟩) (Nat.le_refl _) (.int .i64 (y + 1 + q6)))
      have A9 := Lib.hid (A6.out.below (S9.out.mono (by omega)))
      have K9 := Lib.hid (K6.out.grow (S9.out.mono hwt))
      have hz6 := K6.out.size
      have O9 := Lib.hid (O6.out.same (w' := (w6.setCell ⟨gt, 0, none⟩ (.int .i64 (x + 1 + q5))).setCell ⟨gt, 1, none⟩ (.int .i64 (y + 1 + q6))) fun k hk => by
        have h9 := (O6.out.lt k hk).1
        rw [Below.heap_setCell _ ⟨gt, 1, none⟩ _ k (by simp; omega), Below.heap_setCell _ ⟨gt, 0, none⟩ _ k (by simp; omega)])
      have hs9 : B ≤ ((w6.setCell ⟨gt, 0, none⟩ (.int .i64 (x + 1 + q5))).setCell ⟨gt, 1, none⟩ (.int .i64 (y + 1 + q6))).heap.size := by
        have h1 := S9.out.size
        omega
      have BD9 := Lib.hid (BD.out.snoc (x, y) ⟨⟨by show -100000 ≤ x; omega, by show x ≤ 100000; omega⟩, by show -100000 ≤ y; omega, by show y ≤ 100000; omega⟩)
      go_roundg (gk - 1)
      case measure => have := K.out; omega
      case rel => exact ⟨j + 1, l ++ [(x, y)], x + 1 + q5, y + 1 + q6, by go_num, by have := K.out; omega, by have := HL.out; simp; omega, by omega, by omega, BD9.out, .inr O9.out, C9.out, A9.out.mono (by omega), hs9, K9.out⟩
    · have hjn : j = n := by omega
      have OW := Lib.hid (O4.out.own (Nat.le_refl w.heap.size) (by omega))
      clear O4 C4 c0 c1
      by_cases hn : (n : Int) > 0
      · have hn0 : (0 : Int) < (n : Int) := hn
        have hn1 : IntKind.i64.wrap ((n : Int) - 1) = (n : Int) - 1 := IntWalk.i64_in _ (by omega)
        go_wp2_with fail
        refine (pick_at 40 A4.out (by omega)).mono ?_
        rintro e w5 ⟨q, rfl, p5, q5, _, a5, k5⟩
        replace q5 := q5 (by decide)
        have A5 := Lib.hid (a5.mono (show m + 3 + 2 * j + 1 ≤ m + 15 by omega))
        have K5 := Lib.hid (K4.out.trans k5)
        have O5 := Lib.hid (OW.out.keep k5 hbw)
        have hs5 := K5.out.size
        clear a5 k5
        have hl1 : 1 ≤ l.length := by have := HL.out; omega
        have hl5 : l.length ≤ 5 := by have := HL.out; omega
        obtain ⟨r, hr⟩ : ∃ r, n - 1 = r := ⟨_, rfl⟩
        have hrl : r < l.length := by have := HL.out; omega
        have wr1 : IntKind.i64.wrap ((n : Int) - 1) = (r : Int) := by rw [show (n : Int) - 1 = (r : Int) by omega]; exact IntWalk.i64_in _ (by omega)
        have r0 : (0 : Int) ≤ (r : Int) := by omega
        have r1 : (r : Int) < (l.length : Int) := by omega
        clear hn1 hr
        obtain ⟨g, cap, hu, hcap, hcapm, hBg, hgw, hp⟩ := O5.out.at (by omega)
        unfold maxLen at hcapm
        have h0 := (hp r hrl).top
        have h1 := (hp r hrl).bot
        have f0 := (hp r hrl).f0
        have b0 := BD.out.get r hrl
        by_cases e0 : q = 0
        · subst e0
          obtain ⟨n1, n2⟩ := new_two w5 (.int .i64 l[r].1) (.int .i64 l[r].2) 39
          have N1 := Lib.hid n1; have N2 := Lib.hid n2
          have BW := Lib.hid ((Below.refl w5.heap.size w5).alloc (Nat.le_refl _) (.cells #[.int .i64 l[r].1, .int .i64 l[r].2] 39))
          clear hp n1 n2 f0
          subst hu
          go_wp2_with (at_builtin; refine append_pair tieT' rfl _ _ rfl (B := w.heap.size) _ l rfl (O5.out.grow BW.out) ⟨w5.heap.size, 0, none⟩ l[r] rfl N1.out N2.out (by omega) (by simp; omega) ?_; intro v8 w8 hown8 hg8)
          have O8 := Lib.hid hown8
          have B8 := Lib.hid ((BW.out.mono hs5).trans ((O5.out.grow BW.out).below hg8 (by simp; omega)))
          have A8 := Lib.hid (A5.out.below (B8.out.mono hbw))
          clear hown8 hg8
          go_wp2_with fail
          go_ret
          exact ⟨_, l ++ [l[r]], rfl, O8.out, (BD.out.snoc l[r] b0).mono (by omega) (by omega), A8.out.mono (by omega), K5.out.grow B8.out⟩
        · by_cases e1 : q = 1
          · subst e1
            have S0 := Lib.hid ((hp r hrl).setTop 30001)
            clear hp e0
            subst hu
            go_wp2_with fail
            go_ret
            exact ⟨_, l.set r (30001, l[r].2), rfl, S0.out, (BD.out.set r (30001, l[r].2) ⟨by show -100000 ≤ (30001 : Int) ∧ (30001 : Int) ≤ 100000; omega, b0.2⟩).mono (by omega) (by omega), (A5.out.below (((Below.refl _ _).setCell (p := ⟨g, r * 2, none⟩) hBg _).mono hbw)).mono (by omega), K5.out.grow ((Below.refl _ _).setCell (p := ⟨g, r * 2, none⟩) hBg _)⟩
          · have f2 : (q == 0) = false := by simpa using e0
            have f3 : (q == 1) = false := by simpa using e1
            clear e0 e1 hp h0 h1 f0
            subst hu
            go_wp2_with fail
            go_ret
            exact ⟨_, l, rfl, O5.out, BD.out.mono (by omega) (by omega), A5.out.mono (by omega), K5.out⟩
      · have hn0 : ¬ (0 : Int) < (n : Int) := hn
        go_wp2_with fail
        go_ret
        exact ⟨_, l, rfl, OW.out, BD.out.mono (by omega) (by omega), A4.out.mono (by omega), K4.out⟩
/-- What l92Some comes to. -/
def SomeDrawn (w : World) (b m n : Nat) (e : Ending) (w' : World) : Prop :=
  ∃ v l, e = .returned v ∧ Own 39 w' w.heap.size v l ∧ Bd 100000 n l ∧ At w' b (m + n) ∧ Keep b w w'
set_option maxRecDepth 100000 in
set_option maxHeartbeats 3200000 in
theorem l92Some_any {w : World} {b m n B0 : Nat} {v : Value} {l : List Pc} (h : At w b m) (hm : m ≤ 900000) (hv : Own 39 w B0 v l) (hb0 : b < B0) (hl : Bd 100000 n l) (hn : n ≤ 100) :
    Calls Try.prog 75 #[.pointer (some ⟨b, 0, none⟩), v] w fun e w' => SomeDrawn w b m n e w' := by
  have hbw := h.lt
  obtain ⟨pl, cl, rfl, cl1, cl2⟩ := hv.row.len
  unfold maxLen at cl2
  have ln := hl.1
  have A0 := Lib.hid (h.alloc (.cells #[] 39))
  have O0 := Lib.hid (own_new 39 (Nat.le_refl w.heap.size))
  have K0 := Lib.hid (Keep.alloc b w (.cells #[] 39))
  have V0 := Lib.hid hv; have BL := Lib.hid hl
  clear h hv hl
  go_enter Try.func75, Try.ntmps75
  go_wp2_with fail
  go_loopg [5, 6] l.length (fun k x i wr => ∃ (j : Nat) (L : List Pc), i = .int .i64 j ∧ j + k = l.length ∧ Bd 100000 j L ∧ Own 39 wr w.heap.size x L ∧ At wr b (m + j) ∧ Keep b w wr)
  case atStart => exact ⟨0, [], rfl, by omega, ⟨by simp, fun p hp => by simp at hp⟩, O0.out, A0.out, K0.out⟩
  case round =>
    obtain ⟨j, L, rfl, hk, hbd, ho, hat, hke⟩ := hrel
    have K := Lib.hid hk; have O4 := Lib.hid ho; have A4 := Lib.hid hat; have K4 := Lib.hid hke; have BD := Lib.hid hbd
    have hjl : j ≤ l.length := by omega
    clear hk ho hat hke hbd O0 A0 K0
    by_cases hlt : j < l.length
    · have j1 : (j : Int) < (l.length : Int) := by omega
      have j0 : (0 : Int) ≤ (j : Int) := by omega
      go_wp2_with fail
      refine (pick_at 2 A4.out (by omega)).mono ?_
      rintro e w5 ⟨q, rfl, p5, q5, _, a5, k5⟩
      replace q5 := q5 (by decide)
      have A5 := Lib.hid a5; have K5 := Lib.hid (K4.out.trans k5); have O5 := Lib.hid (O4.out.keep k5 hbw)
      have V5 := Lib.hid (V0.out.keep K5.out hb0)
      have hs5 := K5.out.size
      clear a5 k5
      by_cases z : q = 0
      · subst z
        obtain ⟨g, cap, hu, hcap, hcapm, hBg, hgw, hp⟩ := V5.out.at (by omega)
        simp only [Value.slice.injEq, true_and] at hu
        obtain ⟨rfl, rfl⟩ := hu
        have h0 := (hp j hlt).top
        have h1 := (hp j hlt).bot
        have bj := BL.out.get j hlt
        obtain ⟨n1, n2⟩ := new_two w5 (.int .i64 l[j].1) (.int .i64 l[j].2) 39
        have N1 := Lib.hid n1; have N2 := Lib.hid n2
        have BW := Lib.hid ((Below.refl w5.heap.size w5).alloc (Nat.le_refl _) (.cells #[.int .i64 l[j].1, .int .i64 l[j].2] 39))
        have BL8 := BD.out.1
        clear hp n1 n2
        go_wp2_with (at_builtin; refine append_pair tieT' rfl _ _ rfl (B := w.heap.size) _ L rfl (O5.out.grow BW.out) ⟨w5.heap.size, 0, none⟩ l[j] rfl N1.out N2.out (by omega) (by simp; omega) ?_; intro v8 w8 hown8 hg8)
        have O8 := Lib.hid hown8
        have B8 := Lib.hid ((BW.out.mono hs5).trans ((O5.out.grow BW.out).below hg8 (by simp; omega)))
        have A8 := Lib.hid (A5.out.below (B8.out.mono hbw))
        have K8 := Lib.hid (K5.out.grow B8.out)
        have BD8 := Lib.hid (BD.out.snoc l[j] bj)
        clear hown8 hg8
        go_wp2_with fail
        go_roundg (gk - 1)
        case measure => have := K.out; omega
        case rel => exact ⟨j + 1, _, by go_num, by have := K.out; omega, BD8.out, O8.out, A8.out, K8.out⟩
      · have e0 : (q == 0) = false := by simpa using z
        clear z
        go_wp2_with fail
        go_roundg (gk - 1)
        case measure => have := K.out; omega
        case rel => exact ⟨j + 1, L, by go_num, by have := K.out; omega, BD.out.mono (by omega) (by omega), O5.out, A5.out, K5.out⟩
    · go_wp2_with fail
      go_ret
      exact ⟨_, L, rfl, O4.out, BD.out.mono (by omega) (by omega), A4.out.mono (by omega), K4.out⟩
end Go.Proofs.Ythhdpjkmjebjhab
