/- The contracts of the program's functions on ties, second part: turned ties, ties through a second core. -/
import Derived.Test.YthhdpjkmjebjhabTieN
import Derived.Test.YthhdpjkmjebjhabTieCurveB
namespace Go.Proofs.Ythhdpjkmjebjhab
open Go.RowKit

abbrev RGt (w : World) (b r n : Nat) (G : Int → Int → Prop) (S : Int → Prop) (cnt : Nat) : Prop := RG Try.prog 3 w b r n G S cnt
theorem turn_put {l : List Ti} (h : isTies l = true) {S : Int → Prop} {x c : Int} (hx : (x, c) ∈ l) (p q : Int) :
    ((p = c ∧ q = x) ∨ (p ≠ c ∧ (q, p) ∈ l ∧ ¬ S q)) ↔ (q, p) ∈ l ∧ ¬ (S q ∧ q ≠ x) := by
  have up := (isTies_iff.1 h).1.up
  constructor
  · rintro (⟨rfl, rfl⟩ | ⟨_, h1, h2⟩)
    · exact ⟨hx, fun k => k.2 rfl⟩
    · exact ⟨h1, fun k => h2 k.1⟩
  · rintro ⟨h1, h2⟩
    by_cases e : p = c
    · subst e
      have := ord_snd up h1 hx rfl
      exact .inl ⟨rfl, congrArg Prod.fst this⟩
    · refine .inr ⟨e, h1, fun k => h2 ⟨k, fun e2 => e ?_⟩⟩
      subst e2
      exact congrArg Prod.snd (ord_fst up h1 hx rfl)
set_option maxRecDepth 100000 in
set_option maxHeartbeats 1600000 in
theorem implTurn_any {w : World} {v : Value} {l : List Pc} (h : Row w v l) :
    Calls Try.prog 16 #[v] w fun e w' => LstB TI w (turnT l) e w' := by
  have H := Lib.hid h
  clear h
  cases hc : isTies l
  · have HC := Lib.hid hc
    have R := Lib.hid (turnT_no hc)
    clear hc
    go_enter Try.func16, Try.ntmps16
    go_wp2_with fail
    refine (mapOf_any H.out).mono ?_
    rintro e w1 ⟨mb, rfl, -, -, b1⟩
    have O1 := lst_new w1 b1
    rw [HC.out]
    go_wp2_with fail
    go_ret2
    rw [R.out]
    exact ⟨_, rfl, O1.out.1, O1.out.2⟩
  have HC := Lib.hid hc
  have R := Lib.hid (turnT_yes hc)
  have SW := Lib.hid (up_swap (isTies_iff.1 hc).1.up)
  clear hc
  go_enter Try.func16, Try.ntmps16
  go_wp2_with fail
  refine (mapOf_any H.out).mono ?_
  rintro e w1 ⟨mb, rfl, hmb, m1, b1⟩
  have M1 : Hid (IMt w1 mb 12 (fun x y => (x, y) ∈ l)) := Lib.hid (m1.iff fun x y => ⟨fun k => k.2, fun k => ⟨HC.out, k⟩⟩)
  have hml := M1.out.lt
  rw [HC.out]
  clear m1
  have mk := made_tieMap w1
  have T1 : Hid (IMt (w1.alloc (.map #[] 0)) w1.heap.size 0 (fun _ _ => False)) := Lib.hid (im_new _ _ w1)
  have A1 : Hid (Below w1.heap.size w1 (w1.alloc (.map #[] 0))) := Lib.hid ((Below.refl _ _).alloc (Nat.le_refl _) _)
  have M2 := Lib.hid (M1.out.grow A1.out)
  have B2 := Lib.hid (b1.trans (A1.out.mono b1.size))
  have hz := b1.size
  clear b1
  go_wp2_with (at_range; refine wpList_im_range rfl _ TM rfl tieMapT rfl M2.out ?_; intro w2 cnt hcn rg2 g2 z2)
  go_frame
  have sz : (w1.alloc (.map #[] 0)).heap.size = w1.heap.size + 1 := by simp
  have T2 := Lib.hid (T1.out.same (g2.block _ T1.out.lt (by simp)))
  have RG2 := Lib.hid rg2
  have B3 : Hid (Below w.heap.size w w2) := Lib.hid (B2.out.grown g2 (by simp; omega) (fun k hk => by cases hk))
  clear rg2 g2
  rw [sz] at RG2 z2 ⊢
  go_loopg [] 12 (fun k wr => ∃ (S : Int → Prop) (c n : Nat), c ≤ k ∧ n + c ≤ 12 ∧ RGt wr mb (w1.heap.size + 1) 12 (fun x y => (x, y) ∈ l) S c ∧ IMt wr w1.heap.size n (fun y x => (x, y) ∈ l ∧ ¬ S x) ∧ Below w.heap.size w wr)
  case atStart => exact ⟨_, cnt, 0, hcn, by omega, RG2.out, T2.out.iff fun y x => ⟨fun k => k.elim, fun k => k.2 ⟨y, k.1⟩⟩, B3.out⟩
  case round =>
    obtain ⟨S, c, n, hck, hnc, hrg, hm, hb⟩ := hrel
    have K := Lib.hid hck; have RGo := Lib.hid hrg; have M := Lib.hid hm; have B := Lib.hid hb
    have lts := hrg.lt
    have tl := hm.lt
    clear hck hrg hm hb
    go_wp2_with (at_next; refine wpList_im_next rfl _ rfl tieMapT rfl RGo.out ?_ ?_)
    · intro hc0 hS
      have ME : Hid (IMt wr w1.heap.size 24 (fun y x => (x, y) ∈ l)) := Lib.hid ((M.out.mono (by omega)).iff fun y x => ⟨fun k => k.1, fun k => ⟨k, hS x⟩⟩)
      clear hS
      go_wp2_with fail
      refine (sortI_any ME.out (by omega)).mono ?_
      rintro e w5 ⟨x, L, rfl, o5, so, -, b5⟩
      have E : Hid (L = l.map swapT) := Lib.hid (so.ord SW.out fun x => mem_swap)
      have O5 := Lib.hid (o5.mono B.out.size); have B5 := Lib.hid (B.out.trans (b5.mono B.out.size))
      clear o5 so b5
      go_wp2_with fail
      go_ret2
      rw [R.out]
      refine ⟨_, rfl, ?_, B5.out⟩
      rw [E.out] at O5
      exact O5.out
    · intro x c2 w5 cnt5 hG hSx rg5 hlt5 g5 z5 hen
      have T5 := Lib.hid (M.out.same (g5.block _ tl (by simp)))
      have RG5 := Lib.hid rg5; have HG := Lib.hid hG
      have B5 := Lib.hid (B.out.grown g5 (by omega) (fun k hk => by cases hk; omega))
      obtain ⟨f1, f2⟩ := tie64' HC.out hG
      have F1 := Lib.hid f1; have F2 := Lib.hid f2
      clear hG hSx rg5 f1 f2 g5
      go_wp2_with (at_mapUpdate; refine wpList_im_put rfl _ _ _ TM rfl tieMapT rfl T5.out (by unfold maxLen; omega) _ _ rfl rfl F2.out F1.out ?_; intro w6 m6 g6; have M6 := Lib.hid m6; have RG6 := Lib.hid (RG5.out.grown g6 (by omega) (by omega)); have B6 := Lib.hid (B5.out.grown g6 (by omega) (fun k hk => by cases hk; omega)); clear m6 g6)
      go_roundg (gk - 1)
      case measure => have := K.out; omega
      case rel => exact ⟨_, cnt5, n + 1, by have := K.out; omega, by omega, RG6.out, M6.out.iff (turn_put HC.out HG.out), B6.out⟩
theorem thr_put {a b : List Ti} (h : isTies a = true) (k : isTies b = true) {S : Int → Prop} {x c z : Int} (hx : (x, c) ∈ a) (hz : (c, z) ∈ b) (p q : Int) :
    ((p = x ∧ q = z) ∨ (p ≠ x ∧ (∃ y, (p, y) ∈ a ∧ (y, q) ∈ b) ∧ ¬ S p)) ↔ (∃ y, (p, y) ∈ a ∧ (y, q) ∈ b) ∧ ¬ (S p ∧ p ≠ x) := by
  have ua := (isTies_iff.1 h).1.up
  have ub := (isTies_iff.1 k).1.up
  constructor
  · rintro (⟨rfl, rfl⟩ | ⟨_, h1, h2⟩)
    · exact ⟨⟨c, hx, hz⟩, fun k => k.2 rfl⟩
    · exact ⟨h1, fun k => h2 k.1⟩
  · rintro ⟨⟨y, h1, h3⟩, h2⟩
    by_cases e : p = x
    · subst e
      obtain rfl : y = c := congrArg Prod.snd (ord_fst ua h1 hx rfl)
      exact .inl ⟨rfl, congrArg Prod.snd (ord_fst ub h3 hz rfl)⟩
    · exact .inr ⟨e, ⟨y, h1, h3⟩, fun k => h2 ⟨k, e⟩⟩
theorem thr_pass {a b : List Ti} (h : isTies a = true) {S : Int → Prop} {x c : Int} (hx : (x, c) ∈ a) (hz : ∀ z, ¬ (c, z) ∈ b) (p q : Int) :
    ((∃ y, (p, y) ∈ a ∧ (y, q) ∈ b) ∧ ¬ S p) ↔ (∃ y, (p, y) ∈ a ∧ (y, q) ∈ b) ∧ ¬ (S p ∧ p ≠ x) := by
  have ua := (isTies_iff.1 h).1.up
  constructor
  · rintro ⟨h1, h2⟩
    exact ⟨h1, fun k => h2 k.1⟩
  · rintro ⟨⟨y, h1, h3⟩, h2⟩
    by_cases e : p = x
    · subst e
      obtain rfl : y = c := congrArg Prod.snd (ord_fst ua h1 hx rfl)
      exact absurd h3 (hz q)
    · exact ⟨⟨y, h1, h3⟩, fun k => h2 ⟨k, e⟩⟩
set_option maxRecDepth 100000 in
set_option maxHeartbeats 1600000 in
theorem implThr_any {w : World} {v u : Value} {a b : List Pc} (h : Row w v a) (k : Row w u b) :
    Calls Try.prog 13 #[v, u] w fun e w' => LstB TI w (thrT a b) e w' := by
  have H := Lib.hid h; have H' := Lib.hid k
  clear h k
  cases ha : isTies a
  · have HA := Lib.hid ha
    have R := Lib.hid (thrT_no (l := a) (k := b) (.inl ha))
    clear ha
    go_enter Try.func13, Try.ntmps13
    go_wp2_with fail
    refine (mapOf_any H.out).mono ?_
    rintro e w1 ⟨mb, rfl, -, -, b1⟩
    rw [HA.out]
    go_wp2_with fail
    refine (mapOf_any (H'.out.grow b1)).mono ?_
    rintro e w2 ⟨ma, rfl, -, -, b2⟩
    have O1 := lst_new w2 (b1.trans (b2.mono b1.size))
    go_wp2_with fail
    go_ret2
    rw [R.out]
    exact ⟨_, rfl, O1.out.1, O1.out.2⟩
  have HA := Lib.hid ha
  cases hb : isTies b
  · have HB := Lib.hid hb
    have R := Lib.hid (thrT_no (l := a) (k := b) (.inr hb))
    clear ha hb
    go_enter Try.func13, Try.ntmps13
    go_wp2_with fail
    refine (mapOf_any H.out).mono ?_
    rintro e w1 ⟨mb, rfl, -, -, b1⟩
    rw [HA.out]
    go_wp2_with fail
    refine (mapOf_any (H'.out.grow b1)).mono ?_
    rintro e w2 ⟨ma, rfl, -, -, b2⟩
    have O1 := lst_new w2 (b1.trans (b2.mono b1.size))
    rw [HB.out]
    go_wp2_with fail
    go_ret2
    rw [R.out]
    exact ⟨_, rfl, O1.out.1, O1.out.2⟩
  have HB := Lib.hid hb
  have R := Lib.hid (thrT_yes ha hb)
  have SW := Lib.hid (thr_up (isTies_iff.1 ha).1.up (isTies_iff.1 hb).1.up)
  clear ha hb
  go_enter Try.func13, Try.ntmps13
  go_wp2_with fail
  refine (mapOf_any H.out).mono ?_
  rintro e w0 ⟨mb, rfl, hmb, m0, b0⟩
  have M0 : Hid (IMt w0 mb 12 (fun x y => (x, y) ∈ a)) := Lib.hid (m0.iff fun x y => ⟨fun k => k.2, fun k => ⟨HA.out, k⟩⟩)
  rw [HA.out]
  clear m0
  go_wp2_with fail
  refine (mapOf_any (H'.out.grow b0)).mono ?_
  rintro e w1 ⟨ma, rfl, hma, n1, b1⟩
  have N1 : Hid (IMt w1 ma 12 (fun x y => (x, y) ∈ b)) := Lib.hid (n1.iff fun x y => ⟨fun k => k.2, fun k => ⟨HB.out, k⟩⟩)
  have M1 := Lib.hid (M0.out.grow b1)
  have hml := M1.out.lt
  have hnl := N1.out.lt
  have hm0 := M0.out.lt
  rw [HB.out]
  clear n1
  have mk := made_tieMap w1
  have T1 : Hid (IMt (w1.alloc (.map #[] 0)) w1.heap.size 0 (fun _ _ => False)) := Lib.hid (im_new _ _ w1)
  have A1 : Hid (Below w1.heap.size w1 (w1.alloc (.map #[] 0))) := Lib.hid ((Below.refl _ _).alloc (Nat.le_refl _) _)
  have M2 := Lib.hid (M1.out.grow A1.out)
  have N2 := Lib.hid (N1.out.grow A1.out)
  have b01 := b0.trans (b1.mono b0.size)
  have B2 := Lib.hid (b01.trans (A1.out.mono b01.size))
  have hz := b01.size
  have hz0 := b0.size
  clear b1 b0 b01
  go_wp2_with (at_range; refine wpList_im_range rfl _ TM rfl tieMapT rfl M2.out ?_; intro w2 cnt hcn rg2 g2 z2)
  go_frame
  have sz : (w1.alloc (.map #[] 0)).heap.size = w1.heap.size + 1 := by simp
  have T2 := Lib.hid (T1.out.same (g2.block _ T1.out.lt (by simp)))
  have N3 := Lib.hid (N2.out.same (g2.block _ N2.out.lt (by simp)))
  have RG2 := Lib.hid rg2
  have B3 : Hid (Below w.heap.size w w2) := Lib.hid (B2.out.grown g2 (by simp; omega) (fun k hk => by cases hk))
  clear rg2 g2
  rw [sz] at RG2 z2 ⊢
  go_loopg [] 12 (fun k wr => ∃ (S : Int → Prop) (c n : Nat), c ≤ k ∧ n + c ≤ 12 ∧ RGt wr mb (w1.heap.size + 1) 12 (fun x y => (x, y) ∈ a) S c ∧ IMt wr ma 12 (fun x y => (x, y) ∈ b) ∧ IMt wr w1.heap.size n (fun x z => (∃ y, (x, y) ∈ a ∧ (y, z) ∈ b) ∧ ¬ S x) ∧ Below w.heap.size w wr)
  case atStart => exact ⟨_, cnt, 0, hcn, by omega, RG2.out, N3.out, T2.out.iff fun x z => ⟨fun k => k.elim, fun ⟨⟨y, k1, _⟩, k2⟩ => k2 ⟨y, k1⟩⟩, B3.out⟩
  case round =>
    obtain ⟨S, c, n, hck, hnc, hrg, hn, hm, hb⟩ := hrel
    have K := Lib.hid hck; have RGo := Lib.hid hrg; have N := Lib.hid hn; have M := Lib.hid hm; have B := Lib.hid hb
    have lts := hrg.lt
    have tl := hm.lt
    have nl := hn.lt
    clear hck hrg hm hn hb
    go_wp2_with (at_next; refine wpList_im_next rfl _ rfl tieMapT rfl RGo.out ?_ ?_)
    · intro hc0 hS
      have ME : Hid (IMt wr w1.heap.size 24 (fun x z => ∃ y, (x, y) ∈ a ∧ (y, z) ∈ b)) := Lib.hid ((M.out.mono (by omega)).iff fun x z => ⟨fun k => k.1, fun k => ⟨k, hS x⟩⟩)
      clear hS
      go_wp2_with fail
      refine (sortI_any ME.out (by omega)).mono ?_
      rintro e w5 ⟨x, L, rfl, o5, so, -, b5⟩
      have E : Hid (L = thr a b) := Lib.hid (so.ord SW.out fun x => mem_thr)
      have O5 := Lib.hid (o5.mono B.out.size); have B5 := Lib.hid (B.out.trans (b5.mono B.out.size))
      clear o5 so b5
      go_wp2_with fail
      go_ret2
      rw [R.out]
      refine ⟨_, rfl, ?_, B5.out⟩
      rw [E.out] at O5
      exact O5.out
    · intro x c2 w5 cnt5 hG hSx rg5 hlt5 g5 z5 hen
      have T5 := Lib.hid (M.out.same (g5.block _ tl (by simp)))
      have N5 := Lib.hid (N.out.same (g5.block _ nl (by simp; omega)))
      have RG5 := Lib.hid rg5; have HG := Lib.hid hG
      have B5 := Lib.hid (B.out.grown g5 (by omega) (fun k hk => by cases hk; omega))
      obtain ⟨f1, f2⟩ := tie64' HA.out hG
      have F1 := Lib.hid f1; have F2 := Lib.hid f2
      clear hG hSx rg5 f1 f2 g5
      rcases N5.out.look tieMapT F2.out with ⟨z, hz1, lk⟩ | ⟨hz1, lk⟩
      · have HZ := Lib.hid hz1
        have F3 := Lib.hid (tie64' HB.out hz1).2
        clear hz1
        go_wp2_with (at_mapUpdate; refine wpList_im_put rfl _ _ _ TM rfl tieMapT rfl T5.out (by unfold maxLen; omega) _ _ rfl rfl F1.out F3.out ?_; intro w6 m6 g6; have M6 := Lib.hid m6; have N6 := Lib.hid (N5.out.same (g6.block _ (by omega) (by simp; omega))); have RG6 := Lib.hid (RG5.out.grown g6 (by omega) (by omega)); have B6 := Lib.hid (B5.out.grown g6 (by omega) (fun k hk => by cases hk; omega)); clear m6 g6)
        go_roundg (gk - 1)
        case measure => have := K.out; omega
        case rel => exact ⟨_, cnt5, n + 1, by have := K.out; omega, by omega, RG6.out, N6.out, M6.out.iff (thr_put HA.out HB.out HG.out HZ.out), B6.out⟩
      · have HZ := Lib.hid hz1
        clear hz1
        go_wp2_with fail
        go_roundg (gk - 1)
        case measure => have := K.out; omega
        case rel => exact ⟨_, cnt5, n, by have := K.out; omega, by omega, RG5.out, N5.out, T5.out.iff (thr_pass HA.out HG.out HZ.out), B5.out⟩
end Go.Proofs.Ythhdpjkmjebjhab
