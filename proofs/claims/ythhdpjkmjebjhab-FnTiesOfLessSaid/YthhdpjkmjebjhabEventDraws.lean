/- The draws of matchings: l92Match, and what each draw comes to. -/
import Derived.Test.YthhdpjkmjebjhabEventDraw
import Derived.Test.YthhdpjkmjebjhabEventBest
namespace Go.Proofs.Ythhdpjkmjebjhab
open Go.RowKit

theorem made_run (n : Nat) (hn : n ≤ 100) (w : World) : (Instr.makeSlice 47 (.int .i64 (n : Int)) (.int .i64 (n : Int))).run Try.prog w = .ok (.slice (some ⟨w.heap.size, 0, none⟩) n n) (w.alloc (.cells (cells1 (List.replicate n 0)).toArray 3)) := by
  obtain ⟨i0, hi, hz0, hz1, hz2⟩ := info_parts intInfo
  have hb : (i0.bytes : Int) * (n : Int) ≤ 281474976710656 := by rw [hz2]; omega
  have hr := run_make (P := Try.prog) w 47 3 i0 (.int .i64 0) intT' hi hz0 .i64 .i64 n n (by omega) (by omega) hb (by omega)
  simp only [Int.toNat_natCast, hz1, Nat.mul_one] at hr
  rw [hr]
  have e : madeCells (Value.int .i64 0).cells n = (cells1 (List.replicate n 0)).toArray := by
    show madeCells #[Value.int .i64 0] n = _
    apply Array.ext'
    have := toList_madeCells_one (.int .i64 0) n
    simpa [cells1] using this
  rw [e]
theorem made_own (n : Nat) (hn : n ≤ 100) {w : World} {B : Nat} (h : B ≤ w.heap.size) : IOwn (w.alloc (.cells (cells1 (List.replicate n 0)).toArray 3)) B (.slice (some ⟨w.heap.size, 0, none⟩) n n) (List.replicate n 0) := by
  have := World.ownsRow_lit (base := B) (e := 3) (size := 1) w (cells1 (List.replicate n (0 : Int))).toArray n h (by unfold maxLen; omega) (by simp [cells1])
  show World.ownsRow _ _ _ 1 _ (List.replicate n (0 : Int)).length (cells1 (List.replicate n 0))
  rw [List.length_replicate]
  simpa using this
/-- What l92Match comes to. -/
def MatchDrawn (w : World) (b m : Nat) (e : Ending) (w' : World) : Prop :=
  ∃ (v u x : Value) (l k : List Pc) (t : Int) (L : List Int), e = .returned (.tuple #[v, u, .int .i64 t, x]) ∧ Own 77 w' w.heap.size v l ∧ Own 77 w' w.heap.size u k ∧ IOwn w' w.heap.size x L ∧ Bd 100000 6 l ∧ Bd 100000 6 k ∧ (-1 ≤ t ∧ t ≤ 1001) ∧ IBd 20 9 L ∧ At w' b (m + 100) ∧ Keep b w w'
set_option maxRecDepth 100000 in
set_option maxHeartbeats 3200000 in
theorem l92Match_any {w : World} {b m : Nat} (h : At w b m) (hm : m ≤ 800000) :
    Calls Try.prog 47 #[.pointer (some ⟨b, 0, none⟩)] w fun e w' => MatchDrawn w b m e w' := by
  have hbw := h.lt
  have A0 := Lib.hid h
  clear h
  go_enter Try.func47, Try.ntmps47
  go_wp2_with fail
  refine (l92Pair_any A0.out hm).mono ?_
  rintro e w1 ⟨v, u, l, k, t, rfl, o1, o2, d1, d2, ht, a1, k1⟩
  have A1 := Lib.hid a1; have K1 := Lib.hid k1; have O1 := Lib.hid o1; have P1 := Lib.hid o2; have D1 := Lib.hid d1; have D2 := Lib.hid d2
  have hs1 := k1.size
  obtain ⟨pl, cl, rfl, cl1, cl2⟩ := o1.row.len
  obtain ⟨pk, ck, rfl, ck1, ck2⟩ := o2.row.len
  have hl6 := d1.1
  have hk6 := d2.1
  unfold maxLen at cl2 ck2
  clear a1 k1 o1 o2 d1 d2
  go_wp2_with fail
  refine (specBest_any t O1.out.row P1.out.row).mono ?_
  rintro e w2 ⟨x, rfl, o3, b2⟩
  have bg := best_got (a := l) (b := k) (tol := t)
  obtain ⟨L, hL⟩ : ∃ L, (bestEB l k t).getD [] = L := ⟨_, rfl⟩
  obtain ⟨c, hc⟩ : ∃ c, (bestEB l k t).isSome = c := ⟨_, rfl⟩
  rw [hL] at o3 bg
  rw [hc] at bg ⊢
  have G := Lib.hid bg.1
  have A2 := Lib.hid (A1.out.below (b2.mono (by have := A1.out.lt; omega)))
  have K2 := Lib.hid (K1.out.grow (b2.mono hs1))
  have O2 := Lib.hid (O1.out.grow b2); have P2 := Lib.hid (P1.out.grow b2); have X2 := Lib.hid o3
  have hs2 := b2.size
  have hb1 := A1.out.lt
  have K3 := Lib.hid b2
  clear hL hc o3 b2
  cases c
  · clear bg
    have hmk := made_run l.length (by omega)
    go_wp2_with fail
    go_region
    all_goals
      go_wp2
      go_returns
      exact ⟨_, _, _, l, k, t, List.replicate l.length 0, rfl, O2.out.grow (((Below.refl _ _).alloc (Nat.le_refl _) _).drew), P2.out.grow (((Below.refl _ _).alloc (Nat.le_refl _) _).drew), (made_own l.length (by omega) (Nat.le_trans hs1 hs2)).grow (Below.refl _ _).drew, D1.out, D2.out, ht, ⟨by simp; omega, fun p hp => by rw [List.eq_of_mem_replicate hp]; omega⟩, ((A2.out.alloc _).drew).mono (by omega), (K2.out.trans (Keep.alloc _ _ _)).trans (Keep.drew _ _)⟩
  · obtain ⟨px, cx, rfl, cx1, cx2⟩ := X2.out.row.len
    unfold maxLen at cx2
    clear bg
    have hL8 := G.out.1
    go_wp2_with fail
    go_loopg [11] L.length (fun g i wr => ∃ (j : Nat) (M : List Int), i = .int .i64 j ∧ j + g = L.length ∧ M.length = L.length ∧ IBd 20 8 M ∧ IOwn wr w1.heap.size (.slice px L.length cx) M ∧ At wr b (m + 50 + 2 * j) ∧ Keep b w1 wr)
    case atStart => exact ⟨0, L, rfl, by omega, rfl, G.out, X2.out, A2.out, Keep.made K3.out⟩
    case round =>
      obtain ⟨j, M, rfl, hk, hM, hbd, ho, hat, hke⟩ := hrel
      have K := Lib.hid hk; have HM := Lib.hid hM; have BD := Lib.hid hbd; have X4 := Lib.hid ho; have A4 := Lib.hid hat; have K4 := Lib.hid hke
      have hs4 := hke.size
      have hjl : j ≤ L.length := by omega
      clear hk hM hbd ho hat hke
      by_cases hlt : j < L.length
      · have hjM : j < M.length := by have := HM.out; omega
        have i0 : (0 : Int) ≤ (j : Int) := by omega
        have i1 : (j : Int) < (L.length : Int) := by omega
        go_wp2_with fail
        refine (pick_at 12 A4.out (by omega)).mono ?_
        rintro e w5 ⟨q, rfl, p5, q5, _, a5, k5⟩
        replace q5 := q5 (by decide)
        have A5 := Lib.hid a5; have K5 := Lib.hid (K4.out.trans k5); have X5 := Lib.hid (X4.out.keep k5 hb1)
        have hs5 := K5.out.size
        clear a5 k5
        obtain ⟨g, cap, hu, hcap, hcapm, hBg, hgw, hp⟩ := X5.out.at (by omega)
        simp only [Value.slice.injEq] at hu
        obtain ⟨rfl, hML, rfl⟩ := hu
        clear hML
        have c0 := (hp j hjM).cell
        have f0 := (hp j hjM).froz
        by_cases e0 : q = 0 ∨ q = 1
        · have S := Lib.hid ((hp j hjM).set (-1))
          have KS := Lib.hid (K5.out.grow ((Below.refl _ _).setCell (p := ⟨g, j, none⟩) hBg (.int .i64 (-1))))
          have AS := Lib.hid (A5.out.below (((Below.refl w1.heap.size _).setCell (p := ⟨g, j, none⟩) hBg (.int .i64 (-1))).mono (by omega)))
          have BS := Lib.hid (BD.out.set j (-1) (by omega))
          clear hp
          rcases e0 with rfl | rfl
          all_goals
            go_wp2_with fail
            go_roundg (gk - 1)
            case measure => have := K.out; omega
            case rel => exact ⟨j + 1, M.set j (-1), by go_num, by have := K.out; omega, by rw [List.length_set]; exact HM.out, BS.out, S.out, AS.out.mono (by omega), KS.out⟩
        · have f1 : (q == 0) = false := by simp; omega
          have f2 : (q == 1) = false := by simp; omega
          by_cases e2 : q = 2
          · subst e2
            have z1 : IntKind.i64.wrap ((k.length : Int) + 2) = (k.length : Int) + 2 := IntWalk.i64_in _ (by omega)
            clear hp c0 f0 e0
            go_wp2_with fail
            refine (pick_at ((k.length : Int) + 2) A5.out (by omega)).mono ?_
            rintro e w6 ⟨q6, rfl, p6, q6', _, a6, k6⟩
            replace q6' := q6' (by omega)
            have z2 : IntKind.i64.wrap (q6 - 1) = q6 - 1 := IntWalk.i64_in _ (by omega)
            have A6 := Lib.hid a6; have K6 := Lib.hid (K5.out.trans k6); have X6 := Lib.hid (X5.out.keep k6 hb1)
            clear a6 k6
            obtain ⟨g', cap', hu', _, _, hBg', hgw', hp⟩ := X6.out.at (by omega)
            simp only [Value.slice.injEq, Option.some.injEq, Addr.mk.injEq, and_true] at hu'
            obtain ⟨rfl, hML, rfl⟩ := hu'
            clear hML
            have c0 := (hp j hjM).cell
            have f0 := (hp j hjM).froz
            have S := Lib.hid ((hp j hjM).set (q6 - 1))
            have KS := Lib.hid (K6.out.grow ((Below.refl _ _).setCell (p := ⟨g, j, none⟩) hBg (.int .i64 (q6 - 1))))
            have AS := Lib.hid (A6.out.below (((Below.refl w1.heap.size _).setCell (p := ⟨g, j, none⟩) hBg (.int .i64 (q6 - 1))).mono (by omega)))
            have BS := Lib.hid (BD.out.set j (q6 - 1) (by omega))
            clear hp
            go_wp2_with fail
            go_roundg (gk - 1)
            case measure => have := K.out; omega
            case rel => exact ⟨j + 1, M.set j (q6 - 1), by go_num, by have := K.out; omega, by rw [List.length_set]; exact HM.out, BS.out, S.out, AS.out.mono (by omega), KS.out⟩
          · have f3 : (q == 2) = false := by simp; omega
            clear hp e0 e2
            go_wp2_with fail
            go_roundg (gk - 1)
            case measure => have := K.out; omega
            case rel => exact ⟨j + 1, M, by go_num, by have := K.out; omega, HM.out, BD.out, X5.out, A5.out.mono (by omega), K5.out⟩
      · have hj : j = L.length := by omega
        have O4 := Lib.hid (O1.out.keep K4.out hbw); have P4 := Lib.hid (P1.out.keep K4.out hbw)
        have KW := Lib.hid (K1.out.trans K4.out)
        go_wp2_with fail
        refine (pick_at 24 A4.out (by omega)).mono ?_
        rintro e w5 ⟨q, rfl, p5, q5, _, a5, k5⟩
        replace q5 := q5 (by decide)
        have A5 := Lib.hid a5; have K5 := Lib.hid (KW.out.trans k5); have X5 := Lib.hid (X4.out.keep k5 hb1)
        have O5 := Lib.hid (O4.out.keep k5 hbw); have P5 := Lib.hid (P4.out.keep k5 hbw)
        have hs5 : w1.heap.size ≤ w5.heap.size := Nat.le_trans hs4 k5.size
        have KX := Lib.hid (K4.out.trans k5)
        clear a5 k5
        by_cases z : q = 0
        · subst z
          have N1 := Lib.hid (new_one w5 (.int .i64 (-1)) 3)
          have BW := Lib.hid ((Below.refl w5.heap.size w5).alloc (Nat.le_refl _) (.cells #[.int .i64 (-1)] 3))
          go_wp2_with (at_builtin; refine iappend_one intT' rfl _ _ rfl (B := w1.heap.size) _ M rfl (X5.out.grow BW.out) ⟨w5.heap.size, 0, none⟩ (-1) rfl N1.out (by have := HM.out; omega) (by simp; omega) ?_; intro v8 w8 hown8 hg8)
          have O8 := Lib.hid hown8
          have B8 := Lib.hid ((BW.out.mono hs5).trans ((X5.out.grow BW.out).below hg8 (by simp; omega)))
          have K8 := Lib.hid (KX.out.grow B8.out)
          have OV := Lib.hid (O1.out.keep K8.out hbw); have PV := Lib.hid (P1.out.keep K8.out hbw)
          clear hown8 hg8
          go_wp2_with fail
          go_returns
          exact ⟨_, _, _, l, k, t, M ++ [-1], rfl, OV.out, PV.out, O8.out.mono hs1, D1.out, D2.out, ht, BD.out.snoc (-1) (by omega), (A5.out.below (B8.out.mono (by omega))).mono (by omega), K1.out.trans K8.out⟩
        · have e0 : (q == 0) = false := by simpa using z
          clear z
          go_wp2_with fail
          go_returns
          exact ⟨_, _, _, l, k, t, M, rfl, O5.out, P5.out, X5.out.mono hs1, D1.out, D2.out, ht, BD.out.mono (by omega) (by omega), A5.out.mono (by omega), K5.out⟩
/-! What the draws come to. -/
def DrewEv (w : World) (e : Ending) (w' : World) : Prop := ∃ v l, e = .returned v ∧ Row w' v l ∧ Bd 100000 6 l ∧ Below w.heap.size w w'
def DrewPair (w : World) (e : Ending) (w' : World) : Prop := ∃ (v u : Value) (l k : List Pc) (t : Int), e = .returned (.tuple #[v, u, .int .i64 t]) ∧ Row w' v l ∧ Row w' u k ∧ Bd 100000 6 l ∧ Bd 100000 6 k ∧ (-1 ≤ t ∧ t ≤ 1001) ∧ Below w.heap.size w w'
def DrewMatch (w : World) (e : Ending) (w' : World) : Prop := ∃ (v u x : Value) (l k : List Pc) (t : Int) (L : List Int), e = .returned (.tuple #[v, u, .int .i64 t, x]) ∧ Row w' v l ∧ Row w' u k ∧ IRow w' x L ∧ Bd 100000 6 l ∧ Bd 100000 6 k ∧ (-1 ≤ t ∧ t ≤ 1001) ∧ IBd 20 9 L ∧ Below w.heap.size w w'
end Go.Proofs.Ythhdpjkmjebjhab
