/- The draws of lists of pieces. -/
import Derived.Test.YtdljfikgmhdedaaDraw
import Derived.Test.YtdljfikgmhdedaaSpecJoin
import Derived.Deep.RegionHeld3
namespace Go.Proofs.Ytdljfikgmhdedaa
open Go.RowKit

theorem Own.keep {w w' : World} {b B : Nat} {v : Value} {l : List Pc} (h : Own w B v l) (k : Keep b w w') (hb : b < B) : Own w' B v l :=
  h.same fun g hg => k.block g (h.lt g hg).2 (by have := (h.lt g hg).1; omega)
theorem cells2_setTop {l : List Pc} {i : Nat} (hi : i < l.length) (x : Int) : (cells2 l).set (i * 2) (.int .i64 x) = cells2 (l.set i (x, l[i].2)) := by
  induction l generalizing i with
  | nil => simp at hi
  | cons p l ih =>
    cases i with
    | zero => rfl
    | succ i => simp only [cells2, List.set_cons_succ, show (i + 1) * 2 = i * 2 + 1 + 1 by omega, List.getElem_cons_succ]; rw [ih (by simpa using hi)]
theorem cells2_setBot {l : List Pc} {i : Nat} (hi : i < l.length) (x : Int) : (cells2 l).set (i * 2 + 1) (.int .i64 x) = cells2 (l.set i (l[i].1, x)) := by
  induction l generalizing i with
  | nil => simp at hi
  | cons p l ih =>
    cases i with
    | zero => rfl
    | succ i => simp only [cells2, List.set_cons_succ, show (i + 1) * 2 + 1 = (i * 2 + 1) + 1 + 1 by omega, List.getElem_cons_succ]; rw [ih (by simpa using hi)]
/-- What can be done with a piece of a slice of the call's own. -/
structure Piece2 (w : World) (B : Nat) (v : Value) (l : List Pc) (g : Nat) (i : Nat) (p : Pc) : Prop where
  top : w.cell? ⟨g, i * 2, none⟩ = some (.int .i64 p.1)
  bot : w.cell? ⟨g, i * 2 + 1, none⟩ = some (.int .i64 p.2)
  f0 : w.frozen? ⟨g, i * 2, none⟩ = false
  f1 : w.frozen? ⟨g, i * 2 + 1, none⟩ = false
  setTop : ∀ x, Own (w.setCell ⟨g, i * 2, none⟩ (.int .i64 x)) B v (l.set i (x, p.2))
  setBot : ∀ x, Own (w.setCell ⟨g, i * 2 + 1, none⟩ (.int .i64 x)) B v (l.set i (p.1, x))
theorem Own.at {w : World} {B : Nat} {v : Value} {l : List Pc} (h : Own w B v l) (h0 : 0 < l.length) :
    ∃ g cap, v = .slice (some ⟨g, 0, none⟩) l.length cap ∧ l.length ≤ cap ∧ cap ≤ maxLen ∧ B ≤ g ∧ g < w.heap.size ∧ ∀ i (hi : i < l.length), Piece2 w B v l g i l[i] := by
  have hlt := h.lt
  have h' := h
  rcases h.2 with ⟨_, hn⟩ | ⟨g, cap, cur, rfl, hb, hgg, hn, hm, hs, ht⟩
  · omega
  · refine ⟨g, cap, rfl, hn, hm, hb, (hlt g rfl).2, fun i hi => ?_⟩
    obtain ⟨c1, c2⟩ := cells2_get l i hi
    refine ⟨(World.ownsRow.cellAt h' (i * 2) (by omega)).trans c1, (World.ownsRow.cellAt h' (i * 2 + 1) (by omega)).trans c2, World.ownsRow.frozenAt h' _, World.ownsRow.frozenAt h' _, fun x => ?_, fun x => ?_⟩
    · have k := (World.ownsRow.stored h' (i * 2) (.int .i64 x)).1
      rw [cells2_setTop hi] at k
      show World.ownsRow _ _ _ 2 _ (l.set i (x, l[i].2)).length _
      rw [List.length_set]; exact k
    · have k := (World.ownsRow.stored h' (i * 2 + 1) (.int .i64 x)).1
      rw [cells2_setBot hi] at k
      show World.ownsRow _ _ _ 2 _ (l.set i (l[i].1, x)).length _
      rw [List.length_set]; exact k
/-- A piece whose numbers are at most c. -/
def Sm (c : Int) (p : Pc) : Prop := (-c ≤ p.1 ∧ p.1 ≤ c) ∧ -c ≤ p.2 ∧ p.2 ≤ c
/-- A list of at most n pieces, whose numbers are at most c. -/
def Bd (c : Int) (n : Nat) (l : List Pc) : Prop := l.length ≤ n ∧ ∀ p ∈ l, Sm c p
theorem Bd.get {c : Int} {n : Nat} {l : List Pc} (h : Bd c n l) (i : Nat) (hi : i < l.length) : (-c ≤ l[i].1 ∧ l[i].1 ≤ c) ∧ -c ≤ l[i].2 ∧ l[i].2 ≤ c := h.2 _ (List.getElem_mem hi)
theorem Bd.set {c : Int} {n : Nat} {l : List Pc} (h : Bd c n l) (i : Nat) (p : Pc) (hp : Sm c p) : Bd c n (l.set i p) :=
  ⟨by rw [List.length_set]; exact h.1, fun q hq => by
    rcases List.mem_or_eq_of_mem_set hq with hq | rfl
    · exact h.2 q hq
    · exact hp⟩
theorem Bd.snoc {c : Int} {n : Nat} {l : List Pc} (h : Bd c n l) (p : Pc) (hp : Sm c p) : Bd c (n + 1) (l ++ [p]) :=
  ⟨by simp; exact h.1, fun q hq => by
    rcases List.mem_append.1 hq with hq | hq
    · exact h.2 q hq
    · simp only [List.mem_singleton] at hq; subst hq; exact hp⟩
theorem Bd.mono {c c' : Int} {n n' : Nat} {l : List Pc} (h : Bd c n l) (k : n ≤ n') (kc : c ≤ c') : Bd c' n' l :=
  ⟨Nat.le_trans h.1 k, fun p hp => by have := h.2 p hp; unfold Sm at this ⊢; omega⟩

theorem Keep.grow {b : Nat} {w x y : World} (h : Keep b w x) (k : Below w.heap.size x y) : Keep b w y :=
  ⟨k.os.trans h.os, k.tape.trans h.tape, k.output.trans h.output, Nat.le_trans h.size k.size, fun i hi hb => (k.block i hi).trans (h.block i hi hb)⟩
/-- What l91Core comes to. -/
def CoreDrawn (w : World) (b m : Nat) (e : Ending) (w' : World) : Prop :=
  ∃ v l, e = .returned v ∧ Own w' w.heap.size v l ∧ Bd 100000 6 l ∧ At w' b (m + 20) ∧ Keep b w w'

set_option maxHeartbeats 1600000 in
theorem l91Core_any {w : World} {b m : Nat} (h : At w b m) (hm : m ≤ 900000) :
    Calls Try.prog 36 #[.pointer (some ⟨b, 0, none⟩)] w fun e w' => CoreDrawn w b m e w' := by
  have hbw := h.lt
  have aA := Lib.hid (h.alloc (.cells #[] 27))
  have O := Lib.hid (own_new (w := w) (B := w.heap.size) (Nat.le_refl _))
  have K0 := Lib.hid (Keep.alloc b w (.cells #[] 27))
  clear h
  go_enter Try.func36, Try.ntmps36
  go_wp2_with fail
  refine (pick_at 5 aA.out (by omega)).mono ?_
  rintro e w1 ⟨r1, rfl, p1, q1, _, a1, k1⟩
  replace q1 := q1 (by decide)
  have A1 := Lib.hid a1; have K1 := Lib.hid (K0.out.trans k1); have O1 := Lib.hid (O.out.keep k1 hbw)
  clear a1 k1
  go_wp2_with fail
  refine (pick_at 6 A1.out (by omega)).mono ?_
  rintro e w2 ⟨n, rfl, p2, q2, _, a2, k2⟩
  replace q2 := q2 (by decide)
  have A2 := Lib.hid a2; have K2 := Lib.hid (K1.out.trans k2); have O2 := Lib.hid (O1.out.keep k2 hbw)
  clear a2 k2
  go_wp2_with fail
  go_loopg [3, 4, 6] n.toNat (fun k x y z wr => ∃ (l : List Pc) (dd : Int), y = .int .i64 dd ∧ z = .int .i64 (l.length : Int) ∧ l.length + k = n.toNat ∧ 0 ≤ dd ∧ dd ≤ 40 + 100 * l.length ∧
      Own wr w.heap.size x l ∧ Bd 100000 5 l ∧ At wr b (m + 2 + 2 * l.length) ∧ Keep b w wr)
  case atStart => exact ⟨[], _, rfl, rfl, by simp, by omega, by simp; omega, O2.out, ⟨by simp, fun p hp => by simp at hp⟩, A2.out, K2.out⟩
  case round =>
    obtain ⟨l, dd, rfl, rfl, hk, d0, d1, ho, hbd, ha, hke⟩ := hrel
    have K := Lib.hid hk; have O3 := Lib.hid ho; have BD := Lib.hid hbd; have A3 := Lib.hid ha; have K3 := Lib.hid hke
    have hl5 : l.length ≤ 5 := hbd.1
    have hln : (l.length : Int) ≤ n := by omega
    have hw3 : w.heap.size ≤ wr.heap.size := hke.size
    clear hk ho hbd ha hke
    by_cases hlt : (l.length : Int) < n
    · go_wp2_with fail
      refine (pick_at 60 A3.out (by omega)).mono ?_
      rintro e w4 ⟨r4, rfl, p4, q4, _, a4, k4⟩
      replace q4 := q4 (by decide)
      have hs4 := k4.size
      have A4 := Lib.hid a4; have K4 := Lib.hid (K3.out.trans k4); have O4 := Lib.hid (O3.out.keep k4 hbw)
      clear a4 k4
      have hwb : w.heap.size ≤ w4.heap.size := by omega
      have BW := Lib.hid (((Below.refl w4.heap.size w4).alloc (Nat.le_refl _) (.cells #[.int .i64 dd, .int .i64 (dd + 1 + r4)] 27)).alloc (by simp) (.cells #[.int .i64 dd, .int .i64 (dd + 1 + r4)] 27))
      obtain ⟨n1, n2⟩ := new_two (w4.alloc (.cells #[.int .i64 dd, .int .i64 (dd + 1 + r4)] 27)) (.int .i64 dd) (.int .i64 (dd + 1 + r4)) 27
      rw [World.size_alloc] at n1 n2
      have N1 := Lib.hid n1; have N2 := Lib.hid n2
      have c7 : ((w4.alloc (.cells #[.int .i64 dd, .int .i64 (dd + 1 + r4)] 27)).alloc (.cells #[.int .i64 dd, .int .i64 (dd + 1 + r4)] 27)).cell? ⟨w4.heap.size, 1, none⟩ = some (.int .i64 (dd + 1 + r4)) := by
        rw [World.cell?_alloc_lt _ _ _ (by simp), World.cell?_alloc_new]; rfl
      have C7 := Lib.hid c7
      clear n1 n2 c7
      go_wp2_with (at_builtin; refine append_piece rfl _ _ rfl (B := w.heap.size) _ l rfl (O4.out.grow BW.out) ⟨w4.heap.size + 1, 0, none⟩ (dd, dd + 1 + r4) rfl N1.out N2.out (by omega) (by simp; omega) ?_; intro v5 w5 hown5 hg5)
      have hne : u3.ownBlock ≠ some w4.heap.size := fun e => by have := (O4.out.lt _ e).2; omega
      have e7 : w5.cell? ⟨w4.heap.size, 1, none⟩ = some (.int .i64 (dd + 1 + r4)) := (World.cell?_of_block (a := ⟨w4.heap.size, 1, none⟩) (hg5.block w4.heap.size (by simp only [World.size_alloc]; omega) (Ne.symm hne))).trans C7.out
      have b5 := (BW.out.mono hwb).trans ((O4.out.grow BW.out).below hg5 (by simp; omega))
      have O5 := Lib.hid hown5
      have A5 := Lib.hid (A4.out.below (b5.mono hbw))
      have K5 := Lib.hid (K4.out.grow b5)
      have hs5 : w4.heap.size + 2 ≤ w5.heap.size := by have := hg5.size; simpa using this
      clear hown5 hg5 b5
      go_region_held3 (fun w' => w'.cell? ⟨w4.heap.size, 1, none⟩ = some (.int .i64 (dd + 1 + r4)))
        (first | go_keep | exact (k6.cell (p := ⟨w4.heap.size, 1, none⟩) (by simp; omega) (by simp; omega)).trans ‹_›)
        (((go_at_call 37); refine (pick_at (b := b) (m := m + 2 + 2 * l.length + 1) 30 ?_ (by omega)).mono ?_; exact A5.out.drew; rintro e w6 ⟨r6, rfl, p6, q6, _, a6, k6⟩; replace q6 := q6 (by decide); have z1 : IntKind.i64.wrap (r6 - 12) = r6 - 12 := IntWalk.i64_in _ (by omega); have z2 : IntKind.i64.wrap (dd + 1 + r4 + (r6 - 12)) = dd + 1 + r4 + (r6 - 12) := IntWalk.i64_in _ (by omega)))
      all_goals
        have A6 := Lib.hid a6; have K6 := Lib.hid (K5.out.trans (Keep.trans (Keep.drew b w5) k6)); have O6 := Lib.hid ((O5.out.grow (Below.refl _ _).drew).keep k6 hbw)
        clear a6 k6
        have Z1 := Lib.hid z1; have Z2 := Lib.hid z2
        clear z1 z2
        have Z3 := Lib.hid (IntWalk.i64_in (dd + 1 + r4) (by omega))
        go_wp2_with fail
        all_goals
          go_roundg (gk - 1)
          case measure => have := K.out; omega
          case rel =>
            refine ⟨l ++ [(dd, dd + 1 + r4)], _, rfl, by simp, by have := K.out; simp; omega, ?_, ?_, O6.out, ?_, A6.out.mono (by simp; omega), K6.out⟩
            · try rw [Z1.out]
              try rw [Z2.out]
              try rw [Z3.out]
              omega
            · simp only [List.length_append, List.length_cons, List.length_nil]
              try rw [Z1.out]
              try rw [Z2.out]
              try rw [Z3.out]
              omega
            · have := BD.out.snoc (dd, dd + 1 + r4) ⟨⟨by show _ ≤ dd; omega, by show dd ≤ _; omega⟩, by show _ ≤ dd + 1 + r4; omega, by show dd + 1 + r4 ≤ _; omega⟩
              exact ⟨by simp; omega, this.2⟩
    · have hnl : n = (l.length : Int) := by omega
      clear hlt hln
      subst hnl
      by_cases h0 : 0 < l.length
      rotate_left
      · have h0' : ¬ (0 : Int) < (l.length : Int) := by omega
        go_wp2_with fail
        go_ret
        exact ⟨u3, l, rfl, O3.out, BD.out.mono (by omega) (by omega), A3.out.mono (by omega), K3.out⟩
      · have h0' : (0 : Int) < (l.length : Int) := by omega
        go_wp2_with fail
        refine (pick_at 40 A3.out (by omega)).mono ?_
        rintro e w4 ⟨r4, rfl, p4, q4, _, a4, k4⟩
        replace q4 := q4 (by decide)
        have hs4 := k4.size
        have A4 := Lib.hid (a4.mono (by omega : m + 2 + 2 * l.length + 1 ≤ m + 20)); have K4 := Lib.hid (K3.out.trans k4); have O4 := Lib.hid (O3.out.keep k4 hbw)
        clear a4 k4
        obtain ⟨g, cap, hu, hcap, hcapm, hBg, hgw, hp⟩ := O4.out.at h0
        subst hu
        unfold maxLen at hcapm
        have hlast := hp (l.length - 1) (by omega)
        have hfirst := hp 0 h0
        have bl := BD.out.get (l.length - 1) (by omega)
        have bf := BD.out.get 0 h0
        have hcapw : l.length ≤ cap := hcap
        clear hp h0'
        have h0' : (0 : Int) < (l.length : Int) := by omega
        by_cases e0 : r4 = 0
        · subst e0
          have S := Lib.hid (hlast.setBot l[l.length - 1].1)
          have t0 := hlast.top; have t1 := hlast.bot; have t2 := hlast.f1
          clear hlast hfirst
          go_wp2_with fail
          go_ret
          exact ⟨_, l.set (l.length - 1) (l[l.length - 1].1, l[l.length - 1].1), rfl, S.out, (BD.out.set (l.length - 1) (l[l.length - 1].1, l[l.length - 1].1) ⟨bl.1, bl.1⟩).mono (by omega) (by omega), A4.out.below (((Below.refl _ _).setCell (p := ⟨g, (l.length - 1) * 2 + 1, none⟩) hBg _).mono (by omega)), K4.out.grow ((Below.refl _ _).setCell (p := ⟨g, (l.length - 1) * 2 + 1, none⟩) hBg _)⟩
        · by_cases e1 : r4 = 1
          · subst e1
            have S := Lib.hid (hlast.setBot 30001)
            have t1 := hlast.bot; have t2 := hlast.f1
            clear hlast hfirst e0
            go_wp2_with fail
            go_ret
            exact ⟨_, l.set (l.length - 1) (l[l.length - 1].1, 30001), rfl, S.out, (BD.out.set (l.length - 1) (l[l.length - 1].1, 30001) ⟨bl.1, (by show (-100000 : Int) ≤ 30001 ∧ (30001 : Int) ≤ 100000; decide)⟩).mono (by omega) (by omega), A4.out.below (((Below.refl _ _).setCell (p := ⟨g, (l.length - 1) * 2 + 1, none⟩) hBg _).mono (by omega)), K4.out.grow ((Below.refl _ _).setCell (p := ⟨g, (l.length - 1) * 2 + 1, none⟩) hBg _)⟩
          · by_cases e2 : r4 = 2
            · subst e2
              have t0 := hfirst.top; have t1 := hfirst.bot
              simp only [Nat.zero_mul, Nat.zero_add] at t0 t1
              obtain ⟨n1, n2⟩ := new_two w4 (.int .i64 l[0].1) (.int .i64 l[0].2) 27
              have N1 := Lib.hid n1; have N2 := Lib.hid n2
              clear hlast hfirst e0 e1 n1 n2
              have hwb : w.heap.size ≤ w4.heap.size := by omega
              go_wp2_with (at_builtin; refine append_piece rfl _ _ rfl (B := w.heap.size) _ l rfl (O4.out.grow ((Below.refl _ _).alloc (Nat.le_refl _) _)) ⟨w4.heap.size, 0, none⟩ l[0] rfl N1.out N2.out (by omega) (by simp; omega) ?_; intro v5 w5 hown5 hg5)
              have O5 := Lib.hid hown5
              have b5 := ((Below.refl w4.heap.size w4).alloc (Nat.le_refl _) (.cells #[.int .i64 l[0].1, .int .i64 l[0].2] 27) |>.mono hwb).trans ((O4.out.grow ((Below.refl _ _).alloc (Nat.le_refl _) _)).below hg5 (by simp; omega))
              have B5 := Lib.hid b5
              clear hown5 hg5 b5
              go_wp2_with fail
              go_ret
              exact ⟨v5, l ++ [l[0]], rfl, O5.out, BD.out.snoc _ bf, A4.out.below (B5.out.mono (by omega)), K4.out.grow B5.out⟩
            · have f0 : (r4 == 0) = false := by simpa using e0
              have f1 : (r4 == 1) = false := by simpa using e1
              have f2 : (r4 == 2) = false := by simpa using e2
              clear e0 e1 e2 hlast hfirst
              go_wp2_with fail
              go_ret
              exact ⟨_, l, rfl, O4.out, BD.out.mono (by omega) (by omega), A4.out, K4.out⟩
end Go.Proofs.Ytdljfikgmhdedaa
