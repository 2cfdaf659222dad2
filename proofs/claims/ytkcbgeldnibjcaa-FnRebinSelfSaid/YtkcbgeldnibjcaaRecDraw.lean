/- The draws of records: l91Record. -/
import Derived.Test.YtkcbgeldnibjcaaDraw
import Derived.Test.YtkcbgeldnibjcaaInts
import Derived.Laws.NewBlocks
import Derived.Deep.AppendLies
import Derived.Test.YtkcbgeldnibjcaaRegion
namespace Go.Proofs.Ytkcbgeldnibjcaa
open Go.RowKit

theorem intsT : IntT 23 := Try.underlying23
theorem Keep.grow {b : Nat} {w x y : World} (h : Keep b w x) (k : Below w.heap.size x y) : Keep b w y :=
  ⟨k.os.trans h.os, k.tape.trans h.tape, k.output.trans h.output, Nat.le_trans h.size k.size, fun i hi hb => (k.block i hi).trans (h.block i hi hb)⟩
theorem IOwn.keep {w w' : World} {b B : Nat} {v : Value} {l : List Int} (h : IOwn w B v l) (k : Keep b w w') (hb : b < B) : IOwn w' B v l :=
  h.same fun g hg => k.block g (h.lt g hg).2 (by have := (h.lt g hg).1; omega)
/-- Two slices of the call's own, in two blocks. -/
structure Both (w : World) (B : Nat) (v u : Value) (l a : List Int) : Prop where
  fst : IOwn w B v l
  snd : IOwn w B u a
  far : ∀ k, v.ownBlock = some k → u.ownBlock ≠ some k
theorem Keep.grow' {b : Nat} {w x y : World} (h : Keep b w x) (k : Below w.heap.size x y) : Keep b w y := h.grow k
variable {w w' : World} {B b : Nat} {v u : Value} {l a : List Int}
theorem Both.grow (h : Both w B v u l a) (k : Below w.heap.size w w') : Both w' B v u l a := ⟨h.fst.grow k, h.snd.grow k, h.far⟩
theorem Both.keep (h : Both w B v u l a) (k : Keep b w w') (hb : b < B) : Both w' B v u l a := ⟨h.fst.keep k hb, h.snd.keep k hb, h.far⟩
theorem Both.swap (h : Both w B v u l a) : Both w B u v a l := ⟨h.snd, h.fst, fun k hu hv => h.far k hv hu⟩
theorem Both.left {l' : List Int} {g cap n : Nat} (h : Both w B v u l a) (hg : w.grownBy w' v.ownBlock) (ho : IOwn w' B (.slice (some ⟨g, 0, none⟩) n cap) l') (hat : v.ownBlock = some g ∨ g = w.heap.size) : Both w' B (.slice (some ⟨g, 0, none⟩) n cap) u l' a := by
  refine ⟨ho, h.snd.same fun k hk => hg.block k (h.snd.lt k hk).2 (fun e => h.far k e.symm hk), fun k hk hu => ?_⟩
  obtain rfl : g = k := by simpa [Value.ownBlock] using hk
  rcases hat with hat | hat
  · exact h.far g hat hu
  · have := (h.snd.lt g hu).2; omega
theorem Both.setL {l' : List Int} {g o : Nat} {x : Value} (h : Both w B v u l a) (hv : v.ownBlock = some g) (k : IOwn (w.setCell ⟨g, o, none⟩ x) B v l') : Both (w.setCell ⟨g, o, none⟩ x) B v u l' a :=
  ⟨k, h.snd.same fun j hj => Below.heap_setCell _ _ _ _ (fun e => h.far g hv (by rw [hj]; exact congrArg some e)), h.far⟩
/-- One number more behind a slice of the call's own; where it lies. -/
theorem iappend_lies {S : TypeId} (PT : IntT S) {w : World} {ops : Array Oper} {rest : List Oper} {o : Oper} {a : Act} {Q : Exit → Act → World → Prop} (hgd : o.guard = none) (s x : Operand)
    (ho : o.op = .call { callee := .builtin .append, args := #[s, x], argTypes := #[S, S] }) {B : Nat} (v : Value) (m : List Int) (hs : a.eval s = v) (hown : IOwn w B v m)
    (ad : Addr) (p : Int) (hx : a.eval x = .slice (some ad) 1 1) (h0 : w.cell? (ad.add 0) = some (.int .i64 p)) (hm : m.length ≤ 1000000) (hB : B ≤ w.heap.size)
    (h : ∀ g cap w', IOwn w' B (.slice (some ⟨g, 0, none⟩) (m.length + 1) cap) (m ++ [p]) → w.grownBy w' v.ownBlock → (v.ownBlock = some g ∨ g = w.heap.size) → wpList Try.prog ops Q rest (a.put o.dst (.slice (some ⟨g, 0, none⟩) (m.length + 1) cap)) w') : wpList Try.prog ops Q (o :: rest) a w := by
  obtain ⟨i0, hi, hz0, hz1, hz2⟩ := info_parts intInfo
  refine wpList_append_lies w hgd s x S ho B 3 i0 (.int .i64 0) 1 8 PT hi hz0 hz1 hz2 rfl (by decide) v m.length (cells1 m) hs hown
    ad 1 1 (cells1 [p]) hx rfl (fun j u hj => by
      match j, hj with
      | 0, hj => cases hj; exact h0) (cells1_one [p]) (by omega) (by unfold maxLen; omega) (by omega) hB _ rfl ?_
  intro g cap w' h2 h3 h4 _
  refine h g cap w' ?_ h3 h4
  show w'.ownsRow _ _ 1 _ (m ++ [p]).length (cells1 (m ++ [p]))
  rw [cells1_append, List.length_append]
  exact h2
theorem lit_kept {b : Nat} {w w' : World} {i : Nat} {c : Array Value} {t : TypeId} {v : Value} (k : Keep b (w.alloc (.cells c t)) w') (hb : b < w.heap.size) (hv : c[i]? = some v) : w'.cell? ⟨w.heap.size, i, none⟩ = some v := by
  refine (k.cell (p := ⟨w.heap.size, i, none⟩) ?_ ?_).trans ?_
  · show w.heap.size < (w.alloc _).heap.size
    simp
  · show w.heap.size ≠ b
    omega
  · rw [World.cell?_alloc_new]; exact hv
theorem nine_cells (q : Int) (h0 : 0 ≤ q) (h1 : q < 9) : ∃ v : Int, 1 ≤ v ∧ v ≤ 12 ∧ (#[Value.int .i64 1, .int .i64 2, .int .i64 3, .int .i64 4, .int .i64 5, .int .i64 6, .int .i64 8, .int .i64 10, .int .i64 12] : Array Value)[q.toNat]? = some (.int .i64 v) := by
  have h : q = 0 ∨ q = 1 ∨ q = 2 ∨ q = 3 ∨ q = 4 ∨ q = 5 ∨ q = 6 ∨ q = 7 ∨ q = 8 := by omega
  rcases h with rfl | rfl | rfl | rfl | rfl | rfl | rfl | rfl | rfl
  · exact ⟨1, by decide, by decide, rfl⟩
  · exact ⟨2, by decide, by decide, rfl⟩
  · exact ⟨3, by decide, by decide, rfl⟩
  · exact ⟨4, by decide, by decide, rfl⟩
  · exact ⟨5, by decide, by decide, rfl⟩
  · exact ⟨6, by decide, by decide, rfl⟩
  · exact ⟨8, by decide, by decide, rfl⟩
  · exact ⟨10, by decide, by decide, rfl⟩
  · exact ⟨12, by decide, by decide, rfl⟩
theorem two_words (x y q : Int) (h0 : 0 ≤ q) (h1 : q < 2) : ∃ v : Int, (#[Value.int .i64 x, .int .i64 y] : Array Value)[q.toNat]? = some (.int .i64 v) := by
  have h : q = 0 ∨ q = 1 := by omega
  rcases h with rfl | rfl
  · exact ⟨x, rfl⟩
  · exact ⟨y, rfl⟩
/-- What l91Record comes to. -/
def RecDrawn (w : World) (b m : Nat) (e : Ending) (w' : World) : Prop :=
  ∃ v u l a, e = .returned (.tuple #[v, u]) ∧ Both w' w.heap.size v u l a ∧ 2 ≤ l.length ∧ l.length ≤ 6 ∧ 1 ≤ a.length ∧ a.length ≤ 6 ∧ At w' b (m + 20) ∧ Keep b w w'

set_option maxRecDepth 100000 in
set_option maxHeartbeats 3200000 in
theorem l91Record_any {w : World} {b m : Nat} (h : At w b m) (hm : m ≤ 900000) :
    Calls Try.prog 35 #[.pointer (some ⟨b, 0, none⟩)] w fun e w' => RecDrawn w b m e w' := by
  have hbw := h.lt
  have A0 := Lib.hid h
  clear h
  go_enter Try.func35, Try.ntmps35
  go_wp2_with fail
  refine (pick_at 20 A0.out (by omega)).mono ?_
  rintro e w1 ⟨x, rfl, p1, q1, _, a1, k1⟩
  replace q1 := q1 (by decide)
  have A1 := Lib.hid a1; have K1 := Lib.hid k1
  have hs1 := k1.size
  clear a1 k1
  go_wp2_with fail
  have O1 : Hid (Both ((w1.alloc (.cells #[.int .i64 x] 3)).alloc (.cells #[] 3)) w.heap.size (.slice (some ⟨w1.heap.size, 0, none⟩) 1 1) (.slice (some ⟨w1.heap.size + 1, 0, none⟩) 0 0) [x] []) := Lib.hid (by
    refine ⟨(iown_one hs1 x).grow ((Below.refl _ _).alloc (Nat.le_refl _) _), ?_, fun k hk hu => ?_⟩
    · have := iown_new (w := w1.alloc (.cells #[.int .i64 x] 3)) (B := w.heap.size) (by simp; omega)
      simpa only [World.size_alloc] using this
    · simp [Value.ownBlock] at hk hu; omega)
  have KA := Lib.hid ((Keep.alloc b w1 (.cells #[.int .i64 x] 3)).trans (Keep.alloc b (w1.alloc (.cells #[.int .i64 x] 3)) (.cells #[] 3)))
  refine (pick_at 5 ((A1.out.alloc _).alloc _) (by omega)).mono ?_
  rintro e w3 ⟨r, rfl, p3, q3, _, a3, k3⟩
  replace q3 := q3 (by decide)
  obtain ⟨n, rfl⟩ : ∃ n : Nat, r = n := ⟨r.toNat, by omega⟩
  have O3 := Lib.hid (O1.out.keep k3 hbw)
  have A3 := Lib.hid a3; have K3 := Lib.hid ((K1.out.trans KA.out).trans k3)
  clear a3 k3
  go_wp2_with fail
  go_loopg [4, 5, 6, 8] (n + 1) (fun k d v u i wr => ∃ (j : Nat) (dd : Int) (l a : List Int), d = .int .i64 dd ∧ i = .int .i64 j ∧ j + k = n + 1 ∧ 0 ≤ dd ∧ dd ≤ 20 + 12 * j ∧ l.length = j + 1 ∧ a.length = j ∧ Both wr w.heap.size v u l a ∧ At wr b (m + 2 + 2 * j) ∧ Keep b w wr)
  case atStart => exact ⟨0, x, [x], [], rfl, rfl, by omega, p1, by omega, rfl, rfl, O3.out, A3.out, K3.out⟩
  case round =>
    obtain ⟨j, dd, l, a, rfl, rfl, hk, d0, d1, hl, ha, ho, hat, hke⟩ := hrel
    have K := Lib.hid hk; have O4 := Lib.hid ho; have A4 := Lib.hid hat; have K4 := Lib.hid hke; have HL := Lib.hid hl; have HA := Lib.hid ha
    have hw4 : w.heap.size ≤ wr.heap.size := hke.size
    have hj5 : j ≤ n + 1 := by omega
    clear hk ho hat hke hl ha O1 O3
    by_cases hlt : (j : Int) < 1 + (n : Int)
    · go_wp2_with fail
      refine (pick_at 9 (A4.out.alloc _) (by omega)).mono ?_
      rintro e w5 ⟨q, rfl, p5, q5, _, a5, k5⟩
      replace q5 := q5 (by decide)
      obtain ⟨y, y0, y1, hy⟩ := nine_cells q p5 q5
      have c5 := lit_kept k5 A4.out.lt hy
      have z1 : IntKind.i64.wrap (dd + y) = dd + y := IntWalk.i64_in _ (by omega)
      have A5 := Lib.hid a5
      have K5 := Lib.hid ((K4.out.trans (Keep.alloc b wr _)).trans k5)
      have O5 := Lib.hid ((O4.out.grow ((Below.refl _ _).alloc (Nat.le_refl _) _)).keep k5 hbw)
      have hs5 := K5.out.size
      clear a5 k5 hy
      have n1 := new_one w5 (.int .i64 (dd + y)) 3
      have N1 := Lib.hid n1
      have BW := Lib.hid ((Below.refl w5.heap.size w5).alloc (Nat.le_refl _) (.cells #[.int .i64 (dd + y)] 3))
      clear n1
      go_wp2_with (at_builtin; refine iappend_lies intsT rfl _ _ rfl (B := w.heap.size) _ l rfl (O5.out.fst.grow BW.out) ⟨w5.heap.size, 0, none⟩ (dd + y) rfl N1.out (by have := HL.out; omega) (by simp; omega) ?_; intro g8 cap8 w8 hown8 hg8 hat8)
      have O8 := Lib.hid ((O5.out.grow BW.out).left hg8 hown8 hat8)
      have B8 := Lib.hid ((BW.out.mono hs5).trans ((O5.out.fst.grow BW.out).below hg8 (by simp; omega)))
      have A8 := Lib.hid (A5.out.below (B8.out.mono hbw))
      have K8 := Lib.hid (K5.out.grow' B8.out)
      clear hown8 hg8 hat8 c5
      go_wp2_with fail
      refine (pick_at 60 A8.out (by omega)).mono ?_
      rintro e w9 ⟨q9, rfl, p9, _, _, a9, k9⟩
      have A9 := Lib.hid a9
      have K9 := Lib.hid (K8.out.trans k9)
      have O9 := Lib.hid (O8.out.keep k9 hbw)
      have hs9 := K9.out.size
      clear a9 k9
      have n2 := new_one w9 (.int .i64 q9) 3
      have N2 := Lib.hid n2
      have BX := Lib.hid ((Below.refl w9.heap.size w9).alloc (Nat.le_refl _) (.cells #[.int .i64 q9] 3))
      clear n2
      go_wp2_with (at_builtin; refine iappend_lies intsT rfl _ _ rfl (B := w.heap.size) _ a rfl (O9.out.snd.grow BX.out) ⟨w9.heap.size, 0, none⟩ q9 rfl N2.out (by have := HA.out; omega) (by simp; omega) ?_; intro g10 cap10 w10 hown10 hg10 hat10)
      have O10 := Lib.hid ((O9.out.grow BX.out).swap.left hg10 hown10 hat10).swap
      have B10 := Lib.hid ((BX.out.mono hs9).trans ((O9.out.snd.grow BX.out).below hg10 (by simp; omega)))
      have A10 := Lib.hid (A9.out.below (B10.out.mono hbw))
      have K10 := Lib.hid (K9.out.grow' B10.out)
      clear hown10 hg10 hat10
      go_wp2_with fail
      go_roundg (gk - 1)
      case measure => have := K.out; omega
      case rel => exact ⟨j + 1, dd + y, _, _, rfl, by go_num, by have := K.out; omega, by omega, by omega, by have := HL.out; simp; omega, by have := HA.out; simp; omega, O10.out, A10.out.mono (by omega), K10.out⟩
    · have hjn : j = n + 1 := by omega
      go_wp2_with fail
      refine (pick_at 40 A4.out (by omega)).mono ?_
      rintro e w5 ⟨q, rfl, p5, q5, _, a5, k5⟩
      replace q5 := q5 (by decide)
      have A5 := Lib.hid (a5.mono (show m + 2 + 2 * j + 1 ≤ m + 15 by omega))
      have K5 := Lib.hid (K4.out.trans k5)
      have O5 := Lib.hid (O4.out.keep k5 hbw)
      have hs5 := K5.out.size
      clear a5 k5
      have hl2 : 2 ≤ l.length := by have := HL.out; omega
      have hl6 : l.length ≤ 6 := by have := HL.out; omega
      have ha1 : 1 ≤ a.length := by have := HA.out; omega
      have ha5 : a.length ≤ 5 := by have := HA.out; omega
      by_cases e0 : q = 0
      · subst e0
        obtain ⟨g, cap, hu, hcap, hcapm, hBg, hgw, hp⟩ := O5.out.fst.at (by omega)
        unfold maxLen at hcapm
        have h0 := (hp 0 (by omega)).cell
        have h1 := (hp 1 (by omega)).cell
        have f1 := (hp 1 (by omega)).froz
        have S1 := Lib.hid (O5.out.setL (o := 1) (by rw [hu]; rfl) ((hp 1 (by omega)).set l[0]))
        have i1 : (1 : Int) < (l.length : Int) := by omega
        have i0 : (0 : Int) < (l.length : Int) := by omega
        have j1 : 1 < l.length := by omega
        have j0 : 0 < l.length := by omega
        clear hp
        subst hu
        go_wp2_with fail
        go_ret2
        exact ⟨_, _, l.set 1 l[0], a, rfl, S1.out, by rw [List.length_set]; exact hl2, by rw [List.length_set]; exact hl6, ha1, by omega, A5.out.below (((Below.refl _ _).setCell (p := ⟨g, 1, none⟩) hBg _).mono hbw) |>.mono (by omega), K5.out.grow' ((Below.refl _ _).setCell (p := ⟨g, 1, none⟩) hBg _)⟩
      · by_cases e1 : q = 1
        · subst e1
          clear e0
          go_wp2_with fail
          refine (pick_at 2 (A5.out.alloc _) (by omega)).mono ?_
          rintro e w6 ⟨q6, rfl, p6, q6', _, a6, k6⟩
          replace q6' := q6' (by decide)
          obtain ⟨y, hy⟩ := two_words (-1) 10001 q6 p6 q6'
          have c6 := lit_kept k6 A5.out.lt hy
          have A6 := Lib.hid a6
          have K6 := Lib.hid ((K5.out.trans (Keep.alloc b w5 _)).trans k6)
          have O6 := Lib.hid ((O5.out.grow ((Below.refl _ _).alloc (Nat.le_refl _) _)).keep k6 hbw)
          clear a6 k6 hy
          obtain ⟨g, cap, hu, hcap, hcapm, hBg, hgw, hp⟩ := O6.out.snd.at (by omega)
          unfold maxLen at hcapm
          have h0 := (hp 0 (by omega)).cell
          have f0 := (hp 0 (by omega)).froz
          have S1 := Lib.hid (O6.out.swap.setL (o := 0) (by rw [hu]; rfl) ((hp 0 (by omega)).set y)).swap
          have i0 : (0 : Int) < (a.length : Int) := by omega
          have j0 : 0 < a.length := by omega
          clear hp
          subst hu
          go_wp2_with fail
          go_ret2
          exact ⟨_, _, l, a.set 0 y, rfl, S1.out, hl2, hl6, by rw [List.length_set]; exact ha1, by rw [List.length_set]; omega, A6.out.below (((Below.refl _ _).setCell (p := ⟨g, 0, none⟩) hBg _).mono hbw) |>.mono (by omega), K6.out.grow' ((Below.refl _ _).setCell (p := ⟨g, 0, none⟩) hBg _)⟩
        · by_cases e2 : q = 2
          · subst e2
            clear e0 e1
            have n1 := new_one w5 (.int .i64 1) 3
            have N1 := Lib.hid n1
            have BW := Lib.hid ((Below.refl w5.heap.size w5).alloc (Nat.le_refl _) (.cells #[.int .i64 1] 3))
            clear n1
            go_wp2_with (at_builtin; refine iappend_lies intsT rfl _ _ rfl (B := w.heap.size) _ a rfl (O5.out.snd.grow BW.out) ⟨w5.heap.size, 0, none⟩ 1 rfl N1.out (by omega) (by simp; omega) ?_; intro g8 cap8 w8 hown8 hg8 hat8)
            have O8 := Lib.hid ((O5.out.grow BW.out).swap.left hg8 hown8 hat8).swap
            have B8 := Lib.hid ((BW.out.mono hs5).trans ((O5.out.snd.grow BW.out).below hg8 (by simp; omega)))
            have A8 := Lib.hid (A5.out.below (B8.out.mono hbw))
            have K8 := Lib.hid (K5.out.grow' B8.out)
            clear hown8 hg8 hat8
            go_wp2_with fail
            go_ret2
            exact ⟨_, _, l, a ++ [1], rfl, O8.out, hl2, hl6, by simp, by simp; omega, A8.out.mono (by omega), K8.out⟩
          · have f0 : (q == 0) = false := by simpa using e0
            have f1 : (q == 1) = false := by simpa using e1
            have f2 : (q == 2) = false := by simpa using e2
            clear e0 e1 e2
            go_wp2_with fail
            go_ret2
            exact ⟨_, _, l, a, rfl, O5.out, hl2, hl6, ha1, by omega, A5.out.mono (by omega), K5.out⟩

/-- What a draw of a record comes to. -/
def DrewRec (w : World) (e : Ending) (w' : World) : Prop := ∃ v u l a, e = .returned (.tuple #[v, u]) ∧ IRow w' v l ∧ IRow w' u a ∧ 2 ≤ l.length ∧ 1 ≤ a.length ∧ Below w.heap.size w w'
def DrewRecI (w : World) (e : Ending) (w' : World) : Prop := ∃ v u l a, ∃ x : Int, e = .returned (.tuple #[v, u, .int .i64 x]) ∧ IRow w' v l ∧ IRow w' u a ∧ 2 ≤ l.length ∧ 1 ≤ a.length ∧ Below w.heap.size w w'
def DrewRecII (w : World) (e : Ending) (w' : World) : Prop := ∃ v u l a, ∃ x y : Int, e = .returned (.tuple #[v, u, .int .i64 x, .int .i64 y]) ∧ IRow w' v l ∧ IRow w' u a ∧ 2 ≤ l.length ∧ 1 ≤ a.length ∧ -1000 ≤ x ∧ x ≤ 100000 ∧ -1000 ≤ y ∧ y ≤ 100000 ∧ Below w.heap.size w w'
def DrewRecL (w : World) (e : Ending) (w' : World) : Prop := ∃ v u z l a o, e = .returned (.tuple #[v, u, z]) ∧ IRow w' v l ∧ IRow w' u a ∧ IRow w' z o ∧ 2 ≤ l.length ∧ 1 ≤ a.length ∧ 2 ≤ o.length ∧ Below w.heap.size w w'
theorem DrawRecordValid_any {w : World} {a : Option Addr} {len cap : Nat} (h : Bytes w a len cap) :
    Calls Try.prog 12 #[.slice a len cap] w fun e w' => DrewRec w e w' := by
  go_enter Try.func12, Try.ntmps12
  go_wp2_with fail
  refine (open_any h).mono ?_
  rintro e w1 ⟨rfl, a1, b1, s1⟩
  go_wp2_with fail
  refine (l91Record_any a1 (by omega)).mono ?_
  rintro e w2 ⟨v, u, l, m, rfl, o2, h2, _, h1, _, a2, k2⟩
  have O := Lib.hid o2
  clear o2
  go_wp2_with fail
  go_ret2
  exact ⟨_, _, l, m, rfl, O.out.fst.row, O.out.snd.row, h2, h1, k2.below b1 (Nat.le_refl _) (by omega)⟩
theorem DrawRecordTotal_any {w : World} {a : Option Addr} {len cap : Nat} (h : Bytes w a len cap) :
    Calls Try.prog 15 #[.slice a len cap] w fun e w' => DrewRec w e w' := by
  go_enter Try.func15, Try.ntmps15
  go_wp2_with fail
  refine (open_any h).mono ?_
  rintro e w1 ⟨rfl, a1, b1, s1⟩
  go_wp2_with fail
  refine (l91Record_any a1 (by omega)).mono ?_
  rintro e w2 ⟨v, u, l, m, rfl, o2, h2, _, h1, _, a2, k2⟩
  have O := Lib.hid o2
  clear o2
  go_wp2_with fail
  go_ret2
  exact ⟨_, _, l, m, rfl, O.out.fst.row, O.out.snd.row, h2, h1, k2.below b1 (Nat.le_refl _) (by omega)⟩
theorem DrawRecordRebin_any {w : World} {a : Option Addr} {len cap : Nat} (h : Bytes w a len cap) :
    Calls Try.prog 26 #[.slice a len cap] w fun e w' => DrewRecL w e w' := by
  go_enter Try.func26, Try.ntmps26
  go_wp2_with fail
  refine (open_any h).mono ?_
  rintro e w1 ⟨rfl, a1, b1, s1⟩
  go_wp2_with fail
  refine (l91Record_any a1 (by omega)).mono ?_
  rintro e w2 ⟨v, u, l, m, rfl, o2, h2, _, h1, _, a2, k2⟩
  have O := Lib.hid o2; have A2 := Lib.hid a2; have K2 := Lib.hid k2
  have hs2 := k2.size
  clear o2 a2 k2
  go_wp2_with fail
  refine (l91Record_any A2.out (by omega)).mono ?_
  rintro e w3 ⟨v', u', l', m', rfl, o3, h3, _, _, _, a3, k3⟩
  have O3 := Lib.hid o3; have K3 := Lib.hid (K2.out.trans k3)
  have OA := Lib.hid (O.out.keep k3 (by omega))
  clear o3 a3 k3
  go_wp2_with fail
  go_ret3
  exact ⟨_, _, _, l, m, l', rfl, OA.out.fst.row, OA.out.snd.row, O3.out.fst.row, h2, h1, h3, K3.out.below b1 (Nat.le_refl _) (by omega)⟩
theorem DrawRecordMerge_any {w : World} {a : Option Addr} {len cap : Nat} (h : Bytes w a len cap) :
    Calls Try.prog 31 #[.slice a len cap] w fun e w' => DrewRecI w e w' := by
  go_enter Try.func31, Try.ntmps31
  go_wp2_with fail
  refine (open_any h).mono ?_
  rintro e w1 ⟨rfl, a1, b1, s1⟩
  go_wp2_with fail
  refine (l91Record_any a1 (by omega)).mono ?_
  rintro e w2 ⟨v, u, l, m, rfl, o2, h2, _, h1, h6, a2, k2⟩
  have O := Lib.hid o2; have A2 := Lib.hid a2; have K2 := Lib.hid k2
  have hs2 := k2.size
  clear o2 a2 k2
  go_wp2_with fail
  refine (pick_at 16 A2.out (by omega)).mono ?_
  rintro e w3 ⟨r, rfl, p3, q3, _, a3, k3⟩
  replace q3 := q3 (by decide)
  have A3 := Lib.hid a3; have K3 := Lib.hid (K2.out.trans k3)
  have O3 := Lib.hid (O.out.keep k3 (by omega))
  have hs3 := K3.out.size
  obtain ⟨g, c, hu, hcap, hcapm, hBg, hgw, hp⟩ := O3.out.snd.at (by omega)
  unfold maxLen at hcapm
  have h0 := (hp 0 (by omega)).cell
  have f0 := (hp 0 (by omega)).froz
  have S1 := Lib.hid (O3.out.swap.setL (o := 0) (by rw [hu]; rfl) ((hp 0 (by omega)).set 10000)).swap
  have i0 : (0 : Int) < (m.length : Int) := by omega
  have j0 : 0 < m.length := by omega
  obtain ⟨x, hx⟩ : ∃ x : Int, (if (1 : Int) < (m.length : Int) then (m.length : Int) else 1) = x := ⟨_, rfl⟩
  have hx1 : 1 ≤ x ∧ x ≤ 10 := by rw [← hx]; split <;> omega
  obtain ⟨hx1, hx2⟩ := hx1
  have B1 := Lib.hid (Keep.below b1 K3.out (Nat.le_refl _) (by omega))
  clear a3 k3 hp
  subst hu
  by_cases e0 : r = 0
  · subst e0
    have bs := (Below.refl w1.heap.size w3).setCell (p := ⟨g, 0, none⟩) hBg (.int .i64 10000)
    have AX := Lib.hid (A3.out.below (bs.mono s1))
    have OX := S1
    have BX := Lib.hid (B1.out.trans (bs.mono (by omega)))
    have HZ : 1 ≤ (m.set 0 10000).length := by rw [List.length_set]; exact h1
    clear bs S1
    go_wp2_with fail
    refine (pick_at x AX.out (by omega)).mono ?_
    rintro e w5 ⟨q5, rfl, _, _, _, a5, k5⟩
    have A5 := Lib.hid a5
    have O5 := Lib.hid (OX.out.keep k5 (by omega))
    have B5 := Lib.hid (Keep.below BX.out k5 (Nat.le_refl _) BX.out.size)
    clear a5 k5
    go_wp2_with fail
    refine (pick_at 16 A5.out (by omega)).mono ?_
    rintro e w6 ⟨q6, rfl, _, _, _, a6, k6⟩
    have O6 := Lib.hid (O5.out.keep k6 (by omega))
    have B6 := Lib.hid (Keep.below B5.out k6 (Nat.le_refl _) B5.out.size)
    clear a6 k6
    go_wp2_with fail
    go_ret3
    exact ⟨_, _, l, _, _, rfl, O6.out.fst.row, O6.out.snd.row, h2, HZ, B6.out⟩
  · have e1 : (r == 0) = false := by simpa using e0
    have AX := A3
    have OX := O3
    have BX := B1
    have HZ : 1 ≤ m.length := h1
    clear e0 S1 h0 f0
    go_wp2_with fail
    refine (pick_at x AX.out (by omega)).mono ?_
    rintro e w5 ⟨q5, rfl, _, _, _, a5, k5⟩
    have A5 := Lib.hid a5
    have O5 := Lib.hid (OX.out.keep k5 (by omega))
    have B5 := Lib.hid (Keep.below BX.out k5 (Nat.le_refl _) BX.out.size)
    clear a5 k5
    go_wp2_with fail
    refine (pick_at 16 A5.out (by omega)).mono ?_
    rintro e w6 ⟨q6, rfl, _, _, _, a6, k6⟩
    have O6 := Lib.hid (O5.out.keep k6 (by omega))
    have B6 := Lib.hid (Keep.below B5.out k6 (Nat.le_refl _) B5.out.size)
    clear a6 k6
    go_wp2_with fail
    go_ret3
    exact ⟨_, _, l, _, _, rfl, O6.out.fst.row, O6.out.snd.row, h2, HZ, B6.out⟩
theorem results_tmp4 {fn : Func} {s t u v : Tmp} (h : fn.results = #[.tmp s, .tmp t, .tmp u, .tmp v]) (tmps : Array Value) (P : Program) (w : World) :
    (results fn tmps).run P w = .ok (.tuple #[tmps.getD s undef, tmps.getD t undef, tmps.getD u undef, tmps.getD v undef]) w := by
  simp [results, h]
theorem three_cells (x q : Int) (h0 : 0 ≤ q) (h1 : q < 3) (hx : -1000 ≤ x ∧ x ≤ 100000) : ∃ v : Int, -1000 ≤ v ∧ v ≤ 100000 ∧ (#[Value.int .i64 x, Value.int .i64 30001, Value.int .i64 30000] : Array Value)[q.toNat]? = some (.int .i64 v) := by
  have h : q = 0 ∨ q = 1 ∨ q = 2 := by omega
  rcases h with rfl | rfl | rfl
  · exact ⟨x, by omega, by omega, rfl⟩
  · exact ⟨30001, by omega, by omega, rfl⟩
  · exact ⟨30000, by omega, by omega, rfl⟩
theorem three_list {q : Nat} {v a b c : Value} (h : q < [a, b, c].length) (hv : (#[a, b, c] : Array Value)[q]? = some v) : [a, b, c][q] = v := by simpa [List.getElem?_eq_getElem h] using hv
theorem lit_kept' {b : Nat} {w w' : World} {i : Nat} {c : Array Value} {t : TypeId} {v : Value} (k : Keep b (w.alloc (.cells c t)).drew w') (hb : b < w.heap.size) (hv : c[i]? = some v) : w'.cell? ⟨w.heap.size, i, none⟩ = some v := by
  refine (k.cell (p := ⟨w.heap.size, i, none⟩) ?_ ?_).trans ?_
  · show w.heap.size < (w.alloc _).heap.size
    simp
  · show w.heap.size ≠ b
    omega
  · rw [World.cell?_drew, World.cell?_alloc_new]; exact hv
set_option maxRecDepth 100000 in
set_option maxHeartbeats 1600000 in
theorem DrawRecordBetween_any {w : World} {a : Option Addr} {len cap : Nat} (h : Bytes w a len cap) :
    Calls Try.prog 21 #[.slice a len cap] w fun e w' => DrewRecII w e w' := by
  go_enter Try.func21, Try.ntmps21
  go_wp2_with fail
  refine (open_any h).mono ?_
  rintro e w1 ⟨rfl, a1, b1, s1⟩
  go_wp2_with fail
  refine (l91Record_any a1 (by omega)).mono ?_
  rintro e w2 ⟨v, u, l, m, rfl, o2, h2, _, h1, _, a2, k2⟩
  have O := Lib.hid o2; have A2 := Lib.hid a2; have K2 := Lib.hid k2
  have hs2 := k2.size
  clear o2 a2 k2
  go_wp2_with fail
  refine (pick_at 40 A2.out (by omega)).mono ?_
  rintro e w3 ⟨x, rfl, x0, x1, _, a3, k3⟩
  replace x1 := x1 (by decide)
  have A3 := Lib.hid a3; have K3 := Lib.hid (K2.out.trans k3)
  have O3 := Lib.hid (O.out.keep k3 (by omega))
  clear a3 k3 O A2 K2 hs2
  go_wp2_with fail
  refine (pick_at 16 A3.out (by omega)).mono ?_
  rintro e w4 ⟨r, rfl, p4, q4, _, a4, k4⟩
  replace q4 := q4 (by decide)
  have A4 := Lib.hid a4
  have O4 := Lib.hid (O3.out.keep k4 (by omega))
  have B4 := Lib.hid (Keep.below b1 (K3.out.trans k4) (Nat.le_refl _) (by omega))
  have hs4 : w1.heap.size ≤ w4.heap.size := (K3.out.trans k4).size
  have hw4 : w.heap.size < w4.heap.size := by omega
  clear a4 k4 O3 A3 K3
  by_cases z : r = 0
  · subst z
    have z1 : IntKind.i64.wrap (x - 1) = x - 1 := IntWalk.i64_in _ (by omega)
    go_wp2_with fail
    refine wp_region_held_drew (S := (fun _ => True)) (by kernel_rfl) (by all_goals trivial) (fun hHeld => ?_)
    refine take_h 0 22 rfl rfl (by kernel_rfl) (by kernel_rfl) (by kernel_rfl) (fun _ _ _ h => h) (by kernel_rfl) (by intro w hSw; (try dsimp only at hSw); go_simp; try with_reducible rfl) (by assumption) ?_
    refine take_h 1 23 rfl rfl (by kernel_rfl) (by kernel_rfl) (by kernel_rfl) (fun _ _ _ h => h) (by kernel_rfl) (by intro w hSw; (try dsimp only at hSw); go_simp; try with_reducible rfl) (by assumption) ?_
    refine take_h 2 24 rfl rfl (by kernel_rfl) (by kernel_rfl) (by kernel_rfl) (fun _ _ _ h => h) (by kernel_rfl) (by intro w hSw; (try dsimp only at hSw); go_simp; try with_reducible rfl) (by assumption) ?_
    refine take_h 3 25 rfl rfl (by kernel_rfl) (by kernel_rfl) (by kernel_rfl) (fun _ _ _ h => h) (by kernel_rfl) (by intro w hSw; (try dsimp only at hSw); go_simp; try with_reducible rfl) (by assumption) ?_
    refine take_h 4 26 rfl rfl (by kernel_rfl) (by kernel_rfl) (by kernel_rfl) (fun _ _ _ h => h) (by kernel_rfl) (by intro w hSw; (try dsimp only at hSw); go_simp; try with_reducible rfl) (by assumption) ?_
    refine take_h 6 28 rfl rfl (by kernel_rfl) (by kernel_rfl) (by kernel_rfl) (fun _ _ _ h => h) (by kernel_rfl) (by intro w hSw; (try dsimp only at hSw); go_simp; try with_reducible rfl) (by assumption) ?_
    refine wpAnyH_ready (rs := [5, 7]) (by kernel_rfl) (by simp) (AllReadyH.cons rfl (fun K hK => ?_) (AllReadyH.cons rfl (fun K hK => ?_) AllReadyH.nil))
    go_simp
    refine hK.out _ _ (by (try dsimp only); all_goals trivial) (fun hHeld => ?_)
    clear hK K
    refine wpAnyH_ready (rs := [7]) (by kernel_rfl) (by simp) (AllReadyH.cons rfl (fun K hK => ?_) AllReadyH.nil)
    go_simp
    go_wp2_with ((go_at_call 42; refine (pick_at (m := 22) (b := w.heap.size) _ (by first | exact (A4.out.alloc _).drew | exact A4.out.drew.alloc _) (by omega)).mono ?_; rintro e w5 ⟨q, rfl, q0, q1, _, a5, k5⟩; replace q1 := q1 (by decide); obtain ⟨y, y0, y1, hv⟩ := three_cells (x - 1) q q0 q1 (by omega); have c5 : w5.cell? ⟨w4.heap.size, q.toNat, none⟩ = some (.int .i64 y) := by first | exact lit_kept' k5 A4.out.lt hv | exact lit_kept k5 A4.out.lt hv))
    refine hK.out _ _ (by (try dsimp only); all_goals trivial) (fun hHeld => ?_)
    clear hK K
    refine take_h 8 30 rfl rfl (by kernel_rfl) (by kernel_rfl) (by kernel_rfl) (fun _ _ _ h => h) (by kernel_rfl) (by intro w hSw; (try dsimp only at hSw); go_simp; try with_reducible rfl) (by assumption) ?_
    refine take_h 10 2 rfl rfl (by kernel_rfl) (by kernel_rfl) (by kernel_rfl) (fun _ _ _ h => h) (by kernel_rfl) (by intro w hSw; (try dsimp only at hSw); go_simp; try with_reducible rfl) (by assumption) ?_
    refine take_h 11 3 rfl rfl (by kernel_rfl) (by kernel_rfl) (by kernel_rfl) (fun _ _ _ h => h) (by kernel_rfl) (by intro w hSw; (try dsimp only at hSw); go_simp; try with_reducible rfl) (by assumption) ?_
    refine take_h 12 4 rfl rfl (by kernel_rfl) (by kernel_rfl) (by kernel_rfl) (fun _ _ _ h => h) (by kernel_rfl) (by intro w hSw; (try dsimp only at hSw); go_simp; try with_reducible rfl) (by assumption) ?_
    refine wpAnyH_ready (rs := [9]) (by kernel_rfl) (by simp) (AllReadyH.cons rfl (fun K hK => ?_) AllReadyH.nil)
    go_simp
    refine hK.out _ _ (by (try dsimp only); all_goals trivial) (fun hHeld => ?_)
    clear hK K
    refine take_h 13 5 rfl rfl (by kernel_rfl) (by kernel_rfl) (by kernel_rfl) (fun _ _ _ h => h) (by kernel_rfl) (by intro w hSw; (try dsimp only at hSw); go_simp; try with_reducible rfl) (by assumption) ?_
    refine wpAnyH_done (by kernel_rfl) ?_ _
    simp only [Exit.then]
    simp only [Act.put, List.setIfInBounds_toArray, List.set_cons_succ, List.set_cons_zero]
    rotate_left 1
    go_simp
    go_wp2_with ((go_at_call 42; refine (pick_at (m := 22) (b := w.heap.size) _ A4.out.drew (by omega)).mono ?_; rintro e w5 ⟨q, rfl, q0, q1, _, a5, k5⟩; replace q1 := q1 (by decide); obtain ⟨y, y0, y1, hv⟩ := three_cells (x - 1) q q0 q1 (by omega); have hl := three_list (by simp; omega) hv))
    refine hK.out _ _ (by (try dsimp only); all_goals trivial) (fun hHeld => ?_)
    clear hK K
    refine take_h 10 2 rfl rfl (by kernel_rfl) (by kernel_rfl) (by kernel_rfl) (fun _ _ _ h => h) (by kernel_rfl) (by intro w hSw; (try dsimp only at hSw); go_simp; try with_reducible rfl) (by assumption) ?_
    refine take_h 11 3 rfl rfl (by kernel_rfl) (by kernel_rfl) (by kernel_rfl) (fun _ _ _ h => h) (by kernel_rfl) (by intro w hSw; (try dsimp only at hSw); go_simp; try with_reducible rfl) (by assumption) ?_
    refine take_h 12 4 rfl rfl (by kernel_rfl) (by kernel_rfl) (by kernel_rfl) (fun _ _ _ h => h) (by kernel_rfl) (by intro w hSw; (try dsimp only at hSw); go_simp; try with_reducible rfl) (by assumption) ?_
    refine wpAnyH_ready (rs := [5]) (by kernel_rfl) (by simp) (AllReadyH.cons rfl (fun K hK => ?_) AllReadyH.nil)
    go_simp
    refine hK.out _ _ (by (try dsimp only); all_goals trivial) (fun hHeld => ?_)
    clear hK K
    refine take_h 8 30 rfl rfl (by kernel_rfl) (by kernel_rfl) (by kernel_rfl) (fun _ _ _ h => h) (by kernel_rfl) (by intro w hSw; (try dsimp only at hSw); go_simp; try with_reducible rfl) (by assumption) ?_
    refine wpAnyH_ready (rs := [9]) (by kernel_rfl) (by simp) (AllReadyH.cons rfl (fun K hK => ?_) AllReadyH.nil)
    go_simp
    refine hK.out _ _ (by (try dsimp only); all_goals trivial) (fun hHeld => ?_)
    clear hK K
    refine take_h 13 5 rfl rfl (by kernel_rfl) (by kernel_rfl) (by kernel_rfl) (fun _ _ _ h => h) (by kernel_rfl) (by intro w hSw; (try dsimp only at hSw); go_simp; try with_reducible rfl) (by assumption) ?_
    refine wpAnyH_done (by kernel_rfl) ?_ _
    simp only [Exit.then]
    simp only [Act.put, List.setIfInBounds_toArray, List.set_cons_succ, List.set_cons_zero]
    rotate_left 1
    all_goals
      go_wp2
      refine bodyPost_ret (results_tmp4 rfl _ _ _) rfl ?_
      refine ⟨_, _, l, m, x, y, rfl, ?_, ?_, h2, h1, by omega, by omega, by omega, by omega, ?_⟩
      · first
          | exact (((O4.out.grow ((Below.refl _ _).alloc (Nat.le_refl _) _)).grow (Below.refl _ _).drew).keep k5 (by omega)).fst.row
          | exact (((O4.out.grow (Below.refl _ _).drew).keep k5 (by omega)).grow ((Below.refl _ _).alloc (Nat.le_refl _) _)).fst.row
      · first
          | exact (((O4.out.grow ((Below.refl _ _).alloc (Nat.le_refl _) _)).grow (Below.refl _ _).drew).keep k5 (by omega)).snd.row
          | exact (((O4.out.grow (Below.refl _ _).drew).keep k5 (by omega)).grow ((Below.refl _ _).alloc (Nat.le_refl _) _)).snd.row
      · first
          | exact Keep.below ((B4.out.alloc B4.out.size _).drew) k5 (Nat.le_refl _) (by show _ ≤ (w4.alloc _).heap.size; simp; omega)
          | exact (Keep.below B4.out.drew k5 (Nat.le_refl _) B4.out.size).alloc (Nat.le_trans B4.out.size k5.size) _
  · have e0 : (r == 0) = false := by simpa using z
    clear z
    go_wp2_with fail
    refine (pick_at 40 A4.out (by omega)).mono ?_
    rintro e w5 ⟨y, rfl, y0, y1, _, a5, k5⟩
    replace y1 := y1 (by decide)
    have z1 : IntKind.i64.wrap (x + y) = x + y := IntWalk.i64_in _ (by omega)
    have O5 := Lib.hid (O4.out.keep k5 (by omega))
    have B5 := Lib.hid (Keep.below B4.out k5 (Nat.le_refl _) B4.out.size)
    clear a5 k5
    go_wp2_with fail
    refine bodyPost_ret (results_tmp4 rfl _ _ _) rfl ?_
    exact ⟨_, _, l, m, x, _, rfl, O5.out.fst.row, O5.out.snd.row, h2, h1, by omega, by omega, by omega, by omega, B5.out⟩
end Go.Proofs.Ytkcbgeldnibjcaa
