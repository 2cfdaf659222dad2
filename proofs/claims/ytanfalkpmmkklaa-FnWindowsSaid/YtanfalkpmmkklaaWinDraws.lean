/- The draws of windows, steps and ages. -/
import Derived.Test.YtanfalkpmmkklaaWinDraw
import Derived.Test.YtanfalkpmmkklaaWinSpec3
import Derived.Test.YtanfalkpmmkklaaLate
namespace Go.Proofs.Ytanfalkpmmkklaa
open Go.RowKit

theorem made_run (n : Nat) (hn : n ≤ 100) (w : World) : (Instr.makeSlice 34 (.int .i64 (n : Int)) (.int .i64 (n : Int))).run Try.prog w = .ok (.slice (some ⟨w.heap.size, 0, none⟩) n n) (w.alloc (.cells (cells1 (List.replicate n 0)).toArray 3)) := by
  obtain ⟨i0, hi, hz0, hz1, hz2⟩ := info_parts intInfo
  have hb : (i0.bytes : Int) * (n : Int) ≤ 281474976710656 := by rw [hz2]; omega
  have hr := run_make (P := Try.prog) w 34 3 i0 (.int .i64 0) inT hi hz0 .i64 .i64 n n (by omega) (by omega) hb (by omega)
  simp only [Int.toNat_natCast, hz1, Nat.mul_one] at hr
  rw [hr]
  have e : madeCells (Value.int .i64 0).cells n = (cells1 (List.replicate n 0)).toArray := by
    show madeCells #[Value.int .i64 0] n = _
    apply Array.ext'
    have := toList_madeCells_one (.int .i64 0) n
    simpa [cells1] using this
  rw [e]
theorem made_own (n : Nat) (hn : n ≤ 100) {w : World} {B : Nat} (h : B ≤ w.heap.size) : IOwn (w.alloc (.cells (cells1 (List.replicate n 0)).toArray 3)) B (.slice (some ⟨w.heap.size, 0, none⟩) n n) (List.replicate n 0) := by
  have := World.ownsRow_lit (base := B) (e := 3) (size := 1) w (cells1 (List.replicate n (0 : Int))).toArray n h (by unfold maxLen; omega) (by simp [cells1])
  show World.ownsRow _ _ _ 1 _ (List.replicate n (0 : Int)).length (cells1 (List.replicate n 0))
  rw [List.length_replicate]
  simpa using this
theorem IOwn.keep {w w' : World} {b B : Nat} {v : Value} {l : List Int} (h : IOwn w B v l) (k : Keep b w w') (hb : b < B) : IOwn w' B v l :=
  h.same fun g hg => k.block g (h.lt g hg).2 (by have := (h.lt g hg).1; omega)
/-- Windows and steps. -/
def DrewW (w : World) (e : Ending) (w' : World) : Prop := ∃ v u l s, e = .returned (.tuple #[v, u]) ∧ Own WT w' w.heap.size v l ∧ Own WT w' w.heap.size u s ∧ 1 ≤ l.length ∧ l.length ≤ 6 ∧ s.length ≤ 6 ∧ (∀ p ∈ l, Sm 100001 p) ∧ Below w.heap.size w w'
/-- .. and ages. -/
def DrewW3 (w : World) (e : Ending) (w' : World) : Prop := ∃ v u x l s a, e = .returned (.tuple #[v, u, x]) ∧ Own WT w' w.heap.size v l ∧ Own WT w' w.heap.size u s ∧ IOwn w' w.heap.size x a ∧ 1 ≤ l.length ∧ l.length ≤ 6 ∧ s.length ≤ 6 ∧ a.length ≤ 12 ∧ Below w.heap.size w w'
set_option maxRecDepth 100000 in
set_option maxHeartbeats 1600000 in
theorem DrawWindowsValid_any {w : World} {a : Option Addr} {len cap : Nat} (h : Bytes w a len cap) :
    Calls Try.prog 4 #[.slice a len cap] w fun e w' => DrewW w e w' := by
  go_enter Try.func4, Try.ntmps4
  go_wp2_with fail
  refine (open_any h).mono ?_
  rintro e w1 ⟨rfl, a1, b1, s1⟩
  go_wp2_with fail
  refine (l92Windows_any a1 (by omega)).mono ?_
  rintro e w2 ⟨v, u, l, s, rfl, o1, o2, ap, l1, d1, d2, a2, k2⟩
  have A2 := Lib.hid a2
  have hz := k2.size
  have BB := Lib.hid (k2.below b1 (Nat.le_refl _) (by omega))
  have O1 := Lib.hid o1; have O2 := Lib.hid o2; have D1 := Lib.hid d1; have D2 := Lib.hid d2; have AP := Lib.hid ap
  have hz1 := BB.out.size
  clear o1 o2 a2 k2 d1 d2 ap
  go_wp2_with fail
  refine (pick_at 8 A2.out (by omega)).mono ?_
  rintro e w3 ⟨q, rfl, p3, r3, _, a3, k3⟩
  have A3 := Lib.hid a3
  have O3 := Lib.hid (O1.out.keep k3 (by omega)); have U3 := Lib.hid (O2.out.keep k3 (by omega))
  have B3 := Lib.hid (k3.below BB.out (by omega) hz1)
  have hz3 := k3.size
  clear a3 k3 O1 O2 A2 BB
  by_cases e0 : q = 0
  · subst e0
    have A4 := Lib.hid (A3.out.alloc (.cells #[.int .i64 (-1), .int .i64 100001] 3))
    have O4 := Lib.hid (O3.out.grow ((Below.refl _ _).alloc (Nat.le_refl _) (.cells #[.int .i64 (-1), .int .i64 100001] 3)))
    have U4 := Lib.hid (U3.out.grow ((Below.refl _ _).alloc (Nat.le_refl _) (.cells #[.int .i64 (-1), .int .i64 100001] 3)))
    have B4 := Lib.hid (B3.out.alloc B3.out.size (.cells #[.int .i64 (-1), .int .i64 100001] 3))
    have c0 : (w3.alloc (.cells #[.int .i64 (-1), .int .i64 100001] 3)).cell? ⟨w3.heap.size, 0, none⟩ = some (.int .i64 (-1)) := by go_cell
    have c1 : (w3.alloc (.cells #[.int .i64 (-1), .int .i64 100001] 3)).cell? ⟨w3.heap.size, 1, none⟩ = some (.int .i64 100001) := by go_cell
    have C0 := Lib.hid c0; have C1 := Lib.hid c1
    have hz4 := B4.out.size
    clear c0 c1
    go_wp2_with fail
    refine (pick_at 2 A4.out (by omega)).mono ?_
    rintro e w5 ⟨q5, rfl, p5, r5, _, a5, k5⟩
    replace r5 := r5 (by decide)
    have O5 := Lib.hid (O4.out.keep k5 (by omega)); have U5 := Lib.hid (U4.out.keep k5 (by omega))
    have B5 := Lib.hid (k5.below B4.out (by omega) hz4)
    have c0 := (k5.cell (p := ⟨w3.heap.size, 0, none⟩) (by simp) (by have := A3.out.lt; simp; omega)).trans C0.out
    have c1 := (k5.cell (p := ⟨w3.heap.size, 1, none⟩) (by simp) (by have := A3.out.lt; simp; omega)).trans C1.out
    obtain ⟨g, cap', rfl, v1, v2, v3, v4, hp⟩ := O5.out.own.at (by omega)
    unfold maxLen at v2
    have P := hp 0 (by omega)
    have d0 := P.top; have d1 := P.bot; have f1 := P.f1
    have SB := P.setBot
    simp only [Nat.zero_mul, Nat.zero_add] at d0 d1 f1 SB
    have SBX := Lib.hid SB
    have ne : ∀ k, u.ownBlock = some k → k ≠ g := fun k hk e2 => AP.out g rfl (e2 ▸ hk)
    have UX : Hid (∀ x : Int, Own WT (w5.setCell ⟨g, 1, none⟩ (.int .i64 x)) w1.heap.size u s) := Lib.hid (fun x => U5.out.own.same fun k hk => Below.heap_setCell _ ⟨g, 1, none⟩ _ k (ne k hk))
    have BX : Hid (∀ x : Int, Below w.heap.size w (w5.setCell ⟨g, 1, none⟩ (.int .i64 x))) := Lib.hid (fun x => B5.out.setCell (p := ⟨g, 1, none⟩) (by simp; omega) _)
    have i1 : (0 : Int) < (l.length : Int) := by omega
    have bd0 := D1.out.get 0 (by omega)
    clear hp P k5 a5 SB ne
    have hq : q5 = 0 ∨ q5 = 1 := by omega
    rcases hq with rfl | rfl
    all_goals
      go_wp2_with fail
      go_ret2
    · exact ⟨_, u, _, s, rfl, (SBX.out (-1)).mono (by omega), (UX.out (-1)).mono (by omega), by simp; omega, by have := D1.out.1; simp; omega, D2.out.1, (D1.out.set 0 (l[0].1, -1) ⟨bd0.1, by simp⟩ |>.mono (Nat.le_refl _) (by omega : (100000 : Int) ≤ 100001)).2, BX.out _⟩
    · exact ⟨_, u, _, s, rfl, (SBX.out 100001).mono (by omega), (UX.out 100001).mono (by omega), by simp; omega, by have := D1.out.1; simp; omega, D2.out.1, ((D1.out.mono (Nat.le_refl _) (by omega : (100000 : Int) ≤ 100001)).set 0 (l[0].1, 100001) ⟨by have := bd0.1; simp only; omega, by simp⟩).2, BX.out _⟩
  · have e0' : (q == 0) = false := by simpa using e0
    go_wp2_with fail
    go_ret2
    exact ⟨_, u, l, s, rfl, O3.out.own.mono (by omega), U3.out.own.mono (by omega), l1, D1.out.1, D2.out.1, (D1.out.mono (Nat.le_refl _) (by omega : (100000 : Int) ≤ 100001)).2, B3.out⟩
end Go.Proofs.Ytanfalkpmmkklaa
