/- The draws of matchings: l92Match, and what each draw comes to. -/
import Derived.Test.YtmibipnkjpkngabEventDraw
import Derived.Test.YtmibipnkjpkngabEventBest
namespace Go.Proofs.Ytmibipnkjpkngab
open Go.RowKit

theorem made_run (n : Nat) (hn : n ≤ 100) (w : World) : (Instr.makeSlice 26 (.int .i64 (n : Int)) (.int .i64 (n : Int))).run Try.prog w = .ok (.slice (some ⟨w.heap.size, 0, none⟩) n n) (w.alloc (.cells (cells1 (List.replicate n 0)).toArray 3)) := by
  obtain ⟨i0, hi, hz0, hz1, hz2⟩ := info_parts intInfo
  have hb : (i0.bytes : Int) * (n : Int) ≤ 281474976710656 := by rw [hz2]; omega
  have hr := run_make (P := Try.prog) w 26 3 i0 (.int .i64 0) intT' hi hz0 .i64 .i64 n n (by omega) (by omega) hb (by omega)
  simp only [Int.toNat_natCast, hz1, Nat.mul_one] at hr
  rw [hr]
  have e : madeCells (Value.int .i64 0).cells n = (cells1 (List.replicate n 0)).toArray := by
    show madeCells #[Value.int .i64 0] n = _
    apply Array.ext'
    have := toList_madeCells_one (.int .i64 0) n
    simpa [cells1] using this
  rw [e]
theorem made_own (n : Nat) (hn : n ≤ 100) {w : World} {B : Nat} (h : B ≤ w.heap.size) : IOwn (w.alloc (.cells (cells1 (List.replicate n 0)).toArray 3)) B (.slice (some ⟨w.heap.size, 0, none⟩) n n) (List.replicate n 0) := by
  have := World.ownsRow_lit (base := B) (e := 3) (size := 1) w (cells1 (List.replicate n (0 : Int))).toArray n h (by unfold maxLen; omega) (by simp [cells1])
  show World.ownsRow _ _ _ 1 _ (List.replicate n (0 : Int)).length (cells1 (List.replicate n 0))
  rw [List.length_replicate]
  simpa using this
/-- What l92Match comes to. -/
def MatchDrawn (w : World) (b m : Nat) (e : Ending) (w' : World) : Prop :=
  ∃ (v u x : Value) (l k : List Pc) (t : Int) (L : List Int), e = .returned (.tuple #[v, u, .int .i64 t, x]) ∧ Own 34 w' w.heap.size v l ∧ Own 34 w' w.heap.size u k ∧ IOwn w' w.heap.size x L ∧ Bd 100000 6 l ∧ Bd 100000 6 k ∧ (-1 ≤ t ∧ t ≤ 1001) ∧ IBd 20 9 L ∧ At w' b (m + 100) ∧ Keep b w w'
/-! What the draws come to. -/
def DrewEv (w : World) (e : Ending) (w' : World) : Prop := ∃ v l, e = .returned v ∧ Row w' v l ∧ Bd 100000 6 l ∧ Below w.heap.size w w'
def DrewPair (w : World) (e : Ending) (w' : World) : Prop := ∃ (v u : Value) (l k : List Pc) (t : Int), e = .returned (.tuple #[v, u, .int .i64 t]) ∧ Row w' v l ∧ Row w' u k ∧ Bd 100000 6 l ∧ Bd 100000 6 k ∧ (-1 ≤ t ∧ t ≤ 1001) ∧ Below w.heap.size w w'
def DrewMatch (w : World) (e : Ending) (w' : World) : Prop := ∃ (v u x : Value) (l k : List Pc) (t : Int) (L : List Int), e = .returned (.tuple #[v, u, .int .i64 t, x]) ∧ Row w' v l ∧ Row w' u k ∧ IRow w' x L ∧ Bd 100000 6 l ∧ Bd 100000 6 k ∧ (-1 ≤ t ∧ t ≤ 1001) ∧ IBd 20 9 L ∧ Below w.heap.size w w'
theorem DrawMatchMost_any {w : World} {a : Option Addr} {len cap : Nat} (h : Bytes w a len cap) :
    Calls Try.prog 21 #[.slice a len cap] w fun e w' => DrewPair w e w' := by
  go_enter Try.func21, Try.ntmps21
  go_wp2_with fail
  refine (open_any h).mono ?_
  rintro e w1 ⟨rfl, a1, b1, s1⟩
  go_wp2_with fail
  refine (l92Pair_any a1 (by omega)).mono ?_
  rintro e w2 ⟨v, u, l, k, t, rfl, o1, o2, d1, d2, ht, a2, k2⟩
  have BB := Lib.hid (k2.below b1 (Nat.le_refl _) (by omega))
  have O1 := Lib.hid o1.row; have O2 := Lib.hid o2.row; have D1 := Lib.hid d1; have D2 := Lib.hid d2; have HT := Lib.hid ht
  clear o1 o2 d1 d2 a2 k2 ht
  go_wp2_with fail
  go_returns
  exact ⟨_, _, l, k, t, rfl, O1.out, O2.out, D1.out, D2.out, HT.out, BB.out⟩
theorem DrawMatchBest_any {w : World} {a : Option Addr} {len cap : Nat} (h : Bytes w a len cap) :
    Calls Try.prog 12 #[.slice a len cap] w fun e w' => DrewPair w e w' := by
  go_enter Try.func12, Try.ntmps12
  go_wp2_with fail
  refine (open_any h).mono ?_
  rintro e w1 ⟨rfl, a1, b1, s1⟩
  go_wp2_with fail
  refine (l92Pair_any a1 (by omega)).mono ?_
  rintro e w2 ⟨v, u, l, k, t, rfl, o1, o2, d1, d2, ht, a2, k2⟩
  have BB := Lib.hid (k2.below b1 (Nat.le_refl _) (by omega))
  have O1 := Lib.hid o1.row; have O2 := Lib.hid o2.row; have D1 := Lib.hid d1; have D2 := Lib.hid d2; have HT := Lib.hid ht
  clear o1 o2 d1 d2 a2 k2 ht
  go_wp2_with fail
  go_returns
  exact ⟨_, _, l, k, t, rfl, O1.out, O2.out, D1.out, D2.out, HT.out, BB.out⟩
theorem DrawMatchCount_any {w : World} {a : Option Addr} {len cap : Nat} (h : Bytes w a len cap) :
    Calls Try.prog 17 #[.slice a len cap] w fun e w' => DrewPair w e w' := by
  go_enter Try.func17, Try.ntmps17
  go_wp2_with fail
  refine (open_any h).mono ?_
  rintro e w1 ⟨rfl, a1, b1, s1⟩
  go_wp2_with fail
  refine (l92Pair_any a1 (by omega)).mono ?_
  rintro e w2 ⟨v, u, l, k, t, rfl, o1, o2, d1, d2, ht, a2, k2⟩
  have BB := Lib.hid (k2.below b1 (Nat.le_refl _) (by omega))
  have O1 := Lib.hid o1.row; have O2 := Lib.hid o2.row; have D1 := Lib.hid d1; have D2 := Lib.hid d2; have HT := Lib.hid ht
  clear o1 o2 d1 d2 a2 k2 ht
  go_wp2_with fail
  go_returns
  exact ⟨_, _, l, k, t, rfl, O1.out, O2.out, D1.out, D2.out, HT.out, BB.out⟩
end Go.Proofs.Ytmibipnkjpkngab
