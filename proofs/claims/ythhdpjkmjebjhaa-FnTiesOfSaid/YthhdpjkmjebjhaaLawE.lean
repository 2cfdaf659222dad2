/- What the walks of the laws on events name. -/
import Derived.Test.YthhdpjkmjebjhaaEventI
import Derived.Test.YthhdpjkmjebjhaaEventDraws
import Derived.Test.YthhdpjkmjebjhaaSameI
namespace Go.Proofs.Ythhdpjkmjebjhaa
open Go.RowKit

/-- A list of numbers of the call's own. -/
def GotL (w : World) (m : List Int) (e : Ending) (w' : World) : Prop := ∃ v, e = .returned (.tuple #[v, .bool true]) ∧ IOwn w' w.heap.size v m ∧ Below w.heap.size w w'
/-- .. none. -/
def NoL (w : World) (e : Ending) (w' : World) : Prop := ∃ v, e = .returned (.tuple #[v, .bool false]) ∧ IOwn w' w.heap.size v [] ∧ Below w.heap.size w w'
def ValB (w : World) (v : Value) (e : Ending) (w' : World) : Prop := e = .returned v ∧ Below w.heap.size w w'
variable {w : World} {v u x : Value} {a b : List Ev} {m : List Int} {tol z : Int} {c : Bool}
theorem evI_is (h : Row w v a) (hc : isEv a = c) : Calls Try.prog 60 #[v] w fun e w' => ValB w (.bool c) e w' := by
  have := implEv_any h; rw [hc] at this; exact this
theorem evSB (h : Row w v a) (hc : isEv a = c) : Calls Try.prog 64 #[v] w fun e w' => ValB w (.bool c) e w' := evS_is h hc
theorem okI_is (h : Row w v a) (k : Row w u b) (hm : IRow w x m) (hc : okB a b tol m = c) : Calls Try.prog 39 #[v, u, .int .i64 tol, x] w fun e w' => ValB w (.bool c) e w' := by
  have := implOk_any tol h k hm; rw [hc] at this; exact this
theorem okSB (h : Row w v a) (k : Row w u b) (hm : IRow w x m) (hc : okB a b tol m = c) : Calls Try.prog 41 #[v, u, .int .i64 tol, x] w fun e w' => ValB w (.bool c) e w' := okS_is h k hm hc
theorem manyI_is (h : Row w v a) (k : Row w u b) (hm : IRow w x m) (hz : manyM a b tol m = z) : Calls Try.prog 21 #[v, u, .int .i64 tol, x] w fun e w' => ValB w (.int .i64 z) e w' := by
  have := implMany_any tol h k hm; rw [hz] at this; exact this
theorem bestS_yes (h : Row w v a) (k : Row w u b) (hx : bestEB a b tol = some m) : Calls Try.prog 48 #[v, u, .int .i64 tol] w fun e w' => GotL w m e w' := by
  have := specBest_any tol h k; rw [hx] at this; exact this
theorem bestS_no (h : Row w v a) (k : Row w u b) (hx : bestEB a b tol = none) : Calls Try.prog 48 #[v, u, .int .i64 tol] w fun e w' => NoL w e w' := by
  have := specBest_any tol h k; rw [hx] at this; exact this
set_option maxHeartbeats 1600000 in
theorem none_any (n : Nat) (hn : n ≤ 100) (w : World) : Calls Try.prog 19 #[.int .i64 n] w fun e w' => ILst w (List.replicate n (-1)) e w' := by
  have O0 := Lib.hid (iown_new (w := w) (Nat.le_refl w.heap.size))
  have B0 := Lib.hid ((Below.refl w.heap.size w).alloc (Nat.le_refl _) (.cells #[] 3))
  go_enter Try.func19, Try.ntmps19
  go_wp2_with fail
  go_loopg [3, 4] n (fun k x y wr => ∃ j : Nat, y = .int .i64 j ∧ j + k = n ∧ IOwn wr w.heap.size x (List.replicate j (-1)) ∧ Below w.heap.size w wr)
  case atStart => exact ⟨0, rfl, by omega, O0.out, B0.out⟩
  case round =>
    obtain ⟨j, rfl, hk, ho, hb⟩ := hrel
    have K := Lib.hid hk; have O := Lib.hid ho; have B := Lib.hid hb
    have hs := hb.size
    have hjn : j ≤ n := by omega
    clear hk ho hb O0 B0
    by_cases hlt : j < n
    · have i1 : (j : Int) < (n : Int) := by omega
      have N1 := Lib.hid (new_one wr (.int .i64 (-1)) 3)
      have BW := Lib.hid ((Below.refl wr.heap.size wr).alloc (Nat.le_refl _) (.cells #[.int .i64 (-1)] 3))
      go_wp2_with (at_builtin; refine iappend_one intT' rfl _ _ rfl (B := w.heap.size) _ (List.replicate j (-1)) rfl (O.out.grow BW.out) ⟨wr.heap.size, 0, none⟩ (-1) rfl N1.out (by simp; omega) (by simp; omega) ?_; intro v8 w8 hown8 hg8)
      have O8 := Lib.hid hown8
      have B8 := Lib.hid (B.out.trans ((BW.out.mono hs).trans ((O.out.grow BW.out).below hg8 (by simp; omega))))
      clear hown8 hg8
      go_wp2_with fail
      go_roundg (gk - 1)
      case measure => have := K.out; omega
      case rel => exact ⟨j + 1, by go_num, by have := K.out; omega, by rw [List.replicate_succ']; exact O8.out, B8.out⟩
    · have hj : j = n := by omega
      subst hj
      go_wp2_with fail
      go_ret
      exact ⟨_, rfl, O.out, B.out⟩
theorem elen_n {l : List Ev} (h : Row w v l) : ∃ a c, v = .slice a l.length c ∧ l.length ≤ c ∧ c ≤ 9223372036854775807 := by
  obtain ⟨a, c, e, h1, h2⟩ := h.len
  unfold maxLen at h2
  exact ⟨a, c, e, h1, by omega⟩
theorem len_n {l : List Int} (h : IRow w v l) : ∃ a c, v = .slice a l.length c ∧ l.length ≤ c ∧ c ≤ 9223372036854775807 := by
  obtain ⟨a, c, e, h1, h2⟩ := h.len
  unfold maxLen at h2
  exact ⟨a, c, e, h1, by omega⟩
theorem eknown_n {l : List Ev} (h : Row w v l) (h0 : 0 < l.length) : ∃ g o c, v = .slice (some ⟨g, o, none⟩) l.length c ∧ l.length ≤ c ∧ c ≤ 9223372036854775807 := by
  obtain ⟨g, o, c, e, h1, h2⟩ := h.known h0
  unfold maxLen at h2
  exact ⟨g, o, c, e, h1, by omega⟩
/-- What a matching's number is: none, or a place of the second list. -/
theorem ok_at (h : okB a b tol m = true) {j : Nat} (hj : j < m.length) : m[j] = -1 ∨ (0 ≤ m[j] ∧ m[j] < b.length) := by
  have M := (okB_iff.1 h).2
  have hl := okB_len h
  rcases M.each j hj (by rw [sizes_length]; omega) with k | ⟨k1, k2, _⟩
  · exact .inl k
  · rw [sizes_length] at k2; exact .inr ⟨k1, k2⟩
theorem turned_next {n j : Nat} {l : List Int} (hj : j < l.length) : turned n l (j + 1) = if 0 ≤ l[j] then (turned n l j).set l[j].toNat (j : Int) else turned n l j := by
  simp only [turned, getD_one hj]
end Go.Proofs.Ythhdpjkmjebjhaa
