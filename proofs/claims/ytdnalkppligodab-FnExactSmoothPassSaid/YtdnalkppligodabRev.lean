/- slices.Reverse on a part of a block of integers. -/
import Derived.Test.YtdnalkppligodabBox
import Derived.Test.YtdnalkppligodabRegion
import Derived.Lib.Hide
namespace Go.Proofs.Ytdnalkppligodab
open Go.RowKit

/-- A list of which the first and the last i places are exchanged. -/
def revK (d : List Int) (i : Nat) : List Int := (List.range d.length).map fun k => if k < i ∨ d.length ≤ k + i then d.getD (d.length - 1 - k) 0 else d.getD k 0
theorem revK_length (d : List Int) (i : Nat) : (revK d i).length = d.length := by simp [revK]
theorem revK_get {d : List Int} {i k : Nat} (h : k < (revK d i).length) (h' : k < d.length) : (revK d i)[k] = if k < i ∨ d.length ≤ k + i then d[d.length - 1 - k]'(by omega) else d[k] := by
  simp only [revK, List.getElem_map, List.getElem_range]
  rw [getD_at (by omega), getD_at h']
theorem revK_zero (d : List Int) : revK d 0 = d := by
  apply List.ext_getElem
  · exact revK_length d 0
  · intro k h1 h2
    rw [revK_get h1 h2, if_neg (by omega)]
theorem revK_done {d : List Int} {i : Nat} (h : d.length ≤ 2 * i + 1) : revK d i = d.reverse := by
  apply List.ext_getElem
  · rw [revK_length, List.length_reverse]
  · intro k h1 h2
    rw [revK_get h1 (by rw [revK_length] at h1; exact h1), List.getElem_reverse]
    rw [revK_length] at h1
    split
    · rfl
    · congr 1; omega
theorem revK_swap {d : List Int} {i j : Nat} (hij : i < j) (hj : i + j + 1 = d.length) :
    ((revK d i).set i ((revK d i)[j]'(by rw [revK_length]; omega))).set j ((revK d i)[i]'(by rw [revK_length]; omega)) = revK d (i + 1) := by
  apply List.ext_getElem
  · simp [revK_length]
  · intro k h1 h2
    have hk : k < d.length := by rwa [revK_length] at h2
    have gi := revK_get (d := d) (i := i) (k := i) (by rw [revK_length]; omega) (by omega)
    have gj := revK_get (d := d) (i := i) (k := j) (by rw [revK_length]; omega) (by omega)
    have gk := revK_get (d := d) (i := i) (k := k) (by rw [revK_length]; omega) hk
    rw [revK_get h2 hk, List.getElem_set, List.getElem_set]
    simp only [gi, gj, gk]
    by_cases e1 : j = k
    · subst e1
      rw [if_pos rfl, if_neg (by omega), if_pos (by omega)]
      congr 1; omega
    · rw [if_neg e1]
      by_cases e2 : i = k
      · subst e2
        rw [if_pos rfl, if_neg (by omega), if_pos (by omega)]
        congr 1; omega
      · rw [if_neg e2]
        by_cases c : k < i ∨ d.length ≤ k + i
        · rw [if_pos c, if_pos (by omega)]
        · rw [if_neg c, if_neg (by omega)]
theorem mid_set (A m R : List Int) (i : Nat) (hi : i < m.length) (x : Int) : (A ++ m ++ R).set (A.length + i) x = A ++ m.set i x ++ R := by
  rw [List.append_assoc, List.set_append_right _ _ (by omega), Nat.add_sub_cancel_left, List.set_append_left _ _ hi, List.append_assoc]
theorem mid_get (A m R : List Int) (i : Nat) (hi : i < m.length) : (A ++ m ++ R)[A.length + i]'(by simp; omega) = m[i] := by
  rw [List.getElem_append_left (by simp; omega), List.getElem_append_right (by omega)]
  simp
set_option maxHeartbeats 1600000 in
theorem reverse_any {T : TypeId} {w : World} {b cap : Nat} {A d R : List Int} (h : IB T w b (A ++ d ++ R)) (hl : d.length ≤ 1000) :
    Calls Try.prog 48 #[.slice (some ⟨b, A.length, none⟩) d.length cap] w fun e w' => e = .returned (.tuple #[]) ∧ IB T w' b (A ++ d.reverse ++ R) ∧ Below b w w' ∧ w'.heap.size = w.heap.size := by
  obtain ⟨n, hn⟩ : ∃ n, d.length = n := ⟨_, rfl⟩
  obtain ⟨q, hq⟩ : ∃ q, A.length = q := ⟨_, rfl⟩
  rw [hn] at hl ⊢; rw [hq]
  have HN := Lib.hid hn; have HQ := Lib.hid hq
  have H0 : Hid (IB T w b (A ++ revK d 0 ++ R)) := Lib.hid (by rw [revK_zero]; exact h)
  have e1 : IntKind.i64.wrap ((n : Int) - 1) = (n : Int) - 1 := IntWalk.i64_in _ (by omega)
  clear h hn hq
  go_enter Try.func48, Try.ntmps48
  go_wp2_with fail
  go_loopg [2, 3] n (fun k x y wr => ∃ i : Nat, x = .int .i64 i ∧ y = .int .i64 ((n : Int) - 1 - i) ∧ i + k = n ∧ 2 * i ≤ n + 1 ∧ IB T wr b (A ++ revK d i ++ R) ∧ Below b w wr ∧ wr.heap.size = w.heap.size)
  case atStart => exact ⟨0, rfl, by first | rfl | simp, by omega, by omega, H0.out, Below.refl _ _, rfl⟩
  case round =>
    obtain ⟨i, rfl, rfl, hk, h2, hib, hbl, hsz⟩ := hrel
    have K := Lib.hid hk; have I := Lib.hid hib; have B := Lib.hid hbl; have Z := Lib.hid hsz
    clear hk hib hbl hsz H0
    by_cases hlt : (i : Int) < (n : Int) - 1 - i
    · obtain ⟨j, hj⟩ : ∃ j : Nat, n - 1 - i = j := ⟨_, rfl⟩
      have hjn : i + j + 1 = n := by omega
      have hij : i < j := by omega
      have ej : (n : Int) - 1 - i = (j : Int) := by omega
      rw [ej]
      have hi1 : i < (revK d i).length := by rw [revK_length, HN.out]; omega
      have hj1 : j < (revK d i).length := by rw [revK_length, HN.out]; omega
      have ci := I.out.cell (q + i) (by rw [← HQ.out]; simp; omega)
      have cj := I.out.cell (q + j) (by rw [← HQ.out]; simp; omega)
      have fi := I.out.froz (q + i)
      have fj := I.out.froz (q + j)
      obtain ⟨x, hx⟩ : ∃ x : Int, (revK d i)[i] = x := ⟨_, rfl⟩
      obtain ⟨y, hy⟩ : ∃ x : Int, (revK d i)[j] = x := ⟨_, rfl⟩
      have gi : (A ++ revK d i ++ R)[q + i]'(by rw [← HQ.out]; simp; omega) = x := by rw [← hx]; simp only [← HQ.out]; exact mid_get A _ R i hi1
      have gj : (A ++ revK d i ++ R)[q + j]'(by rw [← HQ.out]; simp; omega) = y := by rw [← hy]; simp only [← HQ.out]; exact mid_get A _ R j hj1
      rw [gi] at ci; rw [gj] at cj
      have I2 : ∀ W : World, IB T W b (A ++ revK d i ++ R) → IB T ((W.setCell ⟨b, q + i, none⟩ (.int .i64 y)).setCell ⟨b, q + j, none⟩ (.int .i64 x)) b (A ++ revK d (i + 1) ++ R) := fun W hW => by
        have s1 := (hW.set (q + i) y).set (q + j) x
        rw [← HQ.out, mid_set A _ R i hi1, mid_set A _ R j (by simpa using hj1), ← hx, ← hy, revK_swap hij (by rw [HN.out]; exact hjn), HQ.out] at s1
        rwa [hx, hy] at s1
      have I3 := Lib.hid I2
      have i0 : (0 : Int) ≤ (i : Int) := by omega
      have i1 : (i : Int) < (n : Int) := by omega
      have i2 : (0 : Int) ≤ (j : Int) := by omega
      have i3 : (j : Int) < (n : Int) := by omega
      have hlt' : (i : Int) < (j : Int) := by omega
      have e2 : IntKind.i64.wrap ((i : Int) + 1) = (i : Int) + 1 := IntWalk.i64_in _ (by omega)
      have e3 : IntKind.i64.wrap ((j : Int) - 1) = (j : Int) - 1 := IntWalk.i64_in _ (by omega)
      clear gi gj hx hy I2 hlt hj ej e1
      go_wp2_with fail
      go_region
      go_wp2_with fail
      go_roundg (gk - 1)
      case measure => have := K.out; omega
      case rel => exact ⟨i + 1, by go_num, by go_num, by have := K.out; omega, by omega, (I3.out _ I.out).drew, ((B.out.setCell (p := ⟨b, q + i, none⟩) (Nat.le_refl _) _).setCell (p := ⟨b, q + j, none⟩) (Nat.le_refl _) _).drew, by simpa using Z.out⟩
    · have hd := Lib.hid (revK_done (d := d) (i := i) (by rw [HN.out]; omega))
      have d1 : decide ((i : Int) < (n : Int) - 1 - i) = false := by simpa using hlt
      clear hlt
      go_wp2_with fail
      go_end0
      exact ⟨rfl, by rw [← hd.out]; exact I.out, B.out, Z.out⟩
theorem reverse_at {T : TypeId} {w : World} {b cap q n : Nat} {A d R : List Int} (h : IB T w b (A ++ d ++ R)) (hq : A.length = q) (hn : d.length = n) (hl : n ≤ 1000) :
    Calls Try.prog 48 #[.slice (some ⟨b, q, none⟩) n cap] w fun e w' => e = .returned (.tuple #[]) ∧ IB T w' b (A ++ d.reverse ++ R) ∧ Below b w w' ∧ w'.heap.size = w.heap.size := by
  subst hq; subst hn
  exact reverse_any h hl
end Go.Proofs.Ytdnalkppligodab
