/- The draws of texts. -/
import Derived.Test.YtkcnblojkdaboaaDoorDraw
import Derived.Test.YtkcnblojkdaboaaDoorYearDraw
import Derived.Test.YtkcnblojkdaboaaDoorYearFrom
namespace Go.Proofs.YtkcnblojkdaboaaDoor
open Go.RowKit

/-- What a draw of a text comes to. -/
def TextDrawn (n : Nat) (w w' : World) (b m : Nat) (e : Ending) : Prop := ∃ s : ByteArray, e = .returned (.string s) ∧ s.size ≤ n ∧ At w' b m ∧ Keep b w w'
theorem new_cell (w : World) (C : Array Value) (t : TypeId) (i : Nat) : (w.alloc (.cells C t)).cell? ((⟨w.heap.size, 0, none⟩ : Addr).add i) = C[i]? := by
  have e : (⟨w.heap.size, 0, none⟩ : Addr).add i = ⟨w.heap.size, i, none⟩ := by
    unfold Addr.add
    split
    · rename_i h; subst h; rfl
    · simp
  rw [e, World.cell?_alloc_new]
theorem of_any {w : World} {b m : Nat} (h : At w b m) (hm : m ≤ 900000) (k : Nat) (x : Addr) (n cap : Nat) (hn : 1 ≤ n) (hn' : n ≤ 1000) (hx : x.block ≠ b)
    (hc : ∀ i, i < n → ∃ s : ByteArray, w.cell? (x.add i) = some (.string s) ∧ s.size ≤ k) :
    Calls Tryd.prog 29 #[.pointer (some ⟨b, 0, none⟩), .slice (some x) n cap] w fun e w' => TextDrawn k w w' b (m + 1) e := by
  have hc' := Lib.hid hc
  clear hc
  go_enter Tryd.func29, Tryd.ntmps29
  go_wp2_with fail
  refine (pick_at _ h (by omega)).mono ?_
  rintro e w1 ⟨r, rfl, r0, r1, _, a1, k1⟩
  replace r1 := r1 (by omega)
  obtain ⟨i, rfl⟩ := Int.eq_ofNat_of_zero_le r0
  have hi : i < n := by omega
  obtain ⟨s, hs, hz⟩ := hc'.out i hi
  have c1 := k1.cell (cell_lt hs) (by rw [add_block]; exact hx)
  rw [hs] at c1
  clear hs
  go_wp2_with fail
  go_ret
  exact ⟨s, rfl, hz, a1, k1⟩

/-- What a draw of a text out of a code comes to. -/
def DrewText (n : Nat) (w w' : World) (e : Ending) : Prop := ∃ s : ByteArray, e = .returned (.string s) ∧ s.size ≤ n ∧ Below w.heap.size w w'
theorem drewText_mk {n : Nat} {s : ByteArray} {w w' : World} (h : s.size ≤ n) (k : Below w.heap.size w w') : DrewText n w w' (.returned (.string s)) := ⟨s, rfl, h, k⟩
theorem yearText_size (y : Int) : (yearText y).size ≤ 12 := by
  cases h : inYear y
  · rw [yearText_no h]; decide
  · exact (text_size h).2
theorem DrawYearFrom_any {w : World} {a : Option Addr} {len cap : Nat} (h : Bytes w a len cap) :
    Calls Tryd.prog 14 #[.slice a len cap] w fun e w' => DrewText 20 w w' e := by
  go_enter Tryd.func14, Tryd.ntmps14
  go_wp2_with fail
  refine (open_any h).mono ?_
  rintro e w1 ⟨rfl, a1, b1, s1⟩
  go_wp2_with fail
  refine (l91Year_any a1 (by omega)).mono ?_
  rintro e w2 ⟨y, rfl, y0, y1, a2, k2⟩
  go_wp2_with fail
  refine (specYearText_any _ _).mono ?_
  rintro e w3 ⟨rfl, b3⟩
  have a3 := a2.below (b3.mono a2.lt)
  have b3' : Below w.heap.size w w3 := (k2.below b1 (Nat.le_refl _) (by omega)).trans (b3.mono (by have := a2.lt; omega))
  have s3 := b3'.size
  go_wp2_with fail
  refine (pick_at _ a3 (by omega)).mono ?_
  rintro e w4 ⟨r, rfl, r0, r1, _, a4, k4⟩
  replace r1 := r1 (by decide)
  have b4 := k4.below b3' (Nat.le_refl _) (by omega)
  have s4 := b4.size
  have l4 := a4.lt
  have hy := yearText_size y
  by_cases z : r = 0
  · subst z
    go_wp2_with fail
    refine (of_any (a4.alloc _) (by omega) 20 ⟨w4.heap.size, 0, none⟩ 10 10 (by decide) (by decide) (by show w4.heap.size ≠ _; omega) ?_).mono ?_
    · intro i hi
      rw [new_cell]
      have hi' : i = 0 ∨ i = 1 ∨ i = 2 ∨ i = 3 ∨ i = 4 ∨ i = 5 ∨ i = 6 ∨ i = 7 ∨ i = 8 ∨ i = 9 := by omega
      rcases hi' with rfl | rfl | rfl | rfl | rfl | rfl | rfl | rfl | rfl | rfl
      all_goals exact ⟨_, rfl, by decide⟩
    · rintro e w5 ⟨s, rfl, hz, a5, k5⟩
      go_wp2_with fail
      go_ret
      exact drewText_mk hz (k5.below (b4.alloc s4 _) (Nat.le_refl _) (by simp; omega))
  · have e0 : (r == 0) = false := by simp; omega
    by_cases z1 : r = 1
    · subst z1
      have ha : ∀ w, (Op.stringOp .add (yearText y) ⟨#[32]⟩).run Tryd.prog w = .ok (.string (yearText y ++ ⟨#[32]⟩)) w := fun w => run_string_add_sum w _ _ (by show _ + 1 ≤ _; omega)
      go_wp2_with fail
      go_ret
      exact drewText_mk (by rw [ByteArray.size_append]; show _ + 1 ≤ _; omega) b4
    · have e1 : (r == 1) = false := by simp; omega
      go_wp2_with fail
      go_ret
      exact drewText_mk (by omega) b4
/-- What is not the text of a year: one without its last byte, one with a blank behind. -/
theorem last_byte {y : Int} (hy : inYear y = true) : (yearText y).toList.getLast? = some 69 := by
  rw [year_list hy]
  unfold eraBytes
  split <;> simp
theorem noText_last {s : ByteArray} (h : s.toList.getLast? ≠ some 69) : NoText s := fun y hy e => h (by rw [← e]; exact last_byte hy)
theorem noText_less {y : Int} (hy : inYear y = true) : NoText ((yearText y).extract 0 ((yearText y).size - 1)) := by
  apply noText_last
  rw [ByteArray.toList_eq, Lib.extract_from_zero, ← ByteArray.toList_eq, list_size, year_list hy]
  unfold eraBytes
  by_cases k : 0 < y
  · have e : Lib.decDigits (eraNum y) ++ [32, 67, 69] = (Lib.decDigits (eraNum y) ++ [32, 67]) ++ [69] := by simp
    rw [if_pos k, ← List.dropLast_eq_take, e, List.dropLast_concat]
    simp
  · have e : Lib.decDigits (eraNum y) ++ [32, 66, 67, 69] = (Lib.decDigits (eraNum y) ++ [32, 66, 67]) ++ [69] := by simp
    rw [if_neg k, ← List.dropLast_eq_take, e, List.dropLast_concat]
    simp
theorem noText_more (s : ByteArray) : NoText (s ++ ⟨#[32]⟩) := by
  apply noText_last
  rw [ByteArray.toList_eq]
  simp [ByteArray.data_append]
end Go.Proofs.YtkcnblojkdaboaaDoor
