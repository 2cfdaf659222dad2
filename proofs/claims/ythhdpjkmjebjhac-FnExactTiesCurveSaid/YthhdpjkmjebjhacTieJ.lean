/- The contract of the program's function on ties, third part: ties as a curve. -/
import Derived.Test.YthhdpjkmjebjhacTieAsc
import Derived.Test.YthhdpjkmjebjhacTieCurveB
import Derived.Test.YthhdpjkmjebjhacTieSpec2
import Derived.Test.YthhdpjkmjebjhacGrwP
namespace Go.Proofs.Ythhdpjkmjebjhac
open Go.RowKit

abbrev KI : TypeId := 70
theorem kn_new (w1 : World) {w : World} (k : Below w.heap.size w w1) : Hid (Own KI (w1.alloc (.cells #[] KI)) w.heap.size (.slice (some ⟨w1.heap.size, 0, none⟩) 0 0) [] ∧ Below w.heap.size w (w1.alloc (.cells #[] KI))) := Lib.hid ⟨own_new KI k.size, k.alloc k.size _⟩
set_option maxRecDepth 100000 in
set_option maxHeartbeats 1600000 in
theorem implCur_any {w : World} {v : Value} {l : List Pc} (h : Row w v l) :
    Calls Try.prog 32 #[v] w fun e w' => LstB KI w (curT l) e w' := by
  obtain ⟨a, c, rfl, h1, h2, hlie⟩ := h.parts
  have H := Lib.hid h; have HL := Lib.hid hlie
  unfold maxLen at h2
  clear h hlie
  cases hc : isTies l
  · have HC := Lib.hid hc
    have R := Lib.hid (curT_no (.inl hc))
    clear hc
    go_enter Try.func32, Try.ntmps32
    go_wp2_with fail
    refine (tiesJ_is H.out HC.out).mono ?_
    rintro e w1 ⟨rfl, b1⟩
    have O1 := kn_new w1 b1
    go_wp2_with fail
    go_ret2
    rw [R.out]
    exact ⟨_, rfl, O1.out.1, O1.out.2⟩
  have HC := Lib.hid hc
  have h12 := isTies_len hc
  by_cases h2l : l.length < 2
  · have R : Hid (curT l = none) := Lib.hid (curT_no (.inr h2l))
    have i2 : (l.length : Int) < 2 := by omega
    clear hc
    go_enter Try.func32, Try.ntmps32
    go_wp2_with fail
    refine (tiesJ_is H.out HC.out).mono ?_
    rintro e w1 ⟨rfl, b1⟩
    have O1 := kn_new w1 b1
    go_wp2_with fail
    go_ret2
    rw [R.out]
    exact ⟨_, rfl, O1.out.1, O1.out.2⟩
  have i2 : ¬ (l.length : Int) < 2 := by omega
  have R := Lib.hid (curT_yes hc (by omega))
  clear hc
  go_enter Try.func32, Try.ntmps32
  go_wp2_with fail
  refine (tiesJ_is H.out HC.out).mono ?_
  rintro e w1 ⟨rfl, b1⟩
  have O1 := kn_new w1 b1
  clear b1
  go_wp2_with fail
  go_loopg [4, 19] l.length (fun k x y wr => ∃ j : Nat, y = .int .i64 j ∧ j + k = l.length ∧ Own KI wr w.heap.size x (l.take j) ∧ Below w.heap.size w wr)
  case atStart => exact ⟨0, rfl, by omega, O1.out.1, O1.out.2⟩
  case round =>
    obtain ⟨j, rfl, hk, ho, hb⟩ := hrel
    have K := Lib.hid hk; have O := Lib.hid ho; have B := Lib.hid hb
    have hjl : j ≤ l.length := by omega
    clear hk ho hb
    by_cases hlt : j < l.length
    · obtain ⟨g, o, rfl, d1, d2⟩ := lies_cell HL.out j hlt
      have e1 := (B.out.cell (cell_below d1)).trans d1
      have e2 := (B.out.cell (cell_below d2)).trans d2
      have i0 : (0 : Int) ≤ (j : Int) := by omega
      have i1 : (j : Int) < (l.length : Int) := by omega
      have ST : Hid (l.take j ++ [l[j]] = l.take (j + 1)) := Lib.hid (List.take_succ_eq_append_getElem hlt).symm
      obtain ⟨x, hx⟩ : ∃ x, l[j] = x := ⟨_, rfl⟩
      rw [hx] at e1 e2 ST
      obtain ⟨x1, x2⟩ := x
      obtain ⟨wa, hwa⟩ : ∃ x, wr.alloc (.cells #[.int .i64 x1, .int .i64 x2] 54) = x := ⟨_, rfl⟩
      have A1 : Hid (Below wr.heap.size wr (wr.alloc (.cells #[.int .i64 x1, .int .i64 x2] 54))) := Lib.hid ((Below.refl _ _).alloc (Nat.le_refl _) _)
      obtain ⟨n1, n2⟩ := new_two (wr.alloc (.cells #[.int .i64 x1, .int .i64 x2] 54)) (.int .i64 x1) (.int .i64 x2) KI
      rw [World.size_alloc] at n1 n2
      have N1 := Lib.hid n1; have N2 := Lib.hid n2
      have A2 := Lib.hid (A1.out.alloc (by simp) (.cells #[.int .i64 x1, .int .i64 x2] KI))
      have OA := Lib.hid (O.out.grow A2.out)
      have hsz := B.out.size
      have hlen : (l.take j).length = j := by simp; omega
      clear d1 d2 hx n1 n2 hwa
      go_wp2_with (at_builtin; refine append_pair knT rfl _ _ rfl (B := w.heap.size) _ _ rfl OA.out ⟨wr.heap.size + 1, 0, none⟩ (x1, x2) rfl N1.out N2.out (by simp; omega) (by simp; omega) ?_; intro v5 w5 hown5 g5; have O5 := Lib.hid hown5; have B5 := Lib.hid (B.out.trans ((A2.out.mono hsz).trans (OA.out.below g5 (by simp; omega)))); clear hown5 g5)
      rw [ST.out] at O5
      go_roundg (gk - 1)
      case measure => have := K.out; omega
      case rel => exact ⟨j + 1, by go_num, by have := K.out; omega, O5.out, B5.out⟩
    · have hj : j = l.length := by omega
      go_wp2_with fail
      go_ret2
      rw [R.out]
      refine ⟨_, rfl, ?_, B.out⟩
      have := O.out
      rwa [hj, List.take_length] at this
end Go.Proofs.Ythhdpjkmjebjhac
