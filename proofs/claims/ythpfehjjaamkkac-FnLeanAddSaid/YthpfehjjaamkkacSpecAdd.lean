/- The contracts of the model's functions on curves: a further knot. -/
import Derived.Test.YthpfehjjaamkkacSpecTurn
import Derived.Test.YthpfehjjaamkkacLeanWay
namespace Go.Proofs.Ythpfehjjaamkkac
open Go.RowKit

theorem ins_found {k : Pc} {l : List Pc} (j : Nat) (hj : j ≤ l.length) (h1 : ∀ i (hi : i < l.length), i < j → l[i].1 < k.1) (h2 : ∀ hj : j < l.length, k.1 ≤ l[j].1) : (l.take j ++ [k]) ++ l.drop j = ins k l := by
  rw [List.append_assoc]; exact ins_at j hj h1 h2
theorem Row.news {w : World} {g o n c : Nat} {l : List Pc} (h : Row w (.slice (some ⟨g, o, none⟩) n c) l) : ∀ j u, (cells2 l)[j]? = some u → w.cell? ((⟨g, o, none⟩ : Addr).add j) = some u :=
  lies_news fun i hi => h.cells i hi
set_option maxRecDepth 100000 in
set_option maxHeartbeats 3200000 in
theorem specCurveAdd_any {w : World} {v : Value} {l : List Pc} (k : Pc) (h : Row w v l) :
    Calls Try.prog 37 #[v, .agg #[.int .i64 k.1, .int .i64 k.2]] w fun e w' => LstB 29 w (addOf k l) e w' := by
  obtain ⟨a, c, rfl, h1, h2⟩ := h.len
  have R0 := Lib.hid h
  unfold maxLen at h2
  clear h
  cases hc : isCurve l
  · have HC := Lib.hid hc
    have HT := Lib.hid (addOf_no (k := k) hc)
    clear hc
    go_enter Try.func37, Try.ntmps37
    go_wp2_with fail
    refine (specvalid_is (R0.out.grow (by go_grown)) HC.out).mono ?_
    rintro e w1 ⟨rfl, b1⟩
    have B1 : Hid (Below w.heap.size w w1) := Lib.hid (Below.trans (by go_grown) (b1.mono (by go_size)))
    clear b1
    go_wp2_with fail
    go_ret2
    rw [HT.out]
    exact ⟨_, rfl, own_new _ B1.out.size, B1.out.alloc B1.out.size _⟩
  · have HC := Lib.hid hc
    have h12 : l.length ≤ 12 := (isCurve_steps.1 hc).2.1
    have h02 : 2 ≤ l.length := (isCurve_steps.1 hc).1
    clear hc
    obtain ⟨g, o, c', e', _, _⟩ := R0.out.known (by omega)
    simp only [Value.slice.injEq] at e'
    obtain ⟨rfl, -, rfl⟩ := e'
    go_enter Try.func37, Try.ntmps37
    go_wp2_with fail
    refine (specvalid_is (R0.out.grow (by go_grown)) HC.out).mono ?_
    rintro e w1 ⟨rfl, b1⟩
    obtain ⟨x0, x1, x2, x3⟩ := below_two w.heap.size (.int .i64 k.1) (.int .i64 k.2) b1 (by go_cell) (by go_cell) (by go_simp) (by go_simp)
    have hl1 : w.heap.size < w1.heap.size := by have := b1.size; simp at this; omega
    have B1 : Hid (Below w.heap.size w w1) := Lib.hid (Below.trans (by go_grown) (b1.mono (by go_size)))
    clear b1
    go_wp2_with fail
    go_loopg [6] l.length (fun r y wr => ∃ j : Nat, y = .int .i64 j ∧ j + r = l.length ∧ (∀ i (hi : i < l.length), i < j → l[i].1 < k.1) ∧ Below w1.heap.size w1 wr)
    case atStart => exact ⟨0, rfl, by omega, fun i _ hi => by omega, Below.refl _ _⟩
    case round =>
      obtain ⟨j, rfl, hk, hs, hb⟩ := hrel
      have K := Lib.hid hk; have S := Lib.hid hs; have B := Lib.hid (B1.out.trans (hb.mono B1.out.size))
      have hjl : j ≤ l.length := by omega
      have k0 := (hb.cell (p := ⟨w.heap.size, 0, none⟩) hl1).trans x0
      have k1 := (hb.cell (p := ⟨w.heap.size, 1, none⟩) hl1).trans x1
      have hsz := hb.size
      have HB := Lib.hid hb
      clear hk hs hb
      by_cases hgo : ∃ hlt : j < l.length, l[j].1 < k.1
      · obtain ⟨hlt, hless⟩ := hgo
        obtain ⟨c1, c2⟩ := (R0.out.grow B.out).cells j hlt
        have i1 : (j : Int) < (l.length : Int) := by omega
        have i2 : (0 : Int) ≤ (j : Int) := by omega
        go_wp2_with fail
        go_quiet (fail)
        go_wp2_with fail
        go_roundg (gk - 1)
        case measure => have := K.out; omega
        case rel => exact ⟨j + 1, by go_num, by have := K.out; omega, fun i hi hij => by
          by_cases e : i = j
          · subst e; exact hless
          · exact S.out i hi (by omega), below_drews HB.out _⟩
      · have FD := Lib.hid (ins_found (k := k) j hjl S.out (fun hj => by
          rcases Int.lt_or_le l[j].1 k.1 with q | q
          · exact absurd ⟨hj, q⟩ hgo
          · exact q))
        by_cases hlt : j < l.length
        · have hle : ¬ l[j].1 < k.1 := fun q => hgo ⟨hlt, q⟩
          have hd : decide (l[j].1 < k.1) = false := by simpa using hle
          obtain ⟨c1, c2⟩ := (R0.out.grow B.out).cells j hlt
          have i1 : (j : Int) < (l.length : Int) := by omega
          have i2 : (0 : Int) ≤ (j : Int) := by omega
          clear hgo
          go_wp2_with fail
          go_quiet (fail)
          have HQ : Hid (Below w1.heap.size w1 ((wr.drewN nq).alloc (.cells #[] 29))) := Lib.hid ((below_drews HB.out nq).alloc (by simp; omega) _)
          have O0 : Hid (Own 29 ((wr.drewN nq).alloc (.cells #[] 29)) w1.heap.size (.slice (some ⟨wr.heap.size, 0, none⟩) 0 0) []) := Lib.hid (own_new _ (w := wr.drewN nq) (by simp; omega))
          have T0 := Lib.hid ((R0.out.grow ((B1.out.trans (HQ.out.mono B1.out.size)))).take j hjl)
          have hz0 := HQ.out.size
          clear k0 k1 c1 c2
          go_upto_region 7 with (at_builtin; refine append_list knotT rfl _ _ rfl (B := w1.heap.size) _ _ rfl O0.out ⟨g, o, none⟩ j c (l.take j) rfl (by rw [List.length_take]; omega) T0.out.news (by simp; omega) hz0 ?_; intro v5 w5 hown5 hg5)
          rw [List.nil_append] at hown5
          have O5 := Lib.hid hown5
          have H5 := Lib.hid (HQ.out.trans ((O0.out.below hg5 hz0)))
          obtain ⟨y0, y1⟩ : w5.cell? ⟨w.heap.size, 0, none⟩ = some (.int .i64 k.1) ∧ w5.cell? ⟨w.heap.size, 1, none⟩ = some (.int .i64 k.2) := ⟨(H5.out.cell (p := ⟨w.heap.size, 0, none⟩) hl1).trans x0, (H5.out.cell (p := ⟨w.heap.size, 1, none⟩) hl1).trans x1⟩
          have hz5 := H5.out.size
          obtain ⟨n1, n2⟩ := new_two w5 (.int .i64 k.1) (.int .i64 k.2) 29
          have N1 := Lib.hid n1; have N2 := Lib.hid n2
          have BA := Lib.hid ((Below.refl w5.heap.size w5).alloc (Nat.le_refl _) (.cells #[.int .i64 k.1, .int .i64 k.2] 29))
          clear hown5 hg5 n1 n2
          go_upto_region 8 with (at_builtin; refine append_pair knotT rfl _ _ rfl (B := w1.heap.size) _ _ rfl (O5.out.grow BA.out) ⟨w5.heap.size, 0, none⟩ k rfl N1.out N2.out (by rw [List.length_take]; omega) (by simp; omega) ?_; intro v6 w6 hown6 hg6)
          have O6 := Lib.hid hown6
          have H6 := Lib.hid (H5.out.trans ((BA.out.mono hz5).trans ((O5.out.grow BA.out).below hg6 (by simp; omega))))
          have hz6 := H6.out.size
          have T6 := Lib.hid ((R0.out.grow (B1.out.trans (H6.out.mono B1.out.size))).drop j hjl)
          clear hown6 hg6 y0 y1
          go_upto_region 9 with (at_builtin; refine append_list knotT rfl _ _ rfl (B := w1.heap.size) _ _ rfl O6.out ⟨g, o + j * 2, none⟩ (l.length - j) (c - j) (l.drop j) rfl (by rw [List.length_drop]) T6.out.news (by simp; omega) hz6 ?_; intro v7 w7 hown7 hg7)
          rw [FD.out] at hown7
          have O7 := Lib.hid hown7
          have H7 := Lib.hid (H6.out.trans (O6.out.below hg7 hz6))
          have B7 := Lib.hid (B1.out.trans (H7.out.mono B1.out.size))
          clear hown7 hg7
          cases hc2 : isCurve (ins k l)
          · have HT := Lib.hid (addOf_no2 hc2)
            have HC2 := Lib.hid hc2
            clear hc2
            go_wp2_with fail
            refine (specvalid_is O7.out.row HC2.out).mono ?_
            rintro e w8 ⟨rfl, b8⟩
            have B8 := Lib.hid (B7.out.trans (b8.mono B7.out.size))
            clear b8
            go_wp2_with fail
            go_ret2
            rw [HT.out]
            exact ⟨_, rfl, own_new _ B8.out.size, B8.out.alloc B8.out.size _⟩
          · have HT := Lib.hid (addOf_is HC.out hc2)
            have HC2 := Lib.hid hc2
            clear hc2
            go_wp2_with fail
            refine (specvalid_is O7.out.row HC2.out).mono ?_
            rintro e w8 ⟨rfl, b8⟩
            have B8 := Lib.hid (B7.out.trans (b8.mono B7.out.size))
            have O8 := Lib.hid ((O7.out.grow b8).mono (Nat.le_of_lt hl1))
            clear b8
            go_wp2_with fail
            go_ret2
            rw [HT.out]
            exact ⟨_, rfl, O8.out, B8.out⟩
        · obtain rfl : j = l.length := by omega
          clear hgo
          go_wp2_with fail
          go_quiet (fail)
          have HQ : Hid (Below w1.heap.size w1 ((wr.drewN nq).alloc (.cells #[] 29))) := Lib.hid ((below_drews HB.out nq).alloc (by simp; omega) _)
          have O0 : Hid (Own 29 ((wr.drewN nq).alloc (.cells #[] 29)) w1.heap.size (.slice (some ⟨wr.heap.size, 0, none⟩) 0 0) []) := Lib.hid (own_new _ (w := wr.drewN nq) (by simp; omega))
          have T0 := Lib.hid ((R0.out.grow ((B1.out.trans (HQ.out.mono B1.out.size)))).take l.length (Nat.le_refl _))
          have hz0 := HQ.out.size
          clear k0 k1
          go_upto_region 7 with (at_builtin; refine append_list knotT rfl _ _ rfl (B := w1.heap.size) _ _ rfl O0.out ⟨g, o, none⟩ l.length c (l.take l.length) rfl (by rw [List.length_take]; omega) T0.out.news (by simp; omega) hz0 ?_; intro v5 w5 hown5 hg5)
          rw [List.nil_append] at hown5
          have O5 := Lib.hid hown5
          have H5 := Lib.hid (HQ.out.trans ((O0.out.below hg5 hz0)))
          obtain ⟨y0, y1⟩ : w5.cell? ⟨w.heap.size, 0, none⟩ = some (.int .i64 k.1) ∧ w5.cell? ⟨w.heap.size, 1, none⟩ = some (.int .i64 k.2) := ⟨(H5.out.cell (p := ⟨w.heap.size, 0, none⟩) hl1).trans x0, (H5.out.cell (p := ⟨w.heap.size, 1, none⟩) hl1).trans x1⟩
          have hz5 := H5.out.size
          obtain ⟨n1, n2⟩ := new_two w5 (.int .i64 k.1) (.int .i64 k.2) 29
          have N1 := Lib.hid n1; have N2 := Lib.hid n2
          have BA := Lib.hid ((Below.refl w5.heap.size w5).alloc (Nat.le_refl _) (.cells #[.int .i64 k.1, .int .i64 k.2] 29))
          clear hown5 hg5 n1 n2
          go_upto_region 8 with (at_builtin; refine append_pair knotT rfl _ _ rfl (B := w1.heap.size) _ _ rfl (O5.out.grow BA.out) ⟨w5.heap.size, 0, none⟩ k rfl N1.out N2.out (by rw [List.length_take]; omega) (by simp; omega) ?_; intro v6 w6 hown6 hg6)
          have O6 := Lib.hid hown6
          have H6 := Lib.hid (H5.out.trans ((BA.out.mono hz5).trans ((O5.out.grow BA.out).below hg6 (by simp; omega))))
          have hz6 := H6.out.size
          clear hown6 hg6 y0 y1
          obtain ⟨ad, had⟩ : ∃ ad, (if c = l.length then (some ⟨g, o, none⟩ : Option Addr) else some ⟨g, o + l.length * 2, none⟩) = some ad := by split <;> exact ⟨_, rfl⟩
          have HAD := Lib.hid had
          clear had
          go_upto_region 9 with (at_builtin; rw [HAD.out]; refine append_list knotT rfl _ _ rfl (B := w1.heap.size) _ _ rfl O6.out ad 0 (c - l.length) (l.drop l.length) rfl (by rw [List.length_drop, Nat.sub_self]) (fun j u hu => by rw [List.drop_length] at hu; simp [cells2] at hu) (by simp; omega) hz6 ?_; intro v7 w7 hown7 hg7)
          rw [FD.out] at hown7
          have O7 := Lib.hid hown7
          have H7 := Lib.hid (H6.out.trans (O6.out.below hg7 hz6))
          have B7 := Lib.hid (B1.out.trans (H7.out.mono B1.out.size))
          clear hown7 hg7
          cases hc2 : isCurve (ins k l)
          · have HT := Lib.hid (addOf_no2 hc2)
            have HC2 := Lib.hid hc2
            clear hc2
            go_wp2_with fail
            refine (specvalid_is O7.out.row HC2.out).mono ?_
            rintro e w8 ⟨rfl, b8⟩
            have B8 := Lib.hid (B7.out.trans (b8.mono B7.out.size))
            clear b8
            go_wp2_with fail
            go_ret2
            rw [HT.out]
            exact ⟨_, rfl, own_new _ B8.out.size, B8.out.alloc B8.out.size _⟩
          · have HT := Lib.hid (addOf_is HC.out hc2)
            have HC2 := Lib.hid hc2
            clear hc2
            go_wp2_with fail
            refine (specvalid_is O7.out.row HC2.out).mono ?_
            rintro e w8 ⟨rfl, b8⟩
            have B8 := Lib.hid (B7.out.trans (b8.mono B7.out.size))
            have O8 := Lib.hid ((O7.out.grow b8).mono (Nat.le_of_lt hl1))
            clear b8
            go_wp2_with fail
            go_ret2
            rw [HT.out]
            exact ⟨_, rfl, O8.out, B8.out⟩
end Go.Proofs.Ythpfehjjaamkkac
