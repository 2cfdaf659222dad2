/- The contract of the program's RecordMerge: the whole. -/
import Derived.Test.YtkcbgeldnibjcaaRecMerge
namespace Go.Proofs.Ytkcbgeldnibjcaa
open Go.RowKit

theorem mergeOf_no {l m : List Int} {k : Int} (h : isRec l m = false) : mergeOf l m k = none := by unfold mergeOf mergeOk; rw [h]; rfl
theorem mergeOf_out {l m : List Int} {k : Int} (h : k < 0 ∨ (m.length : Int) < k + 2) : mergeOf l m k = none := by
  unfold mergeOf
  rw [if_neg]
  intro q
  have := mergeOk_iff.1 q
  omega
theorem mergeOf_much {l m : List Int} {j : Nat} (h : ¬ m.getD j 0 + m.getD (j + 1) 0 ≤ 10000) : mergeOf l m (j : Int) = none := by
  unfold mergeOf
  rw [if_neg]
  intro q
  have := mergeOk_iff.1 q
  exact h this.2.2.2
theorem mergeOf_yes {l m : List Int} {j : Nat} (hr : isRec l m = true) (hj : j + 2 ≤ m.length) (h : m.getD j 0 + m.getD (j + 1) 0 ≤ 10000) : mergeOf l m (j : Int) = some (mergedE l j, mergedA m j) := by
  unfold mergeOf
  rw [if_pos (mergeOk_iff.2 ⟨hr, by omega, by omega, by simpa using h⟩)]; rfl
/-- What RecordMerge comes to. -/
def MergeB (w : World) (o : Option (List Int × List Int)) (e : Ending) (w' : World) : Prop :=
  ∃ v u, e = .returned (.tuple #[v, u, .bool o.isSome]) ∧ TwoOwn w' w.heap.size v u ((o.map Prod.fst).getD []) ((o.map Prod.snd).getD []) ∧ Below w.heap.size w w'
theorem mergeB_no {w w1 : World} {o : Option (List Int × List Int)} (h : o = none) (B : Below w.heap.size w w1) :
    MergeB w o (.returned (.tuple #[.slice (some ⟨w1.heap.size, 0, none⟩) 0 0, .slice (some ⟨w1.heap.size + 1, 0, none⟩) 0 0, .bool false])) ((w1.alloc (.cells #[] 3)).alloc (.cells #[] 3)) := by
  subst h
  have h2 := iown_new (w := w1.alloc (.cells #[] 3)) (B := w.heap.size) (by have := B.size; simp; omega)
  simp only [World.size_alloc] at h2
  exact ⟨_, _, rfl, ⟨(iown_new B.size).grow ((Below.refl _ _).alloc (Nat.le_refl _) _), h2, fun k h3 h4 => by simp [Value.ownBlock] at h3 h4; omega⟩, (B.alloc B.size _).alloc (by have := B.size; simp; omega) _⟩

set_option maxHeartbeats 1600000 in
theorem implRecordMerge_any {w : World} {v u : Value} {l m : List Int} (k : Int) (h : Rec w v u l m) :
    Calls Try.prog 32 #[v, u, .int .i64 k] w fun e w' => MergeB w (mergeOf l m k) e w' := by
  obtain ⟨a, c, rfl, h1, h2⟩ := h.1.len
  obtain ⟨a', c', rfl, h1', h2'⟩ := h.2.len
  have hm : l.length ≤ maxLen := Nat.le_trans h1 h2
  have H := Lib.hid h
  clear h
  cases hr : isRec l m
  · have HR := Lib.hid hr
    have T := Lib.hid (mergeOf_no (k := k) hr)
    clear hr
    go_enter Try.func32, Try.ntmps32
    go_wp2_with fail
    refine (recOf_is H.out HR.out).mono ?_
    rintro e w1 ⟨rfl, b1⟩
    have B1 : Hid (Below w.heap.size w (w1.alloc (.cells #[.slice a l.length c, .slice a' m.length c'] 56))) := Lib.hid (b1.alloc b1.size _)
    clear b1
    go_wp2_with fail
    go_ret3
    have := mergeB_no T.out B1.out
    simp only [World.size_alloc] at this
    exact this
  · have HR := Lib.hid hr
    have HL := Lib.hid (rec_len hr)
    have h20 : m.length ≤ 20 := HL.out.2.2
    have h21 : l.length ≤ 21 := by have := HL.out; omega
    have e0 : IntKind.i64.wrap ((l.length : Int) - 1 - 1) = (l.length : Int) - 1 - 1 := IntWalk.i64_in _ (by omega)
    clear hr
    by_cases ho : k < 0 ∨ (m.length : Int) < k + 2
    · have T := Lib.hid (mergeOf_out (l := l) ho)
      by_cases h0 : k < 0
      · have d0 : decide (k < 0) = true := by simpa using h0
        clear ho
        go_enter Try.func32, Try.ntmps32
        go_wp2_with fail
        refine (recOf_is H.out HR.out).mono ?_
        rintro e w1 ⟨rfl, b1⟩
        have B1 : Hid (Below w.heap.size w (w1.alloc (.cells #[.slice a l.length c, .slice a' m.length c'] 56))) := Lib.hid (b1.alloc b1.size _)
        clear b1
        go_wp2_with fail
        go_ret3
        have := mergeB_no T.out B1.out
        simp only [World.size_alloc] at this
        exact this
      · have d0 : decide (k < 0) = false := by simpa using h0
        have d1 : decide ((l.length : Int) - 1 - 1 ≤ k) = true := by have := HL.out; simp; omega
        clear ho
        go_enter Try.func32, Try.ntmps32
        go_wp2_with fail
        refine (recOf_is H.out HR.out).mono ?_
        rintro e w1 ⟨rfl, b1⟩
        have B1 : Hid (Below w.heap.size w (w1.alloc (.cells #[.slice a l.length c, .slice a' m.length c'] 56))) := Lib.hid (b1.alloc b1.size _)
        clear b1
        go_wp2_with fail
        refine (bins_any hm _ _ _).mono ?_
        rintro e w2 ⟨rfl, rfl⟩
        go_wp2_with fail
        go_ret3
        have := mergeB_no T.out B1.out
        simp only [World.size_alloc] at this
        exact this
    · obtain ⟨j, rfl⟩ : ∃ j : Nat, k = j := ⟨k.toNat, by omega⟩
      have hj : j + 2 ≤ m.length := by omega
      have d0 : decide ((j : Int) < 0) = false := by simp
      have d1 : decide ((l.length : Int) - 1 - 1 ≤ (j : Int)) = false := by have := HL.out; simp; omega
      have MR := Lib.hid (merged_rec HR.out hj)
      clear ho
      go_enter Try.func32, Try.ntmps32
      go_wp2_with fail
      refine (recOf_is H.out HR.out).mono ?_
      rintro e w1 ⟨rfl, b1⟩
      have B1 : Hid (Below w.heap.size w (w1.alloc (.cells #[.slice a l.length c, .slice a' m.length c'] 56))) := Lib.hid (b1.alloc b1.size _)
      clear b1
      go_wp2_with fail
      refine (bins_any hm _ _ _).mono ?_
      rintro e w2 ⟨rfl, rfl⟩
      go_wp2_with fail
      refine (merged_any (H.out.grow B1.out) HR.out hj).mono ?_
      rintro e w2 ⟨vE, vA, rfl, ow, b2⟩
      have B2 := Lib.hid (B1.out.trans (b2.mono B1.out.size))
      have OW := Lib.hid (ow.mono B1.out.size)
      obtain ⟨gE, cE, hE, -⟩ := ow.fst.at (by rw [mergedE_length (by have := HL.out; omega)]; have := HL.out; omega)
      obtain ⟨gA, cA, hA, -⟩ := ow.snd.at (by rw [mergedA_length hj]; omega)
      subst hE hA
      clear b2 ow
      cases hs : decide (m.getD j 0 + m.getD (j + 1) 0 ≤ 10000)
      · have T := Lib.hid (mergeOf_much (l := l) (of_decide_eq_false hs))
        have M2 : Hid (isRec (mergedE l j) (mergedA m j) = false) := Lib.hid (MR.out.trans hs)
        clear hs
        go_wp2_with fail
        refine (recValid_any ⟨(OW.out.fst.row).grow (by go_grown), (OW.out.snd.row).grow (by go_grown)⟩).mono ?_
        rintro e w3 ⟨rfl, b3⟩
        rw [M2.out]
        have B3 : Hid (Below w.heap.size w w3) := Lib.hid (B2.out.trans ((Below.trans (by go_grown) (b3.mono (by go_size)) : Below w2.heap.size w2 w3).mono B2.out.size))
        clear b3
        go_wp2_with fail
        go_ret3
        exact mergeB_no T.out B3.out
      · have T := Lib.hid (mergeOf_yes HR.out hj (of_decide_eq_true hs))
        have M2 : Hid (isRec (mergedE l j) (mergedA m j) = true) := Lib.hid (MR.out.trans hs)
        clear hs
        go_wp2_with fail
        refine (recValid_any ⟨(OW.out.fst.row).grow (by go_grown), (OW.out.snd.row).grow (by go_grown)⟩).mono ?_
        rintro e w3 ⟨rfl, b3⟩
        rw [M2.out]
        obtain ⟨s0, s1, s2, s3⟩ := below_two w2.heap.size (.slice (some ⟨gE, 0, none⟩) (mergedE l j).length cE) (.slice (some ⟨gA, 0, none⟩) (mergedA m j).length cA) b3 (by go_cell) (by go_cell) (by go_simp) (by go_simp)
        have B23 : Hid (Below w2.heap.size w2 w3) := Lib.hid (Below.trans (by go_grown) (b3.mono (by go_size)))
        clear b3 s2 s3
        go_wp2_with fail
        go_quiet (fail)
        go_wp2_with fail
        go_ret3
        rw [T.out]
        exact ⟨_, _, rfl, (OW.out.grow B23.out).grow (below_drews (Below.refl _ _) _), below_drews (B2.out.trans (B23.out.mono B2.out.size)) _⟩
end Go.Proofs.Ytkcbgeldnibjcaa
