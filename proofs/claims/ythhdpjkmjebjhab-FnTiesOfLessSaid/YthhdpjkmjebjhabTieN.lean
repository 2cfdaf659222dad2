/- The contracts of the program's functions on ties, first part: ties as a map, a tie more, all ties of two lists; ties that fit, joined ties. -/
import Derived.Test.YthhdpjkmjebjhabTieM
import Derived.Test.YthhdpjkmjebjhabTieLaw
namespace Go.Proofs.Ythhdpjkmjebjhab
open Go.RowKit

abbrev TI : TypeId := 39
abbrev TM : TypeId := 62
theorem tie64 {l : List Ti} (h : isTies l = true) {j : Nat} (hj : j < l.length) : in64 l[j].1 ∧ in64 l[j].2 := by
  have := isTies_get h hj
  exact ⟨in64_of (by omega) (by omega), in64_of (by omega) (by omega)⟩
theorem tie64' {l : List Ti} (h : isTies l = true) {x y : Int} (hx : (x, y) ∈ l) : in64 x ∧ in64 y := by
  have := tieOk_iff.1 ((isTies_iff.1 h).1.ok _ hx)
  simp only at this
  exact ⟨in64_of (by omega) (by omega), in64_of (by omega) (by omega)⟩
theorem take_put {l : List Ti} (h : isTies l = true) {j : Nat} (hj : j < l.length) {x : Ti} (hx : l[j] = x) (p q : Int) : ((p = x.1 ∧ q = x.2) ∨ (p ≠ x.1 ∧ (p, q) ∈ l.take j)) ↔ (p, q) ∈ l.take (j + 1) := by
  have up := (isTies_iff.1 h).1.up
  rw [List.take_succ_eq_append_getElem hj, List.mem_append, List.mem_singleton, hx]
  constructor
  · rintro (⟨rfl, rfl⟩ | ⟨_, h⟩)
    · exact .inr rfl
    · exact .inl h
  · rintro (h | h)
    · refine .inr ⟨fun e => ?_, h⟩
      obtain ⟨i, hi, e2⟩ := List.getElem_of_mem h
      rw [List.length_take] at hi
      rw [List.getElem_take] at e2
      have := (List.pairwise_iff_getElem.1 up i j (by omega) hj (by omega)).1
      rw [e2, hx] at this
      simp only at this; omega
    · exact .inl ⟨congrArg Prod.fst h, congrArg Prod.snd h⟩
set_option maxRecDepth 100000 in
set_option maxHeartbeats 1600000 in
/-- A list as a map: its pairs, if the list are ties; else an empty one. -/
theorem mapOf_any {w : World} {v : Value} {l : List Pc} (h : Row w v l) :
    Calls Try.prog 42 #[v] w fun e w' => ∃ b, e = .returned (.tuple #[.map (some b), .bool (isTies l)]) ∧ w.heap.size ≤ b ∧ IMt w' b 12 (fun x y => isTies l = true ∧ (x, y) ∈ l) ∧ Below w.heap.size w w' := by
  obtain ⟨a, c, rfl, h1, h2, hlie⟩ := h.parts
  have H := Lib.hid hlie; have HR := Lib.hid h
  unfold maxLen at h2
  have mk := made_tieMap w
  have BM : Hid (Below w.heap.size w (w.alloc (.map #[] 0))) := Lib.hid ((Below.refl _ _).alloc (Nat.le_refl _) _)
  have M0 : Hid (IMt (w.alloc (.map #[] 0)) w.heap.size 0 (fun _ _ => False)) := Lib.hid (im_new _ _ w)
  clear h hlie
  cases hc : isTies l
  · have HC := Lib.hid hc
    clear hc
    go_enter Try.func42, Try.ntmps42
    go_wp2_with fail
    refine (tiesJ_is (HR.out.grow BM.out) HC.out).mono ?_
    rintro e w1 ⟨rfl, b1⟩
    go_wp2_with fail
    go_ret2
    exact ⟨w.heap.size, rfl, Nat.le_refl _, ((M0.out.grow b1).mono (Nat.zero_le _)).iff fun x y => by simp, BM.out.trans (b1.mono BM.out.size)⟩
  have HC := Lib.hid hc
  have l12 := isTies_len hc
  clear hc
  go_enter Try.func42, Try.ntmps42
  go_wp2_with fail
  refine (tiesJ_is (HR.out.grow BM.out) HC.out).mono ?_
  rintro e w1 ⟨rfl, b1⟩
  have M1 := Lib.hid (M0.out.grow b1)
  have B1 := Lib.hid (BM.out.trans (b1.mono BM.out.size))
  clear b1
  go_wp2_with fail
  go_loopg [14] l.length (fun k x wr => ∃ j : Nat, x = .int .i64 j ∧ j + k = l.length ∧ IMt wr w.heap.size j (fun x y => (x, y) ∈ l.take j) ∧ Below w.heap.size w wr)
  case atStart => exact ⟨0, rfl, by omega, M1.out.iff fun x y => by simp, B1.out⟩
  case round =>
    obtain ⟨j, rfl, hk, hm, hb⟩ := hrel
    have K := Lib.hid hk; have M := Lib.hid hm; have B := Lib.hid hb
    have hjl : j ≤ l.length := by omega
    clear hk hm hb
    by_cases hlt : j < l.length
    · obtain ⟨g, o, rfl, d1, d2⟩ := lies_cell H.out j hlt
      have e1 := (B.out.cell (cell_below d1)).trans d1
      have e2 := (B.out.cell (cell_below d2)).trans d2
      have i0 : (0 : Int) ≤ (j : Int) := by omega
      have i1 : (j : Int) < (l.length : Int) := by omega
      obtain ⟨x, hx⟩ : ∃ x, l[j] = x := ⟨_, rfl⟩
      have f64 := tie64 HC.out hlt
      have TP := Lib.hid (take_put HC.out hlt hx)
      rw [hx] at e1 e2 f64
      obtain ⟨x1, x2⟩ := x
      obtain ⟨f1, f2⟩ := f64
      have A1 := Lib.hid ((Below.refl wr.heap.size wr).alloc (Nat.le_refl _) (.cells #[.int .i64 x1, .int .i64 x2] TI))
      have F1 := Lib.hid f1; have F2 := Lib.hid f2
      have hsz := B.out.size
      clear d1 d2 hx f1 f2
      go_wp2_with (at_mapUpdate; refine wpList_im_put rfl _ _ _ TM rfl tieMapT rfl (M.out.grow A1.out) (by unfold maxLen; omega) _ _ rfl rfl F1.out F2.out ?_; intro w5 m5 g5; have M5 := Lib.hid m5; have B5 := Lib.hid ((B.out.trans (A1.out.mono hsz)).grown g5 (by simp; omega) (fun k hk => by cases hk; exact Nat.le_refl _)); clear m5 g5)
      go_roundg (gk - 1)
      case measure => have := K.out; omega
      case rel => exact ⟨j + 1, by go_num, by have := K.out; omega, M5.out.iff TP.out, B5.out⟩
    · have hj : j = l.length := by omega
      go_wp2_with fail
      go_ret2
      refine ⟨w.heap.size, rfl, Nat.le_refl _, (M.out.mono (by omega)).iff fun x y => ?_, B.out⟩
      rw [hj, List.take_length]
      exact ⟨fun k => ⟨by trivial, k⟩, fun k => k.2⟩
set_option maxHeartbeats 1600000 in
/-- A tie is added, if its first depth has no other tie. -/
theorem addI_any {w : World} {b n : Nat} {G : Int → Int → Prop} {x y : Int} (h : IMt w b n G) (hn : n < 1000) (fx : in64 x) (fy : in64 y) :
    Calls Try.prog 74 #[.map (some b), .agg #[.int .i64 x, .int .i64 y]] w fun e w' =>
      ∃ ok : Bool, e = .returned (.bool ok) ∧ (ok = true → IMt w' b (n + 1) (fun p q => G p q ∨ (p = x ∧ q = y))) ∧ (ok = false → ∃ y', G x y' ∧ y' ≠ y) ∧ Below b w w' := by
  have H := Lib.hid h; have FX := Lib.hid fx; have FY := Lib.hid fy
  have hbl := h.lt
  have A1 := Lib.hid ((Below.refl w.heap.size w).alloc (Nat.le_refl _) (.cells #[.int .i64 x, .int .i64 y] TI))
  have M1 := Lib.hid (H.out.grow A1.out)
  have lk := M1.out.look tieMapT FX.out
  clear h fx fy
  rcases lk with ⟨c, hc, hr⟩ | ⟨hc, hr⟩
  · have HC := Lib.hid hc
    clear hc
    by_cases e : c = y
    · have e1 : (c != y) = false := by simpa using e
      have HE := Lib.hid e
      clear e
      go_enter Try.func74, Try.ntmps74
      go_wp2_with (at_mapUpdate; refine wpList_im_put rfl _ _ _ TM rfl tieMapT rfl M1.out (by unfold maxLen; omega) _ _ rfl rfl FX.out FY.out ?_; intro w5 m5 g5; have M5 := Lib.hid m5; have B5 := Lib.hid ((A1.out.mono (Nat.le_of_lt hbl)).grown g5 (by simp; omega) (fun k hk => by cases hk; exact Nat.le_refl _)); clear m5 g5)
      go_ret
      refine ⟨true, rfl, fun _ => M5.out.iff fun p q => ?_, (fun h => by cases h), B5.out⟩
      constructor
      · rintro (k | ⟨_, k⟩)
        · exact .inr k
        · exact .inl k
      · rintro (k | k)
        · by_cases ep : p = x
          · subst ep; exact .inl ⟨rfl, by rw [← HE.out]; exact M1.out.fn k HC.out⟩
          · exact .inr ⟨ep, k⟩
        · exact .inl k
    · have e1 : (c != y) = true := by simpa using e
      have HE := Lib.hid e
      clear e
      go_enter Try.func74, Try.ntmps74
      go_wp2_with fail
      go_ret
      exact ⟨false, rfl, (fun h => by cases h), fun _ => ⟨c, HC.out, HE.out⟩, A1.out.mono (Nat.le_of_lt hbl)⟩
  · have HC := Lib.hid hc
    clear hc
    go_enter Try.func74, Try.ntmps74
    go_wp2_with (at_mapUpdate; refine wpList_im_put rfl _ _ _ TM rfl tieMapT rfl M1.out (by unfold maxLen; omega) _ _ rfl rfl FX.out FY.out ?_; intro w5 m5 g5; have M5 := Lib.hid m5; have B5 := Lib.hid ((A1.out.mono (Nat.le_of_lt hbl)).grown g5 (by simp; omega) (fun k hk => by cases hk; exact Nat.le_refl _)); clear m5 g5)
    go_ret
    refine ⟨true, rfl, fun _ => M5.out.iff fun p q => ?_, (fun h => by cases h), B5.out⟩
    constructor
    · rintro (k | ⟨_, k⟩)
      · exact .inr k
      · exact .inl k
    · rintro (k | k)
      · refine .inr ⟨fun ep => ?_, k⟩
        subst ep; exact HC.out q k
      · exact .inl k
theorem lst_new (w1 : World) {w : World} (k : Below w.heap.size w w1) : Hid (Own TI (w1.alloc (.cells #[] TI)) w.heap.size (.slice (some ⟨w1.heap.size, 0, none⟩) 0 0) [] ∧ Below w.heap.size w (w1.alloc (.cells #[] TI))) := Lib.hid ⟨own_new TI k.size, k.alloc k.size _⟩
set_option maxRecDepth 100000 in
set_option maxHeartbeats 3200000 in
/-- All ties of two lists in order, and whether both fit. -/
theorem together_any {w : World} {v u : Value} {a b : List Pc} (h : Row w v a) (k : Row w u b) :
    Calls Try.prog 50 #[v, u] w fun e w' => ∃ x L, e = .returned (.tuple #[x, .bool (fitT a b)]) ∧ Own TI w' w.heap.size x L ∧ (fitT a b = true → L = mgT a b) ∧ Below w.heap.size w w' := by
  obtain ⟨pb, cb, rfl, h1, h2, hlie⟩ := k.parts
  have H := Lib.hid h; have K' := Lib.hid k; have KL := Lib.hid hlie
  unfold maxLen at h2
  clear h k hlie
  cases ha : isTies a
  · have HA := Lib.hid ha
    have R := Lib.hid (no_fit (a := a) (b := b) (.inl ha))
    clear ha
    go_enter Try.func50, Try.ntmps50
    go_wp2_with fail
    refine (mapOf_any H.out).mono ?_
    rintro e w1 ⟨mb, rfl, -, -, b1⟩
    have O1 := lst_new w1 b1
    rw [HA.out]
    go_wp2_with fail
    go_ret2
    exact ⟨_, _, by rw [R.out]; rfl, O1.out.1, (fun h => (by rw [R.out] at h; cases h)), O1.out.2⟩
  have HA := Lib.hid ha
  cases hb : isTies b
  · have HB := Lib.hid hb
    have R := Lib.hid (no_fit (a := a) (b := b) (.inr hb))
    clear ha hb
    go_enter Try.func50, Try.ntmps50
    go_wp2_with fail
    refine (mapOf_any H.out).mono ?_
    rintro e w1 ⟨mb, rfl, -, -, b1⟩
    rw [HA.out]
    go_wp2_with fail
    refine (tiesJ_is (K'.out.grow b1) HB.out).mono ?_
    rintro e w2 ⟨rfl, b2⟩
    have O1 := lst_new w2 (b1.trans (b2.mono b1.size))
    go_wp2_with fail
    go_ret2
    exact ⟨_, _, by rw [R.out]; rfl, O1.out.1, (fun h => (by rw [R.out] at h; cases h)), O1.out.2⟩
  have HB := Lib.hid hb
  have b12 := isTies_len hb
  clear ha hb
  go_enter Try.func50, Try.ntmps50
  go_wp2_with fail
  refine (mapOf_any H.out).mono ?_
  rintro e w1 ⟨mb, rfl, hmb, m1, b1⟩
  have M1 := Lib.hid m1
  rw [HA.out]
  clear m1
  go_wp2_with fail
  refine (tiesJ_is (K'.out.grow b1) HB.out).mono ?_
  rintro e w2 ⟨rfl, b2⟩
  have M2 := Lib.hid (M1.out.grow b2)
  have B2 := Lib.hid (b1.trans (b2.mono b1.size))
  clear b1 b2
  go_wp2_with fail
  go_loopg [26] b.length (fun k x wr => ∃ j : Nat, x = .int .i64 j ∧ j + k = b.length ∧ IMt wr mb (12 + j) (fun x y => (x, y) ∈ a ∨ (x, y) ∈ b.take j) ∧ Below w.heap.size w wr)
  case atStart => exact ⟨0, rfl, by omega, M2.out.iff fun x y => by simp [HA.out], B2.out⟩
  case round =>
    obtain ⟨j, rfl, hk, hm, hb⟩ := hrel
    have K := Lib.hid hk; have M := Lib.hid hm; have B := Lib.hid hb
    have hjl : j ≤ b.length := by omega
    clear hk hm hb
    by_cases hlt : j < b.length
    · obtain ⟨g, o, rfl, d1, d2⟩ := lies_cell KL.out j hlt
      have e1 := (B.out.cell (cell_below d1)).trans d1
      have e2 := (B.out.cell (cell_below d2)).trans d2
      have i0 : (0 : Int) ≤ (j : Int) := by omega
      have i1 : (j : Int) < (b.length : Int) := by omega
      obtain ⟨x, hx⟩ : ∃ x, b[j] = x := ⟨_, rfl⟩
      have f64 := tie64 HB.out hlt
      have ST : Hid (b.take (j + 1) = b.take j ++ [x]) := Lib.hid (by rw [← hx]; exact List.take_succ_eq_append_getElem hlt)
      have XM : Hid (x ∈ b) := Lib.hid (by rw [← hx]; exact List.getElem_mem hlt)
      rw [hx] at e1 e2 f64
      obtain ⟨x1, x2⟩ := x
      obtain ⟨f1, f2⟩ := f64
      have A1 := Lib.hid ((Below.refl wr.heap.size wr).alloc (Nat.le_refl _) (.cells #[.int .i64 x1, .int .i64 x2] TI))
      have F1 := Lib.hid f1; have F2 := Lib.hid f2
      have hsz := B.out.size
      clear d1 d2 hx f1 f2
      go_wp2_with fail
      refine (addI_any (M.out.grow A1.out) (by omega) F1.out F2.out).mono ?_
      rintro e w5 ⟨ok, rfl, h1, h0, b5⟩
      have B5 := Lib.hid ((B.out.trans (A1.out.mono hsz)).trans (b5.mono hmb))
      cases ok
      · obtain ⟨y', hy, hne⟩ := h0 rfl
        have R : Hid (fitT a b = false) := Lib.hid (not_fit (hy.imp_right fun h => List.mem_of_mem_take h) XM.out hne)
        have O1 := lst_new w5 B5.out
        clear h1 h0 hy hne
        go_wp2_with fail
        go_ret2
        exact ⟨_, _, by rw [R.out]; rfl, O1.out.1, (fun h => (by rw [R.out] at h; cases h)), O1.out.2⟩
      · have M5 := Lib.hid (h1 rfl)
        clear h1 h0
        go_wp2_with fail
        go_roundg (gk - 1)
        case measure => have := K.out; omega
        case rel =>
          refine ⟨j + 1, by go_num, by have := K.out; omega, M5.out.iff fun p q => ?_, B5.out⟩
          rw [ST.out, List.mem_append, List.mem_singleton, or_assoc]
          simp [Prod.ext_iff]
    · have hj : j = b.length := by omega
      have ME : Hid (IMt wr mb 24 (fun x y => (x, y) ∈ a ∨ (x, y) ∈ b)) := Lib.hid ((M.out.mono (by omega)).iff fun x y => by rw [hj, List.take_length])
      go_wp2_with fail
      refine (sortI_any ME.out (by omega)).mono ?_
      rintro e w5 ⟨x, L, rfl, o5, so, -, b5⟩
      obtain ⟨s1, s2⟩ := sort_fit HA.out HB.out so
      have O5 := Lib.hid (o5.mono B.out.size); have B5 := Lib.hid (B.out.trans (b5.mono B.out.size)); have S1 := Lib.hid s1; have S2 := Lib.hid s2
      clear o5 so b5 s1 s2
      go_wp2_with fail
      refine (ascI_is O5.out.row S1.out).mono ?_
      rintro e w6 ⟨rfl, b6⟩
      go_wp2_with fail
      go_ret2
      exact ⟨_, L, rfl, O5.out.grow (b6.mono (Nat.le_refl _)), S2.out, B5.out.trans (b6.mono B5.out.size)⟩
set_option maxHeartbeats 1600000 in
theorem implFit_any {w : World} {v u : Value} {a b : List Pc} (h : Row w v a) (k : Row w u b) :
    Calls Try.prog 29 #[v, u] w fun e w' => Val w (.bool (fitT a b)) e w' := by
  have H := Lib.hid h; have H' := Lib.hid k
  clear h k
  go_enter Try.func29, Try.ntmps29
  go_wp2_with fail
  refine (together_any H.out H'.out).mono ?_
  rintro e w1 ⟨x, L, rfl, -, -, b1⟩
  go_wp2_with fail
  go_ret
  exact ⟨rfl, b1⟩
set_option maxHeartbeats 1600000 in
theorem implJoin_any {w : World} {v u : Value} {a b : List Pc} (h : Row w v a) (k : Row w u b) :
    Calls Try.prog 28 #[v, u] w fun e w' => LstB TI w (joinT a b) e w' := by
  have H := Lib.hid h; have H' := Lib.hid k
  clear h k
  go_enter Try.func28, Try.ntmps28
  go_wp2_with fail
  refine (together_any H.out H'.out).mono ?_
  rintro e w1 ⟨x, L, rfl, o1, e1, b1⟩
  have O1 := Lib.hid o1; have B1 := Lib.hid b1
  have N1 := lst_new w1 b1
  obtain ⟨s, c, rfl, q1, q2⟩ := o1.row.len
  clear o1 b1
  unfold maxLen at q2
  cases hf : fitT a b
  · have R : Hid (joinT a b = none) := Lib.hid (if_neg (by simp [hf]))
    clear hf e1
    go_wp2_with fail
    go_ret2
    rw [R.out]
    exact ⟨_, rfl, N1.out.1, N1.out.2⟩
  · have E := Lib.hid (e1 hf)
    clear e1
    by_cases h12 : L.length ≤ 12
    · have R : Hid (joinT a b = some L) := Lib.hid (by rw [E.out] at h12 ⊢; exact if_pos ⟨hf, h12⟩)
      have i12 : ¬ (12 : Int) < (L.length : Int) := by omega
      clear hf
      go_wp2_with fail
      go_ret2
      rw [R.out]
      exact ⟨_, rfl, O1.out, B1.out⟩
    · have R : Hid (joinT a b = none) := Lib.hid (by rw [E.out] at h12; exact if_neg (by simp [h12]))
      have i12 : (12 : Int) < (L.length : Int) := by omega
      clear hf
      go_wp2_with fail
      go_ret2
      rw [R.out]
      exact ⟨_, rfl, N1.out.1, N1.out.2⟩
end Go.Proofs.Ythhdpjkmjebjhab
