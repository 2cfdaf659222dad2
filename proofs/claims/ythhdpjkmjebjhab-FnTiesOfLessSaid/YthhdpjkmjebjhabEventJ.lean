/- The contracts of the program's functions on events: which lists are events, matchings, and the number of their pairs. -/
import Derived.Test.YthhdpjkmjebjhabFind
namespace Go.Proofs.Ythhdpjkmjebjhab
open Go.RowKit

/-- What the program's test has seen: the first i events have sizes in range, and rise from 0 on; la is the last one's depth. -/
structure SeenI (l : List Pc) (i : Nat) (la : Int) : Prop where
  ok : ∀ k (hk : k < l.length), k < i → 0 ≤ l[k].1 ∧ l[k].1 ≤ la ∧ 1 ≤ l[k].2 ∧ l[k].2 ≤ 1000
  up : ∀ k (hk : k + 1 < l.length), k + 1 < i → l[k].1 < l[k + 1].1
  low : -1 ≤ la
  here : (i = 0 ∧ la = -1) ∨ ∃ q, ∃ (h : q < l.length), i = q + 1 ∧ la = l[q].1
theorem seenI_start (l : List Pc) : SeenI l 0 (-1) := ⟨fun k _ h => by omega, fun k _ h => by omega, by omega, .inl ⟨rfl, rfl⟩⟩
theorem SeenI.next {l : List Pc} {i : Nat} {la : Int} (h : SeenI l i la) (hi : i < l.length) (h1 : la < l[i].1) (h2 : 1 ≤ l[i].2) (h3 : l[i].2 ≤ 1000) : SeenI l (i + 1) l[i].1 := by
  have lo := h.low
  refine ⟨fun k hk hki => ?_, fun k hk hki => ?_, by omega, .inr ⟨i, hi, rfl, rfl⟩⟩
  · by_cases e : k = i
    · subst e; exact ⟨by omega, Int.le_refl _, h2, h3⟩
    · obtain ⟨a, b, c, d⟩ := h.ok k hk (by omega)
      exact ⟨a, by omega, c, d⟩
  · by_cases e : i = k + 1
    · subst e
      rcases h.here with ⟨h0, _⟩ | ⟨q, hq, hq1, hq2⟩
      · omega
      · obtain rfl : k = q := by omega
        rw [← hq2]; exact h1
    · exact h.up k hk (by omega)
theorem SeenI.flat {l : List Pc} {i : Nat} {la : Int} (h : SeenI l i la) (hi : i < l.length) (h1 : l[i].1 ≤ la) : isEv l = false := by
  rcases h.here with ⟨h0, h2⟩ | ⟨q, hq, hq1, hq2⟩
  · refine isEv_out hi (.inl ?_)
    unfold isIn; exact decide_eq_false (by omega)
  · subst hq1
    exact isEv_flat hi (by rw [← hq2]; exact h1)
theorem size_off {l : List Pc} {i : Nat} (hi : i < l.length) (h : l[i].2 < 1 ∨ 1000 < l[i].2) : isEv l = false := by
  refine isEv_out hi (.inr ?_)
  unfold isIn; exact decide_eq_false (by omega)
theorem SeenI.all {l : List Pc} {la : Int} (h : SeenI l l.length la) (h8 : l.length ≤ 8) : isEv l = decide (la ≤ 30000) := by
  rw [Bool.eq_iff_iff, isEv_iff, decide_eq_true_eq]
  constructor
  · intro k
    rcases h.here with ⟨h0, h2⟩ | ⟨q, hq, hq1, hq2⟩
    · omega
    · have := k.2.1 _ (List.getElem_mem hq); omega
  · refine fun k => ⟨h8, fun p hp => ?_, fun i hi => h.up i hi (by omega)⟩
    obtain ⟨i, hi, rfl⟩ := List.getElem_of_mem hp
    obtain ⟨a, b, c, d⟩ := h.ok i hi hi
    exact ⟨a, by omega, c, d⟩
theorem isEv_long {l : List Pc} (h : ¬ l.length ≤ 8) : isEv l = false := by
  cases hc : isEv l
  · rfl
  · exact absurd (isEv_iff.1 hc).1 h
set_option maxRecDepth 100000 in
set_option maxHeartbeats 1600000 in
theorem implEv_any {w : World} {v : Value} {l : List Pc} (h : Row w v l) :
    Calls Try.prog 85 #[v] w fun e w' => Val w (.bool (isEv l)) e w' := by
  obtain ⟨a, c, rfl, h1, h2, hlie⟩ := h.parts
  have H := Lib.hid hlie
  unfold maxLen at h2
  clear h hlie
  by_cases h8 : l.length ≤ 8
  case neg =>
    have h8' : (8 : Int) < (l.length : Int) := by omega
    have R := Lib.hid (isEv_long h8)
    go_enter Try.func85, Try.ntmps85
    go_wp2_with fail
    go_ret
    exact ⟨by rw [R.out]; rfl, by go_grown⟩
  have h8' : ¬ (8 : Int) < (l.length : Int) := by omega
  go_enter Try.func85, Try.ntmps85
  go_wp2_with fail
  go_loopg [3, 11] l.length (fun k y x wr => ∃ (j : Nat) (la : Int), y = .int .i64 la ∧ x = .int .i64 j ∧ j + k = l.length ∧ SeenI l j la ∧ Below w.heap.size w wr)
  case atStart => exact ⟨0, -1, rfl, rfl, by omega, seenI_start l, Below.refl _ _⟩
  case round =>
    obtain ⟨j, la, rfl, rfl, hk, hs, hb⟩ := hrel
    have K := Lib.hid hk; have S := Lib.hid hs; have B := Lib.hid hb
    have hjl : j ≤ l.length := by omega
    clear hk hs hb
    by_cases hlt : j < l.length
    · obtain ⟨g, o, rfl, d1, d2⟩ := lies_cell H.out j hlt
      have e1 := (B.out.cell (cell_below d1)).trans d1
      have e2 := (B.out.cell (cell_below d2)).trans d2
      have i0 : (0 : Int) ≤ (j : Int) := by omega
      have i1 : (j : Int) < (l.length : Int) := by omega
      have B2 := Lib.hid (B.out.alloc B.out.size (.cells #[.int .i64 l[j].1, .int .i64 l[j].2] 77))
      obtain ⟨x, hx⟩ : ∃ x, l[j].1 = x := ⟨_, rfl⟩
      obtain ⟨y, hy⟩ : ∃ y, l[j].2 = y := ⟨_, rfl⟩
      have HX := Lib.hid hx; have HY := Lib.hid hy
      rw [hx] at e1 B2
      rw [hy] at e2 B2
      clear d1 d2 hx hy
      by_cases q1 : x ≤ la
      · have R := Lib.hid (S.out.flat hlt (by rw [HX.out]; exact q1))
        go_wp2_with fail
        go_ret
        exact ⟨by rw [R.out]; rfl, B2.out⟩
      · by_cases q2 : y < 1
        · have R := Lib.hid (size_off hlt (.inl (by rw [HY.out]; exact q2)))
          go_wp2_with fail
          go_ret
          exact ⟨by rw [R.out]; rfl, B2.out⟩
        · by_cases q3 : (1000 : Int) < y
          · have R := Lib.hid (size_off hlt (.inr (by rw [HY.out]; exact q3)))
            go_wp2_with fail
            go_ret
            exact ⟨by rw [R.out]; rfl, B2.out⟩
          · have S2 : Hid (SeenI l (j + 1) x) := Lib.hid (by have := S.out.next hlt (by rw [HX.out]; omega) (by rw [HY.out]; omega) (by rw [HY.out]; omega); rwa [HX.out] at this)
            go_wp2_with fail
            go_roundg (gk - 1)
            case measure => have := K.out; omega
            case rel => exact ⟨j + 1, x, by first | rfl | go_num, by go_num, by have := K.out; omega, S2.out, B2.out⟩
    · have hj : j = l.length := by omega
      have R : Hid (isEv l = decide (la ≤ 30000)) := Lib.hid (by have := S.out; rw [hj] at this; exact this.all h8)
      clear hj
      go_wp2_with fail
      go_ret
      exact ⟨by rw [R.out]; rfl, B.out⟩
theorem evIs {w : World} {v : Value} {l : List Pc} {b : Bool} (h : Row w v l) (hb : isEv l = b) : Calls Try.prog 85 #[v] w fun e w' => Val w (.bool b) e w' := by
  have := implEv_any h
  rwa [hb] at this
theorem args_split (a b : List Ev) (tol : Int) : argsOk a b tol = (isEv a && isEv b && (decide (0 ≤ tol) && decide (tol ≤ 1000))) := rfl
/-- A map is made. -/
theorem made_map (w : World) : (Instr.makeMap 98 none).run Try.prog w = .ok (.map (some w.heap.size)) (w.alloc (.map #[] 0)) := rfl
/-- What the program's search starts with, and whether it may. -/
def MatcherE (w : World) (v u : Value) (tol : Int) (s t : List Int) (ok : Bool) (e : Ending) (w' : World) : Prop :=
  ∃ mb, e = .returned (.tuple #[mV v u tol mb, .bool ok]) ∧ w.heap.size ≤ mb ∧ Memo Try.prog EL w' mb (FoundG tol s t) ∧ Below w.heap.size w w'
abbrev ZC : List Value := [.slice none 0 0, .slice none 0 0, .int .i64 0, .map none]
set_option maxRecDepth 100000 in
set_option maxHeartbeats 1600000 in
theorem matcher_is {w : World} {v u : Value} {a b : List Ev} {tol : Int} {c : Bool} (h : Row w v a) (k : Row w u b) (hc : argsOk a b tol = c) :
    Calls Try.prog 69 #[v, u, .int .i64 tol] w fun e w' => MatcherE w v u tol (sizes a) (sizes b) c e w' := by
  obtain ⟨pa, ca, rfl, ha1, ha2⟩ := h.len
  obtain ⟨pb, cb, rfl, hb1, hb2⟩ := k.len
  have B1 := (Below.refl w.heap.size w).alloc (Nat.le_refl _) (.cells ZC.toArray MR)
  have H := Lib.hid (h.grow B1); have H' := Lib.hid (k.grow B1)
  have C1 := Lib.hid (cb_new MR w ZC)
  have BB1 := Lib.hid B1
  have go_on : ∀ (w2 : World), Below w.heap.size w w2 → CB MR w2 w.heap.size ZC → Hid (CB MR (w2.alloc (.map #[] 0)) w.heap.size ZC ∧ CB MR ((((((w2.alloc (.map #[] 0)).setCell ⟨w.heap.size, 0, none⟩ (.slice pa a.length ca)).setCell ⟨w.heap.size, 1, none⟩ (.slice pb b.length cb)).setCell ⟨w.heap.size, 2, none⟩ (.int .i64 tol)).setCell ⟨w.heap.size, 3, none⟩ (.map (some w2.heap.size)))) w.heap.size [.slice pa a.length ca, .slice pb b.length cb, .int .i64 tol, .map (some w2.heap.size)] ∧ w.heap.size ≤ w2.heap.size ∧ Memo Try.prog EL (((((w2.alloc (.map #[] 0)).setCell ⟨w.heap.size, 0, none⟩ (.slice pa a.length ca)).setCell ⟨w.heap.size, 1, none⟩ (.slice pb b.length cb)).setCell ⟨w.heap.size, 2, none⟩ (.int .i64 tol)).setCell ⟨w.heap.size, 3, none⟩ (.map (some w2.heap.size))) w2.heap.size (FoundG tol (sizes a) (sizes b)) ∧
      Below w.heap.size w (((((w2.alloc (.map #[] 0)).setCell ⟨w.heap.size, 0, none⟩ (.slice pa a.length ca)).setCell ⟨w.heap.size, 1, none⟩ (.slice pb b.length cb)).setCell ⟨w.heap.size, 2, none⟩ (.int .i64 tol)).setCell ⟨w.heap.size, 3, none⟩ (.map (some w2.heap.size)))) := by
    intro w2 b2 c2
    have lt := c2.lt
    have c3 := c2.alloc (.map #[] 0)
    have m3 := memo_new (P := Try.prog) (k := EL) w2 (FoundG tol (sizes a) (sizes b))
    refine Lib.hid ⟨c3, (((c3.set 0 (.slice pa a.length ca)).set 1 (.slice pb b.length cb)).set 2 (.int .i64 tol)).set 3 (.map (some w2.heap.size)), by omega, ?_, (((((b2.alloc b2.size (.map #[] 0)).setCell (p := ⟨w.heap.size, 0, none⟩) (Nat.le_refl _) (.slice pa a.length ca)).setCell (p := ⟨w.heap.size, 1, none⟩) (Nat.le_refl _) (.slice pb b.length cb)).setCell (p := ⟨w.heap.size, 2, none⟩) (Nat.le_refl _) (.int .i64 tol)).setCell (p := ⟨w.heap.size, 3, none⟩) (Nat.le_refl _) (.map (some w2.heap.size)))⟩
    refine m3.same ?_
    rw [Below.heap_setCell _ _ _ _ (by simp; omega), Below.heap_setCell _ _ _ _ (by simp; omega), Below.heap_setCell _ _ _ _ (by simp; omega), Below.heap_setCell _ _ _ _ (by simp; omega)]
  have GO := Lib.hid go_on
  clear h k B1 go_on ha1 ha2 hb1 hb2
  go_enter Try.func69, Try.ntmps69
  cases h1 : isEv a
  · have HA := Lib.hid h1
    obtain rfl : false = c := by rw [← hc]; exact (args_not (b := b) (tol := tol) (.inl h1)).symm
    clear h1 hc
    go_wp2_with fail
    refine (evIs H.out HA.out).mono ?_
    rintro e w2 ⟨rfl, b2⟩
    obtain ⟨c3, c9, s9, m9, b9⟩ := (GO.out w2 (BB1.out.trans (b2.mono BB1.out.size)) (C1.out.same (b2.block _ C1.out.lt))).out
    have C9 := Lib.hid c9; have M9 := Lib.hid m9; have B9 := Lib.hid b9
    have r0 := c3.cell 0 _ rfl
    have r1 := c3.cell 1 _ rfl
    have r2 := c3.cell 2 _ rfl
    have r3 := c3.cell 3 _ rfl
    have f0 := c3.froz 0
    have f1 := c3.froz 1
    have f2 := c3.froz 2
    have f3 := c3.froz 3
    have mk := made_map w2
    clear c3 c9 m9 b9 b2
    go_wp2_with fail
    exact ret_cb2 rfl Try.underlying100 (by kernel_rfl) rfl rfl C9.out ⟨w2.heap.size, rfl, s9, M9.out, B9.out⟩
  cases h2 : isEv b
  · have HA := Lib.hid h1
    have HB := Lib.hid h2
    obtain rfl : false = c := by rw [← hc]; exact (args_not (a := a) (tol := tol) (.inr (.inl h2))).symm
    clear h1 h2 hc
    go_wp2_with fail
    refine (evIs H.out HA.out).mono ?_
    rintro e w2 ⟨rfl, b2⟩
    have B2 := Lib.hid (BB1.out.trans (b2.mono BB1.out.size))
    have C2 := Lib.hid (C1.out.same (b2.block _ C1.out.lt))
    have H2 := Lib.hid (H'.out.grow b2)
    clear b2
    go_wp2_with fail
    refine (evIs H2.out HB.out).mono ?_
    rintro e w3 ⟨rfl, b3⟩
    obtain ⟨c3, c9, s9, m9, b9⟩ := (GO.out w3 (B2.out.trans (b3.mono B2.out.size)) (C2.out.same (b3.block _ C2.out.lt))).out
    have C9 := Lib.hid c9; have M9 := Lib.hid m9; have B9 := Lib.hid b9
    have r0 := c3.cell 0 _ rfl
    have r1 := c3.cell 1 _ rfl
    have r2 := c3.cell 2 _ rfl
    have r3 := c3.cell 3 _ rfl
    have f0 := c3.froz 0
    have f1 := c3.froz 1
    have f2 := c3.froz 2
    have f3 := c3.froz 3
    have mk := made_map w3
    clear c3 c9 m9 b9 b3
    go_wp2_with fail
    exact ret_cb2 rfl Try.underlying100 (by kernel_rfl) rfl rfl C9.out ⟨w3.heap.size, by first | rfl | (show Ending.returned (.tuple #[_, .bool (decide (tol ≤ 1000))]) = _; first | rw [decide_eq_true q2] | rw [decide_eq_false (by omega)]), s9, M9.out, B9.out⟩
  have hct : (decide (0 ≤ tol) && decide (tol ≤ 1000)) = c := by rw [← hc, args_split, h1, h2]; rfl
  by_cases q1 : 0 ≤ tol
  · by_cases q2 : tol ≤ 1000
    · obtain rfl : true = c := by rw [← hct, decide_eq_true q1, decide_eq_true q2]; rfl
      have HA := Lib.hid h1
      have HB := Lib.hid h2
      clear hct
      clear h1 h2 hc
      go_wp2_with fail
      refine (evIs H.out HA.out).mono ?_
      rintro e w2 ⟨rfl, b2⟩
      have B2 := Lib.hid (BB1.out.trans (b2.mono BB1.out.size))
      have C2 := Lib.hid (C1.out.same (b2.block _ C1.out.lt))
      have H2 := Lib.hid (H'.out.grow b2)
      clear b2
      go_wp2_with fail
      refine (evIs H2.out HB.out).mono ?_
      rintro e w3 ⟨rfl, b3⟩
      obtain ⟨c3, c9, s9, m9, b9⟩ := (GO.out w3 (B2.out.trans (b3.mono B2.out.size)) (C2.out.same (b3.block _ C2.out.lt))).out
      have C9 := Lib.hid c9; have M9 := Lib.hid m9; have B9 := Lib.hid b9
      have r0 := c3.cell 0 _ rfl
      have r1 := c3.cell 1 _ rfl
      have r2 := c3.cell 2 _ rfl
      have r3 := c3.cell 3 _ rfl
      have f0 := c3.froz 0
      have f1 := c3.froz 1
      have f2 := c3.froz 2
      have f3 := c3.froz 3
      have mk := made_map w3
      clear c3 c9 m9 b9 b3
      go_wp2_with fail
      exact ret_cb2 rfl Try.underlying100 (by kernel_rfl) rfl rfl C9.out ⟨w3.heap.size, by first | rfl | (show Ending.returned (.tuple #[_, .bool (decide (tol ≤ 1000))]) = _; first | rw [decide_eq_true q2] | rw [decide_eq_false (by omega)]), s9, M9.out, B9.out⟩
    · obtain rfl : false = c := by rw [← hct, decide_eq_true q1, decide_eq_false q2]; rfl
      have HA := Lib.hid h1
      have HB := Lib.hid h2
      clear hct
      clear h1 h2 hc
      go_wp2_with fail
      refine (evIs H.out HA.out).mono ?_
      rintro e w2 ⟨rfl, b2⟩
      have B2 := Lib.hid (BB1.out.trans (b2.mono BB1.out.size))
      have C2 := Lib.hid (C1.out.same (b2.block _ C1.out.lt))
      have H2 := Lib.hid (H'.out.grow b2)
      clear b2
      go_wp2_with fail
      refine (evIs H2.out HB.out).mono ?_
      rintro e w3 ⟨rfl, b3⟩
      obtain ⟨c3, c9, s9, m9, b9⟩ := (GO.out w3 (B2.out.trans (b3.mono B2.out.size)) (C2.out.same (b3.block _ C2.out.lt))).out
      have C9 := Lib.hid c9; have M9 := Lib.hid m9; have B9 := Lib.hid b9
      have r0 := c3.cell 0 _ rfl
      have r1 := c3.cell 1 _ rfl
      have r2 := c3.cell 2 _ rfl
      have r3 := c3.cell 3 _ rfl
      have f0 := c3.froz 0
      have f1 := c3.froz 1
      have f2 := c3.froz 2
      have f3 := c3.froz 3
      have mk := made_map w3
      clear c3 c9 m9 b9 b3
      go_wp2_with fail
      exact ret_cb2 rfl Try.underlying100 (by kernel_rfl) rfl rfl C9.out ⟨w3.heap.size, by first | rfl | (show Ending.returned (.tuple #[_, .bool (decide (tol ≤ 1000))]) = _; first | rw [decide_eq_true q2] | rw [decide_eq_false (by omega)]), s9, M9.out, B9.out⟩
  · obtain rfl : false = c := by rw [← hct, decide_eq_false q1]; rfl
    have HA := Lib.hid h1
    have HB := Lib.hid h2
    clear hct
    clear h1 h2 hc
    go_wp2_with fail
    refine (evIs H.out HA.out).mono ?_
    rintro e w2 ⟨rfl, b2⟩
    have B2 := Lib.hid (BB1.out.trans (b2.mono BB1.out.size))
    have C2 := Lib.hid (C1.out.same (b2.block _ C1.out.lt))
    have H2 := Lib.hid (H'.out.grow b2)
    clear b2
    go_wp2_with fail
    refine (evIs H2.out HB.out).mono ?_
    rintro e w3 ⟨rfl, b3⟩
    obtain ⟨c3, c9, s9, m9, b9⟩ := (GO.out w3 (B2.out.trans (b3.mono B2.out.size)) (C2.out.same (b3.block _ C2.out.lt))).out
    have C9 := Lib.hid c9; have M9 := Lib.hid m9; have B9 := Lib.hid b9
    have r0 := c3.cell 0 _ rfl
    have r1 := c3.cell 1 _ rfl
    have r2 := c3.cell 2 _ rfl
    have r3 := c3.cell 3 _ rfl
    have f0 := c3.froz 0
    have f1 := c3.froz 1
    have f2 := c3.froz 2
    have f3 := c3.froz 3
    have mk := made_map w3
    clear c3 c9 m9 b9 b3
    go_wp2_with fail
    exact ret_cb2 rfl Try.underlying100 (by kernel_rfl) rfl rfl C9.out ⟨w3.heap.size, by first | rfl | (show Ending.returned (.tuple #[_, .bool (decide (tol ≤ 1000))]) = _; first | rw [decide_eq_true q2] | rw [decide_eq_false (by omega)]), s9, M9.out, B9.out⟩
set_option maxRecDepth 100000 in
set_option maxHeartbeats 3200000 in
theorem implOk_any {w : World} {v u x : Value} {a b : List Ev} {m : List Int} (tol : Int) (h : Row w v a) (k : Row w u b) (hm : IRow w x m) :
    Calls Try.prog 48 #[v, u, .int .i64 tol, x] w fun e w' => Val w (.bool (okB a b tol m)) e w' := by
  have H := Lib.hid h; have H' := Lib.hid k
  obtain ⟨pa, ca, rfl, ha1, ha2⟩ := h.len
  obtain ⟨pb, cb, rfl, hb1, hb2⟩ := k.len
  obtain ⟨pm, cm, rfl, hm1, hm2, hlm⟩ := hm.parts
  have LM := Lib.hid hlm
  unfold maxLen at ha2 hb2 hm2
  clear h k hm hlm
  cases hs : argsOk a b tol
  · have HS := Lib.hid hs
    have R := Lib.hid (okB_args (m := m) hs)
    clear hs
    go_enter Try.func48, Try.ntmps48
    go_wp2_with fail
    refine (matcher_is H.out H'.out HS.out).mono ?_
    rintro e w1 ⟨mb, rfl, s1, m1, b1⟩
    have B1 := Lib.hid (b1.alloc b1.size (.cells #[.slice pa a.length ca, .slice pb b.length cb, .int .i64 tol, .map (some mb)] MR))
    clear m1 b1
    go_wp2_with fail
    go_ret
    exact ⟨by rw [R.out]; rfl, B1.out⟩
  have HS := Lib.hid hs
  have HM := Lib.hid (okB_mok (m := m) hs)
  obtain ⟨va, vb, vt⟩ := argsOk_iff.1 hs
  have ht := tolOk_iff.1 vt
  have VA := Lib.hid va; have VB := Lib.hid vb
  have hn8 := (isEv_iff.1 va).1
  have hk8 := (isEv_iff.1 vb).1
  clear hs va vb vt
  by_cases hl : m.length = a.length
  case neg =>
    have R := Lib.hid (okB_short (b := b) (tol := tol) hl)
    have hl2 : ¬ (m.length : Int) = (a.length : Int) := by omega
    clear hl
    go_enter Try.func48, Try.ntmps48
    go_wp2_with fail
    refine (matcher_is H.out H'.out HS.out).mono ?_
    rintro e w1 ⟨mb, rfl, s1, m1, b1⟩
    have B1 := Lib.hid (b1.alloc b1.size (.cells #[.slice pa a.length ca, .slice pb b.length cb, .int .i64 tol, .map (some mb)] MR))
    clear m1 b1
    go_wp2_with fail
    go_ret
    exact ⟨by rw [R.out]; rfl, B1.out⟩
  have hl2 : (m.length : Int) = (a.length : Int) := by omega
  have HL := Lib.hid hl
  have hls : m.length = (sizes a).length := by rw [sizes_length]; exact hl
  have HLS := Lib.hid hls
  clear hl hls
  go_enter Try.func48, Try.ntmps48
  go_wp2_with fail
  refine (matcher_is H.out H'.out HS.out).mono ?_
  rintro e w1 ⟨mb, rfl, s1, m1, b1⟩
  have B1 := Lib.hid (b1.alloc b1.size (.cells #[.slice pa a.length ca, .slice pb b.length cb, .int .i64 tol, .map (some mb)] MR))
  have C1 := Lib.hid (cb_new MR w1 [.slice pa a.length ca, .slice pb b.length cb, .int .i64 tol, .map (some mb)])
  clear m1 b1
  go_wp2_with fail
  go_loopg [11, 32] m.length (fun k y z wr => ∃ (j : Nat) (la : Int), y = .int .i64 la ∧ z = .int .i64 j ∧ j + k = m.length ∧ Going tol (sizes a) (sizes b) m j la ∧ CB MR wr w1.heap.size [.slice pa a.length ca, .slice pb b.length cb, .int .i64 tol, .map (some mb)] ∧ Below w.heap.size w wr)
  case atStart => exact ⟨0, -1, rfl, rfl, by omega, going_start _ _ _ _, C1.out, B1.out⟩
  case round =>
    obtain ⟨j, la, rfl, rfl, hk, hg, hc, hb⟩ := hrel
    have K := Lib.hid hk; have G := Lib.hid hg; have B := Lib.hid hb; have C := Lib.hid hc
    have hjl : j ≤ m.length := by omega
    have la1 := hg.low
    have la2 : la ≤ 8 := by have := hg.high; rw [sizes_length] at this; omega
    have m0 := hc.cell 0 _ rfl
    have m1 := hc.cell 1 _ rfl
    have m2 := hc.cell 2 _ rfl
    have m3 := hc.cell 3 _ rfl
    clear hk hg hb hc
    by_cases hlt : j < m.length
    · obtain ⟨g, o, rfl, d1⟩ := ilies_cell LM.out j hlt
      have e1 := (B.out.cell (cell_below d1)).trans d1
      have i0 : (0 : Int) ≤ (j : Int) := by omega
      have i1 : (j : Int) < (m.length : Int) := by omega
      clear d1
      by_cases hn : m[j] = -1
      · have G2 := Lib.hid (G.out.skip HLS.out hlt hn)
        rw [hn] at e1
        go_wp2_with fail
        go_roundg (gk - 1)
        case measure => have := K.out; omega
        case rel => exact ⟨j + 1, la, rfl, by go_num, by have := K.out; omega, G2.out, C.out, B.out⟩
      · have HN := Lib.hid hn
        by_cases hx : isIn m[j] (la + 1) ((b.length : Int) - 1) = true
        case neg =>
          have hx' : isIn m[j] (la + 1) ((b.length : Int) - 1) = false := by simpa using hx
          have R : Hid (okB a b tol m = false) := Lib.hid (by rw [HM.out]; exact G.out.off HLS.out hlt hn (by rw [sizes_length]; exact hx'))
          obtain ⟨z, hz⟩ : ∃ z, m[j] = z := ⟨_, rfl⟩
          rw [hz] at e1 hx' hn
          have hor : z ≤ la ∨ (¬ z ≤ la ∧ (b.length : Int) ≤ z) := by
            unfold isIn at hx'; have := of_decide_eq_false hx'; omega
          clear hx hx' hz
          rcases hor with q1 | ⟨q1, q2⟩
          · go_wp2_with fail
            go_ret
            exact ⟨by rw [R.out]; rfl, B.out⟩
          · go_wp2_with fail
            go_ret
            exact ⟨by rw [R.out]; rfl, B.out⟩
        have q0 : la < m[j] ∧ m[j] < (b.length : Int) := by unfold isIn at hx; have := of_decide_eq_true hx; omega
        obtain ⟨q, hq⟩ : ∃ q : Nat, m[j] = (q : Int) := ⟨m[j].toNat, by omega⟩
        have hqb : q < b.length := by omega
        have hja : j < a.length := by have := HL.out; omega
        have SX : Hid ((sizes a)[j]'(by rw [sizes_length]; exact hja) = a[j].2) := Lib.hid (sizes_get _)
        have SY : Hid ((sizes b).getD m[j].toNat 0 = b[q].2) := Lib.hid (by rw [hq, Int.toNat_natCast]; exact sizes_getD hqb)
        have MQ := Lib.hid hq
        have HX := Lib.hid hx
        have e9 := e1
        rw [hq] at e9 q0
        obtain ⟨q1, q2⟩ := q0
        have q3 : ¬ (q : Int) ≤ la := by omega
        have q4 : ¬ (b.length : Int) ≤ (q : Int) := by omega
        have nq : ¬ (q : Int) = -1 := by omega
        clear hx hq hn e1 q1
        cases hy : like tol a[j].2 b[q].2
        · have HY := Lib.hid hy
          have R : Hid (okB a b tol m = false) := Lib.hid (by rw [HM.out]; exact G.out.far HLS.out hlt HN.out (by rw [SX.out, SY.out]; exact HY.out))
          clear hy
          go_wp2_with fail
          refine (alike_any (H.out.grow B.out) (H'.out.grow B.out) VA.out VB.out ht hja hqb HY.out).mono ?_
          rintro e w4 ⟨rfl, b4⟩
          have B4 := Lib.hid (B.out.trans (b4.mono B.out.size))
          clear b4
          go_wp2_with fail
          go_ret
          exact ⟨by rw [R.out]; rfl, B4.out⟩
        · have HY := Lib.hid hy
          have G2 : Hid (Going tol (sizes a) (sizes b) m (j + 1) (q : Int)) := Lib.hid (by have := G.out.next HLS.out hlt HN.out (by rw [sizes_length]; exact HX.out) (by rw [SX.out, SY.out]; exact HY.out); rwa [MQ.out] at this)
          clear hy
          go_wp2_with fail
          refine (alike_any (H.out.grow B.out) (H'.out.grow B.out) VA.out VB.out ht hja hqb HY.out).mono ?_
          rintro e w4 ⟨rfl, b4⟩
          have B4 := Lib.hid (B.out.trans (b4.mono B.out.size))
          have C4 := Lib.hid (C.out.same (b4.block _ C.out.lt))
          clear b4
          go_wp2_with fail
          go_roundg (gk - 1)
          case measure => have := K.out; omega
          case rel => exact ⟨j + 1, (q : Int), by first | rfl | go_num, by go_num, by have := K.out; omega, G2.out, C4.out, B4.out⟩
    · have R : Hid (okB a b tol m = true) := Lib.hid (by rw [HM.out]; exact G.out.all HLS.out (by omega))
      go_wp2_with fail
      go_ret
      exact ⟨by rw [R.out]; rfl, B.out⟩
theorem okIs {w : World} {v u x : Value} {a b : List Ev} {m : List Int} {tol : Int} {c : Bool} (h : Row w v a) (k : Row w u b) (hm : IRow w x m) (hc : okB a b tol m = c) :
    Calls Try.prog 48 #[v, u, .int .i64 tol, x] w fun e w' => Val w (.bool c) e w' := by
  have := implOk_any tol h k hm
  rwa [hc] at this
end Go.Proofs.Ythhdpjkmjebjhab
