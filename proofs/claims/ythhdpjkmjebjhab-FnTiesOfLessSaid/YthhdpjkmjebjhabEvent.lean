/- The contracts of the model's functions on events: which lists are events, which two are alike, which lists are matchings and how many pairs they have. -/
import Derived.Test.YthhdpjkmjebjhabInts
import Derived.Test.YthhdpjkmjebjhabGcd
import Derived.Test.YthhdpjkmjebjhabMatchLaw2
import Derived.Test.YthhdpjkmjebjhabStepI
namespace Go.Proofs.Ythhdpjkmjebjhab
open Go.RowKit

theorem evT : PairT 77 46 := ⟨by kernel_rfl, Try.underlying46⟩
theorem intT : IntT 47 := Try.underlying47
abbrev Te := 77
theorem l11Depth_is {n : Int} {b : Bool} (h : isIn n 0 30000 = b) (w : World) :
    Calls Try.prog 76 #[.int .i64 n] w fun e w' => e = .returned (.bool b) ∧ w = w' := by
  subst h
  go_enter Try.func76, Try.ntmps76
  go_wp2_with fail
  refine (l6In_any _ _ _ _).mono ?_
  rintro e w1 ⟨rfl, rfl⟩
  go_wp2_with fail
  go_ret
  exact ⟨rfl, rfl⟩
theorem l6In_is {n a b : Int} {c : Bool} (h : isIn n a b = c) (w : World) :
    Calls Try.prog 72 #[.int .i64 n, .int .i64 a, .int .i64 b] w fun e w' => e = .returned (.bool c) ∧ w = w' := by
  subst h; exact l6In_any _ _ _ _
/-- What the model's test has seen: the first i events are in range and rise. -/
structure Seen (l : List Pc) (i : Nat) : Prop where
  ok : ∀ k (hk : k < l.length), k < i → isIn l[k].1 0 30000 = true ∧ isIn l[k].2 1 1000 = true
  up : ∀ k (hk : k + 1 < l.length), k + 1 < i → l[k].1 < l[k + 1].1
theorem seen_start (l : List Pc) : Seen l 0 := ⟨fun k _ h => by omega, fun k _ h => by omega⟩
theorem Seen.next {l : List Pc} {i : Nat} (h : Seen l i) (hi : i < l.length) (h1 : isIn l[i].1 0 30000 = true) (h2 : isIn l[i].2 1 1000 = true) (hu : ∀ j (e : i = j + 1), (l[j]'(by omega)).1 < l[i].1) : Seen l (i + 1) := by
  refine ⟨fun k hk hki => ?_, fun k hk hki => ?_⟩
  · by_cases e : k = i
    · subst e; exact ⟨h1, h2⟩
    · exact h.ok k hk (by omega)
  · by_cases e : i = k + 1
    · subst e; exact hu k rfl
    · exact h.up k hk (by omega)
theorem Seen.all {l : List Pc} (h : Seen l l.length) : isEv l = decide (l.length ≤ 8) := by
  rw [Bool.eq_iff_iff, isEv_iff, decide_eq_true_eq]
  constructor
  · exact fun k => k.1
  · refine fun k => ⟨k, fun p hp => ?_, fun i hi => h.up i hi (by omega)⟩
    obtain ⟨i, hi, rfl⟩ := List.getElem_of_mem hp
    obtain ⟨a, b⟩ := h.ok i hi hi
    unfold isIn at a b
    have a := of_decide_eq_true a; have b := of_decide_eq_true b
    exact ⟨a.1, a.2, b.1, b.2⟩
theorem isEv_out {l : List Pc} {i : Nat} (hi : i < l.length) (h : isIn l[i].1 0 30000 = false ∨ isIn l[i].2 1 1000 = false) : isEv l = false := by
  cases hc : isEv l
  · rfl
  · obtain ⟨h1, h2, h3, h4⟩ := (isEv_iff.1 hc).2.1 _ (List.getElem_mem hi)
    rw [isIn_yes h1 h2, isIn_yes h3 h4] at h
    simp at h
theorem isEv_flat {l : List Pc} {i : Nat} (hi : i + 1 < l.length) (h : l[i + 1].1 ≤ l[i].1) : isEv l = false := by
  cases hc : isEv l
  · rfl
  · have := (isEv_iff.1 hc).2.2 i hi; omega
set_option maxRecDepth 100000 in
set_option maxHeartbeats 1600000 in
theorem specEv_any {w : World} {v : Value} {l : List Pc} (h : Row w v l) :
    Calls Try.prog 86 #[v] w fun e w' => Val w (.bool (isEv l)) e w' := by
  obtain ⟨a, c, rfl, h1, h2, hlie⟩ := h.parts
  have H := Lib.hid hlie
  unfold maxLen at h2
  clear h hlie
  go_enter Try.func86, Try.ntmps86
  go_wp2_with fail
  go_loopg [3] l.length (fun k x wr => ∃ j : Nat, x = .int .i64 j ∧ j + k = l.length ∧ Seen l j ∧ Below w.heap.size w wr)
  case atStart => exact ⟨0, rfl, by omega, seen_start l, Below.refl _ _⟩
  case round =>
    obtain ⟨j, rfl, hk, hs, hb⟩ := hrel
    have K := Lib.hid hk; have S := Lib.hid hs; have B := Lib.hid hb
    have hjl : j ≤ l.length := by omega
    clear hk hs hb
    by_cases hlt : j < l.length
    · obtain ⟨g, o, rfl, d1, d2⟩ := lies_cell H.out j hlt
      have e1 := (B.out.cell (cell_below d1)).trans d1
      have e2 := (B.out.cell (cell_below d2)).trans d2
      have i0 : (0 : Int) ≤ (j : Int) := by omega
      have i1 : (j : Int) < (l.length : Int) := by omega
      clear d1 d2
      cases hx : isIn l[j].1 0 30000
      · have HX := Lib.hid hx
        have R := Lib.hid (isEv_out hlt (.inl hx))
        clear hx
        go_wp2_with fail
        go_quiet ((go_at_call 76; refine Calls.quiet_of_same ((l11Depth_is HX.out _).mono fun _ _ h => ⟨h.1, h.2.symm⟩)))
        go_wp2_with fail
        go_ret
        exact ⟨by rw [R.out]; rfl, by have := B.out; exact below_drews this _⟩
      · cases hy : isIn l[j].2 1 1000
        · have HX := Lib.hid hx
          have HY := Lib.hid hy
          have R := Lib.hid (isEv_out hlt (.inr hy))
          clear hx hy
          go_wp2_with fail
          go_quiet (first | (go_at_call 76; refine Calls.quiet_of_same ((l11Depth_is HX.out _).mono fun _ _ h => ⟨h.1, h.2.symm⟩)) | (go_at_call 72; refine Calls.quiet_of_same ((l6In_is HY.out _).mono fun _ _ h => ⟨h.1, h.2.symm⟩)))
          go_wp2_with fail
          go_ret
          exact ⟨by rw [R.out]; rfl, by have := B.out; exact below_drews this _⟩
        · have HX := Lib.hid hx
          have HY := Lib.hid hy
          clear hx hy
          cases j with
          | zero =>
            simp only [Nat.zero_mul, Nat.add_zero] at e1 e2
            go_wp2_with fail
            go_quiet (first | (go_at_call 76; refine Calls.quiet_of_same ((l11Depth_is HX.out _).mono fun _ _ h => ⟨h.1, h.2.symm⟩)) | (go_at_call 72; refine Calls.quiet_of_same ((l6In_is HY.out _).mono fun _ _ h => ⟨h.1, h.2.symm⟩)))
            go_wp2_with fail
            go_roundg (gk - 1)
            case measure => have := K.out; omega
            case rel => exact ⟨1, by go_num, by have := K.out; omega, S.out.next hlt HX.out HY.out (fun j e => by omega), below_drews B.out _⟩
          | succ j =>
            obtain ⟨g', o', e', c3, c4⟩ := lies_cell H.out j (by omega)
            simp only [Option.some.injEq, Addr.mk.injEq, and_true] at e'
            obtain ⟨rfl, rfl⟩ := e'
            have d3 := (B.out.cell (cell_below c3)).trans c3
            clear c3 c4
            have s1 : IntKind.i64.wrap ((j : Int) + 1 - 1) = (j : Int) := by rw [show (j : Int) + 1 - 1 = j by omega]; exact IntWalk.i64_in _ (by omega)
            have s2 : IntKind.i64.wrap (j : Int) = (j : Int) := IntWalk.i64_in _ (by omega)
            have s3 : (0 : Int) ≤ (j : Int) := Int.natCast_nonneg _
            have s4 : (j : Int) < (l.length : Int) := by omega
            have s5 : (0 : Int) ≤ (j : Int) + 1 := by omega
            have s6 : (j : Int) + 1 < (l.length : Int) := by omega
            have s7 : ((j : Int) + 1).toNat = j + 1 := by omega
            have s8 : (0 : Int) < (j : Int) + 1 := by omega
            by_cases q1 : l[j + 1].1 ≤ l[j].1
            · have R := Lib.hid (isEv_flat hlt q1)
              go_wp2_with fail
              go_quiet (first | (go_at_call 76; refine Calls.quiet_of_same ((l11Depth_is HX.out _).mono fun _ _ h => ⟨h.1, h.2.symm⟩)) | (go_at_call 72; refine Calls.quiet_of_same ((l6In_is HY.out _).mono fun _ _ h => ⟨h.1, h.2.symm⟩)))
              go_wp2_with fail
              go_ret
              exact ⟨by rw [R.out]; rfl, below_drews B.out _⟩
            · have UP : Hid (∀ i (e : j + 1 = i + 1), (l[i]'(by omega)).1 < l[j + 1].1) := Lib.hid (fun i e => by
                have e2 : i = j := by omega
                subst e2
                exact Int.not_le.1 q1)
              go_wp2_with fail
              go_quiet (first | (go_at_call 76; refine Calls.quiet_of_same ((l11Depth_is HX.out _).mono fun _ _ h => ⟨h.1, h.2.symm⟩)) | (go_at_call 72; refine Calls.quiet_of_same ((l6In_is HY.out _).mono fun _ _ h => ⟨h.1, h.2.symm⟩)))
              go_wp2_with fail
              go_roundg (gk - 1)
              case measure => have := K.out; omega
              case rel => exact ⟨j + 2, by go_num, by have := K.out; omega, S.out.next hlt HX.out HY.out UP.out, below_drews B.out _⟩
    · have hj : j = l.length := by omega
      have R : Hid (isEv l = decide (l.length ≤ 8)) := Lib.hid (by have := S.out; rw [hj] at this; exact this.all)
      clear hj
      by_cases h8 : l.length ≤ 8
      · have h8' : (l.length : Int) ≤ 8 := by omega
        have T : Hid (isEv l = true) := Lib.hid (by rw [R.out]; exact decide_eq_true h8)
        go_wp2_with fail
        go_ret
        exact ⟨by rw [T.out]; simp, B.out⟩
      · have h8' : ¬ (l.length : Int) ≤ 8 := by omega
        have T : Hid (isEv l = false) := Lib.hid (by rw [R.out]; exact decide_eq_false h8)
        go_wp2_with fail
        go_ret
        exact ⟨by rw [T.out]; simp, B.out⟩
theorem evS_is {w : World} {v : Value} {l : List Pc} {b : Bool} (h : Row w v l) (hb : isEv l = b) : Calls Try.prog 86 #[v] w fun e w' => Val w (.bool b) e w' := by
  have := specEv_any h
  rwa [hb] at this
/-! Valid arguments. -/
theorem args_not {a b : List Ev} {tol : Int} (h : isEv a = false ∨ isEv b = false ∨ tolOk tol = false) : argsOk a b tol = false := by
  unfold argsOk; rcases h with h | h | h <;> simp [h]
theorem tol_isIn (tol : Int) : tolOk tol = isIn tol 0 1000 := by unfold tolOk isIn; rw [Bool.eq_iff_iff]; simp
set_option maxHeartbeats 1600000 in
theorem specArgs_any {w : World} {v u : Value} {a b : List Ev} (tol : Int) (h : Row w v a) (k : Row w u b) :
    Calls Try.prog 71 #[v, u, .int .i64 tol] w fun e w' => Val w (.bool (argsOk a b tol)) e w' := by
  have H := Lib.hid h; have H' := Lib.hid k
  clear h k
  go_enter Try.func71, Try.ntmps71
  cases h1 : isEv a
  · have HA := Lib.hid h1
    have R := Lib.hid (args_not (b := b) (tol := tol) (.inl h1))
    clear h1
    go_wp2_with fail
    refine (evS_is H.out HA.out).mono ?_
    rintro e w1 ⟨rfl, b1⟩
    go_wp2_with fail
    go_ret
    exact ⟨by rw [R.out]; rfl, b1⟩
  have HA := Lib.hid h1
  cases h2 : isEv b
  · have HB := Lib.hid h2
    have R := Lib.hid (args_not (a := a) (tol := tol) (.inr (.inl h2)))
    clear h1 h2
    go_wp2_with fail
    refine (evS_is H.out HA.out).mono ?_
    rintro e w1 ⟨rfl, b1⟩
    go_wp2_with fail
    refine (evS_is (H'.out.grow b1) HB.out).mono ?_
    rintro e w2 ⟨rfl, b2⟩
    go_wp2_with fail
    go_ret
    exact ⟨by rw [R.out]; rfl, b1.trans (b2.mono b1.size)⟩
  have HB := Lib.hid h2
  have R : Hid (argsOk a b tol = isIn tol 0 1000) := Lib.hid (by unfold argsOk; rw [h1, h2, tol_isIn]; rfl)
  clear h1 h2
  go_wp2_with fail
  refine (evS_is H.out HA.out).mono ?_
  rintro e w1 ⟨rfl, b1⟩
  go_wp2_with fail
  refine (evS_is (H'.out.grow b1) HB.out).mono ?_
  rintro e w2 ⟨rfl, b2⟩
  go_wp2_with fail
  refine (l6In_any _ _ _ _).mono ?_
  rintro e w3 ⟨rfl, rfl⟩
  go_wp2_with fail
  go_ret
  exact ⟨by rw [R.out]; rfl, b1.trans (b2.mono b1.size)⟩
theorem argsS_is {w : World} {v u : Value} {a b : List Ev} {tol : Int} {c : Bool} (h : Row w v a) (k : Row w u b) (hc : argsOk a b tol = c) :
    Calls Try.prog 71 #[v, u, .int .i64 tol] w fun e w' => Val w (.bool c) e w' := by
  have := specArgs_any tol h k
  rwa [hc] at this
/-! Two events that are alike. -/
abbrev evV (p : Ev) : Value := .agg #[.int .i64 p.1, .int .i64 p.2]
theorem like_abs (tol x y : Int) : like tol x y = decide (((x - y).natAbs : Int) ≤ tol) := by
  rw [Bool.eq_iff_iff, like_iff, decide_eq_true_eq]; omega
theorem absS_any (n : Int) (h : -9000000000000000000 ≤ n) (h' : n ≤ 9000000000000000000) (w : World) :
    Calls Try.prog 87 #[.int .i64 n] w fun e w' => e = .returned (.int .i64 n.natAbs) ∧ w = w' := by
  go_enter Try.func87, Try.ntmps87
  go_wp2
  all_goals
    go_ret
    exact ⟨by show Ending.returned (.int .i64 _) = _; congr 2; omega, rfl⟩
theorem likeS_any (p q : Ev) (tol : Int) (hp : 0 ≤ p.2 ∧ p.2 ≤ 1000) (hq : 0 ≤ q.2 ∧ q.2 ≤ 1000) (w : World) :
    Calls Try.prog 73 #[evV p, evV q, .int .i64 tol] w fun e w' => Val w (.bool (like tol p.2 q.2)) e w' := by
  have e1 : IntKind.i64.wrap (p.2 - q.2) = p.2 - q.2 := IntWalk.i64_in _ (by omega)
  have R := Lib.hid (like_abs tol p.2 q.2)
  go_enter Try.func73, Try.ntmps73
  go_wp2_with fail
  refine (absS_any _ (by omega) (by omega) _).mono ?_
  rintro e w1 ⟨rfl, rfl⟩
  go_wp2_with fail
  go_ret
  exact ⟨by rw [R.out]; rfl, by go_grown⟩
theorem likeS_is {p q : Ev} {tol : Int} {c : Bool} (hp : 0 ≤ p.2 ∧ p.2 ≤ 1000) (hq : 0 ≤ q.2 ∧ q.2 ≤ 1000) (h : like tol p.2 q.2 = c) (w : World) :
    Calls Try.prog 73 #[evV p, evV q, .int .i64 tol] w fun e w' => Val w (.bool c) e w' := by
  have := likeS_any p q tol hp hq w
  rwa [h] at this
/-! Whether a list is a matching: number by number. -/
/-- What the model's loop knows: what is left is a matching from a place on if and only if the whole is one. -/
structure Going (tol : Int) (s t m : List Int) (j : Nat) (la : Int) : Prop where
  low : -1 ≤ la
  high : la < t.length ∨ la = -1
  same : mok tol t 0 s m = mok tol t (la + 1) (s.drop j) (m.drop j)
theorem going_start (tol : Int) (s t m : List Int) : Going tol s t m 0 (-1) := ⟨by omega, .inr rfl, rfl⟩
theorem Going.skip {tol la : Int} {s t m : List Int} {j : Nat} (h : Going tol s t m j la) (hl : m.length = s.length) (hj : j < m.length) (e : m[j] = -1) : Going tol s t m (j + 1) la := by
  refine ⟨h.low, h.high, ?_⟩
  rw [h.same, List.drop_eq_getElem_cons hj, List.drop_eq_getElem_cons (show j < s.length by omega)]
  simp only [mok]
  rw [if_pos e]
theorem Going.off {tol la : Int} {s t m : List Int} {j : Nat} (h : Going tol s t m j la) (hl : m.length = s.length) (hj : j < m.length) (e : m[j] ≠ -1) (hx : isIn m[j] (la + 1) ((t.length : Int) - 1) = false) : mok tol t 0 s m = false := by
  rw [h.same, List.drop_eq_getElem_cons hj, List.drop_eq_getElem_cons (show j < s.length by omega)]
  simp only [mok]
  rw [if_neg e]
  by_cases c : la + 1 ≤ m[j] ∧ m[j] < t.length
  · rw [isIn_yes c.1 (by omega)] at hx; cases hx
  · have : (decide (la + 1 ≤ m[j]) && decide (m[j] < t.length)) = false := by simp; omega
    rw [this]; rfl
theorem Going.far {tol la : Int} {s t m : List Int} {j : Nat} (h : Going tol s t m j la) (hl : m.length = s.length) (hj : j < m.length) (e : m[j] ≠ -1) (hx : like tol (s[j]'(by omega)) (t.getD m[j].toNat 0) = false) : mok tol t 0 s m = false := by
  rw [h.same, List.drop_eq_getElem_cons hj, List.drop_eq_getElem_cons (show j < s.length by omega)]
  simp only [mok]
  rw [if_neg e, hx]; simp
theorem Going.next {tol la : Int} {s t m : List Int} {j : Nat} (h : Going tol s t m j la) (hl : m.length = s.length) (hj : j < m.length) (e : m[j] ≠ -1) (hx : isIn m[j] (la + 1) ((t.length : Int) - 1) = true) (hy : like tol (s[j]'(by omega)) (t.getD m[j].toNat 0) = true) : Going tol s t m (j + 1) m[j] := by
  unfold isIn at hx
  have a := of_decide_eq_true hx
  have b := h.low
  refine ⟨by omega, .inl (by omega), ?_⟩
  rw [h.same, List.drop_eq_getElem_cons hj, List.drop_eq_getElem_cons (show j < s.length by omega)]
  simp only [mok]
  rw [if_neg e, hy, decide_eq_true a.1, decide_eq_true (show m[j] < t.length by omega)]; rfl
theorem Going.all {tol la : Int} {s t m : List Int} {j : Nat} (h : Going tol s t m j la) (hl : m.length = s.length) (hj : j = m.length) : mok tol t 0 s m = true := by
  rw [h.same, hj, List.drop_length, hl, List.drop_length]; rfl
theorem okB_args {a b : List Ev} {tol : Int} {m : List Int} (h : argsOk a b tol = false) : okB a b tol m = false := by unfold okB; rw [h]; rfl
theorem okB_short {a b : List Ev} {tol : Int} {m : List Int} (h : m.length ≠ a.length) : okB a b tol m = false := by
  cases k : okB a b tol m
  · rfl
  · unfold okB at k
    rw [Bool.and_eq_true] at k
    have := mok_length k.2
    rw [sizes_length] at this; exact absurd this h
theorem okB_mok {a b : List Ev} {tol : Int} {m : List Int} (h : argsOk a b tol = true) : okB a b tol m = mok tol (sizes b) 0 (sizes a) m := by unfold okB; rw [h]; rfl
theorem ev_sizes {l : List Ev} (h : isEv l = true) {i : Nat} (hi : i < l.length) : 0 ≤ l[i].2 ∧ l[i].2 ≤ 1000 := by
  have := (isEv_iff.1 h).2.1 _ (List.getElem_mem hi); omega
set_option maxRecDepth 100000 in
set_option maxHeartbeats 3200000 in
theorem specOk_any {w : World} {v u x : Value} {a b : List Ev} {m : List Int} (tol : Int) (h : Row w v a) (k : Row w u b) (hm : IRow w x m) :
    Calls Try.prog 49 #[v, u, .int .i64 tol, x] w fun e w' => Val w (.bool (okB a b tol m)) e w' := by
  have H := Lib.hid h; have H' := Lib.hid k
  obtain ⟨pa, ca, rfl, ha1, ha2, hla⟩ := h.parts
  obtain ⟨pb, cb, rfl, hb1, hb2, hlb⟩ := k.parts
  obtain ⟨pm, cm, rfl, hm1, hm2, hlm⟩ := hm.parts
  have LA := Lib.hid hla; have LB := Lib.hid hlb; have LM := Lib.hid hlm
  unfold maxLen at ha2 hb2 hm2
  clear h k hm hla hlb hlm
  cases hs : argsOk a b tol
  · have HS := Lib.hid hs
    have R := Lib.hid (okB_args (m := m) hs)
    clear hs
    go_enter Try.func49, Try.ntmps49
    go_wp2_with fail
    refine (argsS_is H.out H'.out HS.out).mono ?_
    rintro e w1 ⟨rfl, b1⟩
    go_wp2_with fail
    go_ret
    exact ⟨by rw [R.out]; rfl, b1⟩
  have HS := Lib.hid hs
  have HM := Lib.hid (okB_mok (m := m) hs)
  obtain ⟨va, vb, vt⟩ := argsOk_iff.1 hs
  have VA := Lib.hid va; have VB := Lib.hid vb
  have hn8 := (isEv_iff.1 va).1
  have hk8 := (isEv_iff.1 vb).1
  clear hs va vb vt
  by_cases hl : m.length = a.length
  case neg =>
    have R := Lib.hid (okB_short (b := b) (tol := tol) hl)
    have hl2 : ¬ (m.length : Int) = (a.length : Int) := by omega
    go_enter Try.func49, Try.ntmps49
    go_wp2_with fail
    refine (argsS_is H.out H'.out HS.out).mono ?_
    rintro e w1 ⟨rfl, b1⟩
    go_wp2_with fail
    go_ret
    exact ⟨by rw [R.out]; rfl, b1⟩
  have hl2 : (m.length : Int) = (a.length : Int) := by omega
  have hls : m.length = (sizes a).length := by rw [sizes_length]; exact hl
  go_enter Try.func49, Try.ntmps49
  go_wp2_with fail
  refine (argsS_is H.out H'.out HS.out).mono ?_
  rintro e w1 ⟨rfl, b1⟩
  have B1 := Lib.hid b1
  clear b1
  go_wp2_with fail
  go_loopg [9, 10] m.length (fun k y z wr => ∃ (j : Nat) (la : Int), y = .int .i64 la ∧ z = .int .i64 j ∧ j + k = m.length ∧ Going tol (sizes a) (sizes b) m j la ∧ Below w.heap.size w wr)
  case atStart => exact ⟨0, -1, rfl, rfl, by omega, going_start _ _ _ _, B1.out⟩
  case round =>
    obtain ⟨j, la, rfl, rfl, hk, hg, hb⟩ := hrel
    have K := Lib.hid hk; have G := Lib.hid hg; have B := Lib.hid hb
    have hjl : j ≤ m.length := by omega
    have la1 := hg.low
    have la2 : la ≤ 8 := by have := hg.high; rw [sizes_length] at this; omega
    clear hk hg hb
    by_cases hlt : j < m.length
    · obtain ⟨g, o, rfl, d1⟩ := ilies_cell LM.out j hlt
      have e1 := (B.out.cell (cell_below d1)).trans d1
      have i0 : (0 : Int) ≤ (j : Int) := by omega
      have i1 : (j : Int) < (m.length : Int) := by omega
      have i2 : (j : Int) < (a.length : Int) := by omega
      clear d1
      by_cases hn : m[j] = -1
      · have G2 := Lib.hid (G.out.skip hls hlt hn)
        rw [hn] at e1
        go_wp2_with fail
        go_roundg (gk - 1)
        case measure => have := K.out; omega
        case rel => exact ⟨j + 1, la, rfl, by go_num, by have := K.out; omega, G2.out, B.out⟩
      · have w1 : IntKind.i64.wrap (la + 1) = la + 1 := IntWalk.i64_in _ (by omega)
        have w2 : IntKind.i64.wrap ((b.length : Int) - 1) = (b.length : Int) - 1 := IntWalk.i64_in _ (by omega)
        cases hx : isIn m[j] (la + 1) ((b.length : Int) - 1)
        · have HX := Lib.hid hx
          have R : Hid (okB a b tol m = false) := Lib.hid (by rw [HM.out]; exact G.out.off hls hlt hn (by rw [sizes_length]; exact hx))
          clear hx
          go_wp2_with fail
          go_quiet ((go_at_call 72; refine Calls.quiet_of_same ((l6In_is HX.out _).mono fun _ _ h => ⟨h.1, h.2.symm⟩)))
          go_wp2_with fail
          go_ret
          exact ⟨by rw [R.out]; rfl, below_drews B.out _⟩
        · have HX := Lib.hid hx
          have q0 : 0 ≤ m[j] ∧ m[j] < (b.length : Int) := by unfold isIn at hx; have := of_decide_eq_true hx; omega
          obtain ⟨q, hq⟩ : ∃ q : Nat, m[j] = (q : Int) := ⟨m[j].toNat, by omega⟩
          have hqb : q < b.length := by omega
          have hja : j < a.length := by omega
          obtain ⟨ga, oa, rfl, c1, c2⟩ := lies_cell LA.out j hja
          obtain ⟨gb, ob, rfl, c3, c4⟩ := lies_cell LB.out q hqb
          have f1 := (B.out.cell (cell_below c1)).trans c1
          have f2 := (B.out.cell (cell_below c2)).trans c2
          have f3 := (B.out.cell (cell_below c3)).trans c3
          have f4 := (B.out.cell (cell_below c4)).trans c4
          have sa := ev_sizes VA.out hja
          have sb := ev_sizes VB.out hqb
          have i3 : (0 : Int) ≤ (q : Int) := by omega
          have i4 : (q : Int) < (b.length : Int) := by omega
          have SX : Hid ((sizes a)[j]'(by rw [sizes_length]; exact hja) = a[j].2) := Lib.hid (sizes_get _)
          have SY : Hid ((sizes b).getD m[j].toNat 0 = b[q].2) := Lib.hid (by rw [hq, Int.toNat_natCast]; exact sizes_getD hqb)
          have HN := Lib.hid hn
          have MQ := Lib.hid hq
          have e9 := e1
          rw [hq] at e9
          have HX9 : Hid (isIn (q : Int) (la + 1) ((b.length : Int) - 1) = true) := Lib.hid (by rw [← hq]; exact hx)
          have nq : ¬ (q : Int) = -1 := by omega
          clear c1 c2 c3 c4 hx q0 hq hn e1
          have held : ∀ W w' : World, Below W.heap.size W w' → ((W.cell? ⟨g, o + j, none⟩ = some (.int .i64 (q : Int)) ∧ W.cell? ⟨ga, oa + j * 2, none⟩ = some (.int .i64 a[j].1) ∧ W.cell? ⟨ga, oa + j * 2 + 1, none⟩ = some (.int .i64 a[j].2) ∧ W.cell? ⟨gb, ob + q * 2, none⟩ = some (.int .i64 b[q].1) ∧ W.cell? ⟨gb, ob + q * 2 + 1, none⟩ = some (.int .i64 b[q].2)) ∧ Below wr.heap.size wr W) →
              ((w'.cell? ⟨g, o + j, none⟩ = some (.int .i64 (q : Int)) ∧ w'.cell? ⟨ga, oa + j * 2, none⟩ = some (.int .i64 a[j].1) ∧ w'.cell? ⟨ga, oa + j * 2 + 1, none⟩ = some (.int .i64 a[j].2) ∧ w'.cell? ⟨gb, ob + q * 2, none⟩ = some (.int .i64 b[q].1) ∧ w'.cell? ⟨gb, ob + q * 2 + 1, none⟩ = some (.int .i64 b[q].2)) ∧ Below wr.heap.size wr w') :=
            fun W w' k h => ⟨⟨(k.cell (cell_below h.1.1)).trans h.1.1, (k.cell (cell_below h.1.2.1)).trans h.1.2.1, (k.cell (cell_below h.1.2.2.1)).trans h.1.2.2.1, (k.cell (cell_below h.1.2.2.2.1)).trans h.1.2.2.2.1, (k.cell (cell_below h.1.2.2.2.2)).trans h.1.2.2.2.2⟩, h.2.trans (k.mono h.2.size)⟩
          have keep0 := held _ _ (Below.refl wr.heap.size wr).drew ⟨⟨e9, f1, f2, f3, f4⟩, Below.refl _ _⟩
          have HD := Lib.hid held
          clear held
          cases hy : like tol a[j].2 b[q].2
          · have HY := Lib.hid hy
            have R : Hid (okB a b tol m = false) := Lib.hid (by rw [HM.out]; exact G.out.far hls hlt HN.out (by rw [SX.out, SY.out]; exact HY.out))
            clear hy
            go_wp2_with fail
            go_region_held3 (fun w' => (w'.cell? ⟨g, o + j, none⟩ = some (.int .i64 (q : Int)) ∧ w'.cell? ⟨ga, oa + j * 2, none⟩ = some (.int .i64 a[j].1) ∧ w'.cell? ⟨ga, oa + j * 2 + 1, none⟩ = some (.int .i64 a[j].2) ∧ w'.cell? ⟨gb, ob + q * 2, none⟩ = some (.int .i64 b[q].1) ∧ w'.cell? ⟨gb, ob + q * 2 + 1, none⟩ = some (.int .i64 b[q].2)) ∧ Below wr.heap.size wr w')
              (first | (with_reducible exact keep0) | (with_reducible exact hs1) | assumption)
              (first | (go_at_call 72; refine (l6In_is HX9.out _).mono ?_; rintro e w1 ⟨rfl, rfl⟩) | (go_at_call 73; refine (likeS_is (p := a[j]) (q := b[q]) sa sb HY.out _).mono ?_; rintro e w1 ⟨rfl, b1⟩; have hs1 := HD.out _ _ b1 (by assumption)))
            all_goals
              go_wp2_with fail
              go_ret
              have b2 := hs1.2
              exact ⟨by rw [R.out]; rfl, B.out.trans (b2.mono B.out.size)⟩
          · have HY := Lib.hid hy
            have G2 : Hid (Going tol (sizes a) (sizes b) m (j + 1) (q : Int)) := Lib.hid (by have := G.out.next hls hlt HN.out (by rw [MQ.out, sizes_length]; exact HX9.out) (by rw [SX.out, SY.out]; exact HY.out); rwa [MQ.out] at this)
            clear hy
            go_wp2_with fail
            go_region_held3 (fun w' => (w'.cell? ⟨g, o + j, none⟩ = some (.int .i64 (q : Int)) ∧ w'.cell? ⟨ga, oa + j * 2, none⟩ = some (.int .i64 a[j].1) ∧ w'.cell? ⟨ga, oa + j * 2 + 1, none⟩ = some (.int .i64 a[j].2) ∧ w'.cell? ⟨gb, ob + q * 2, none⟩ = some (.int .i64 b[q].1) ∧ w'.cell? ⟨gb, ob + q * 2 + 1, none⟩ = some (.int .i64 b[q].2)) ∧ Below wr.heap.size wr w')
              (first | (with_reducible exact keep0) | (with_reducible exact hs1) | assumption)
              (first | (go_at_call 72; refine (l6In_is HX9.out _).mono ?_; rintro e w1 ⟨rfl, rfl⟩) | (go_at_call 73; refine (likeS_is (p := a[j]) (q := b[q]) sa sb HY.out _).mono ?_; rintro e w1 ⟨rfl, b1⟩; have hs1 := HD.out _ _ b1 (by assumption)))
            all_goals
              have c9 := hs1.1.1
              have B2 := Lib.hid (B.out.trans (hs1.2.mono B.out.size))
              go_wp2_with fail
              go_roundg (gk - 1)
              case measure => have := K.out; omega
              case rel => exact ⟨j + 1, (q : Int), rfl, by go_num, by have := K.out; omega, G2.out, B2.out⟩
    · have R : Hid (okB a b tol m = true) := Lib.hid (by rw [HM.out]; exact G.out.all hls (by omega))
      go_wp2_with fail
      go_ret
      exact ⟨by rw [R.out]; rfl, B.out⟩
end Go.Proofs.Ythhdpjkmjebjhab
