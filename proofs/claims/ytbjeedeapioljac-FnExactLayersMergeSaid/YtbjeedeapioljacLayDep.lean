/- The depth of the layer of a number, and the thicknesses: the model's and the program's. -/
import Derived.Test.YtbjeedeapioljacLayImpl
import Derived.Test.YtbjeedeapioljacInts
import Derived.Maps.AppendAt
import Derived.Maps.OwnIn
import Derived.RangeFuncBox
namespace Go.Proofs.Ytbjeedeapioljac
open Go Go.RowKit Go.Shelf
attribute [local go_sem] Oper.semAt_some

theorem dth_hit {l : LL} {j : Nat} {n : Int} (hl : isLay l = true) (hj : j < l.length) (hs : l[j].2 = true) (hn : ((sures (l.take j)).length : Int) + 1 = n) : dthOk l n = some l[j].1 := by
  have e : sures l = sures (l.take j) ++ l[j].1 :: sures (l.drop (j + 1)) := by
    conv => lhs; rw [← List.take_append_drop j l, sures_append, List.drop_eq_getElem_cons hj, sures_cons, if_pos hs]
  rw [dthOk, if_pos ⟨hl, by omega⟩, e, show (n - 1).toNat = (sures (l.take j)).length by omega]
  simp
theorem dth_miss {l : LL} {n : Int} (h : isLay l = false ∨ n < 1 ∨ ((sures l).length : Int) < n) : dthOk l n = none := by
  rw [dthOk]; split
  · rename_i c
    refine List.getElem?_eq_none ?_
    rcases h with h | h | h
    · rw [h] at c; simp at c
    · omega
    · omega
  · rfl
theorem sures_len_step (l : LL) (k : Nat) (hk : k < l.length) : (sures (l.take (k + 1))).length = (sures (l.take k)).length + if l[k].2 = true then 1 else 0 := by
  rw [sures_step l k hk]; split <;> simp_all
set_option maxRecDepth 100000 in
set_option maxHeartbeats 1600000 in
theorem specDepth_any {w : World} {v : Value} {l : LL} (n : Int) (h : LRow w v l) :
    Calls Try.prog 27 #[v, .int .i64 n] w fun e w' => e = .returned (dthV l n) ∧ Below w.heap.size w w' := by
  have HV := Lib.hid h
  obtain ⟨a, c, rfl, h1, h2, hlie⟩ := h.parts
  have H := Lib.hid hlie
  unfold maxLen at h2
  clear h hlie
  cases hv : isLay l
  · have LV := Lib.hid hv
    have MI := Lib.hid (dthV_no (dth_miss (l := l) (n := n) (.inl hv)))
    clear hv
    go_enter Try.func27, Try.ntmps27
    go_wp2_with fail
    go_loopg [7] 1 (fun k z wr => z = .int .i64 0 ∧ Below w.heap.size w wr ∧ k = 1)
    case atStart => exact ⟨rfl, Below.refl _ _, rfl⟩
    case round =>
      obtain ⟨rfl, hb, hk⟩ := hrel
      have B := Lib.hid hb
      clear hb
      by_cases n0 : 0 < l.length
      · have i1 : (0 : Int) < (l.length : Int) := by omega
        go_wp2_with fail
        refine (specValid_is (HV.out.grow B.out) LV.out).mono ?_
        rintro e w1 ⟨rfl, b1⟩
        have B1 := Lib.hid (B.out.trans (b1.mono B.out.size))
        clear b1
        go_wp2_with fail
        go_ret2
        exact ⟨by rw [MI.out]; rfl, B1.out⟩
      · have i1 : ¬ (0 : Int) < (l.length : Int) := by omega
        have i2 : decide ((0 : Int) < (l.length : Int)) = false := by simpa using i1
        go_wp2_with fail
        go_ret2
        exact ⟨by rw [MI.out]; rfl, B.out⟩
  have LV := Lib.hid hv
  have l40 := lay_len hv
  clear hv
  go_enter Try.func27, Try.ntmps27
  go_wp2_with fail
  go_loopg [6, 7] l.length (fun k x z wr => ∃ (j m : Nat), x = .int .i64 m ∧ z = .int .i64 j ∧ j + k = l.length ∧ (sures (l.take j)).length = m ∧ ¬ (1 ≤ n ∧ n ≤ m) ∧ Below w.heap.size w wr)
  case atStart => exact ⟨0, 0, rfl, rfl, by omega, rfl, by omega, Below.refl _ _⟩
  case round =>
    obtain ⟨j, m, rfl, rfl, hk, hm, hn, hb⟩ := hrel
    have K := Lib.hid hk; have M := Lib.hid hm; have B := Lib.hid hb; have NN := Lib.hid hn
    have hjl : j ≤ l.length := by omega
    have m40 : m ≤ 40 := by have := sures_len (l.take j); rw [hm] at this; simp at this; omega
    clear hk hm hb hn
    by_cases hlt : j < l.length
    · have i1 : (j : Int) < (l.length : Int) := by omega
      have i0 : (0 : Int) ≤ (j : Int) := by omega
      have ST := Lib.hid (sures_len_step l j hlt)
      obtain ⟨g, o, rfl, d1, d2⟩ := llies_cell H.out j hlt
      cases hsv : l[j].2
      · rw [hsv] at ST d2
        have D1 := Lib.hid d1; have D2 := Lib.hid d2
        clear d1 d2
        go_wp2_with fail
        refine (specValid_is (HV.out.grow B.out) LV.out).mono ?_
        rintro e w1 ⟨rfl, b1⟩
        have B1 := Lib.hid (B.out.trans (b1.mono B.out.size))
        have e2 := (B1.out.cell (cell_below D2.out)).trans D2.out
        clear b1 hsv
        go_wp2_with fail
        go_roundg (gk - 1)
        case measure => have := K.out; omega
        case rel => exact ⟨j + 1, m, rfl, by go_num, by have := K.out; omega, by rw [ST.out, M.out]; rfl, NN.out, B1.out⟩
      · have HIT := Lib.hid (fun (q : ((sures (l.take j)).length : Int) + 1 = n) => dth_hit LV.out hlt hsv q)
        rw [hsv] at ST d2
        have D1 := Lib.hid d1; have D2 := Lib.hid d2
        clear d1 d2
        have z1 : IntKind.i64.wrap ((m : Int) + 1) = (m : Int) + 1 := IntWalk.i64_in _ (by omega)
        go_wp2_with fail
        refine (specValid_is (HV.out.grow B.out) LV.out).mono ?_
        rintro e w1 ⟨rfl, b1⟩
        have B1 := Lib.hid (B.out.trans (b1.mono B.out.size))
        have e1 := (B1.out.cell (cell_below D1.out)).trans D1.out
        have e2 := (B1.out.cell (cell_below D2.out)).trans D2.out
        clear b1 hsv
        by_cases q : (m : Int) + 1 = n
        · have HQ := Lib.hid (HIT.out (by rw [M.out]; exact q))
          have q1 : (((m : Int) + 1) == n) = true := by simpa using q
          clear q
          go_wp2_with fail
          go_ret2
          exact ⟨by rw [dthV_yes HQ.out]; rfl, B1.out⟩
        · have q1 : (((m : Int) + 1) == n) = false := by simpa using q
          have N2 : Hid (¬ (1 ≤ n ∧ n ≤ ((m + 1 : Nat) : Int))) := Lib.hid (by have := NN.out; omega)
          clear q
          go_wp2_with fail
          go_roundg (gk - 1)
          case measure => have := K.out; omega
          case rel => exact ⟨j + 1, m + 1, by go_num, by go_num, by have := K.out; omega, by rw [ST.out, M.out]; rfl, N2.out, B1.out⟩
    · have MI : Hid (dthV l n = .tuple #[.int .i64 0, .bool false]) := Lib.hid (dthV_no (dth_miss (by
        have e : l.take j = l := List.take_of_length_le (by omega)
        have := M.out; rw [e] at this
        have := NN.out; omega)))
      have i1 : ¬ (j : Int) < (l.length : Int) := by omega
      have i2 : decide ((j : Int) < (l.length : Int)) = false := by simpa using i1
      go_wp2_with fail
      go_ret2
      exact ⟨by rw [MI.out]; rfl, B.out⟩
theorem sures_onlyS (l : LL) : (l.filter (·.2)).map (·.1) = sures l := rfl
theorem sures_at (l : LL) (k : Nat) (hk : k < (l.filter (·.2)).length) : ∃ h : k < (sures l).length, (sures l)[k] = (l.filter (·.2))[k].1 := by
  have h : k < (sures l).length := by simpa [sures] using hk
  exact ⟨h, by simp [sures]⟩
theorem dth_source {l : LL} {k : Nat} {n : Int} {x : Int × Bool} (hk : k < ((layOf l).filter (·.2)).length) (hx : ((layOf l).filter (·.2))[k] = x) (hn : (k : Int) + 1 = n) : dthOk l n = some x.1 := by
  cases hv : isLay l
  · rw [layOf_no hv] at hk; simp at hk
  · simp only [layOf_yes hv] at hk hx
    obtain ⟨h, e⟩ := sures_at l k hk
    rw [← hn, dth_get hv k h, e, hx]
theorem dth_none {l : LL} {n : Int} (h : ¬ (1 ≤ n ∧ n ≤ (((layOf l).filter (·.2)).length : Int))) : dthOk l n = none := by
  refine dth_miss ?_
  cases hv : isLay l
  · exact .inl rfl
  · rw [layOf_yes hv] at h
    have e : ((l.filter (·.2)).length : Int) = (sures l).length := by simp [sures]
    omega
set_option maxRecDepth 100000 in
set_option maxHeartbeats 3200000 in
theorem implDepth_any {w : World} {v : Value} {l : LL} (n : Int) (h : LRow w v l) :
    Calls Try.prog 28 #[v, .int .i64 n] w fun e w' => e = .returned (dthV l n) ∧ Below w.heap.size w w' := by
  have HV := Lib.hid h
  have IN : Hid (0 < l.length → InG (fun j => j < w.heap.size) v) := Lib.hid (inG_row h)
  obtain ⟨a, c, rfl, h1, h2, _⟩ := h.parts
  clear h
  have l40 := layOf_len l
  refine (callsIn_wide (n := 9)).1 ?_
  refine callsIn_of_wp_marks Try.func28 rfl trivial ?_ rfl
  simp only [Try.ntmps28, List.size_toArray, List.length_cons, List.length_nil, Nat.reduceAdd, Nat.reduceSub, Array.replicate_succ, Array.replicate_zero, List.push_toArray, List.append_toArray, List.nil_append, List.cons_append]
  gi_wp2_with fail
  obtain ⟨w0, hw0⟩ : ∃ w0, (((w.alloc (.cells #[.int .i64 n] 3)).alloc (.cells #[.int .i64 0] 3)).alloc (.cells #[.bool false] 4)).alloc (.cells #[.int .i64 0] 3) = w0 := ⟨_, rfl⟩
  have hb : Below w.heap.size w w0 := by rw [← hw0]; exact (((((Below.refl _ w).alloc (Nat.le_refl _) _).alloc (by simp) _).alloc (by simp; omega) _).alloc (by simp; omega) _)
  have hs : w0.heap.size = w.heap.size + 4 := by rw [← hw0]; simp
  have c1 : Boxed w0 w.heap.size 3 (.int .i64 n) := by rw [← hw0]; exact (((Boxed.new w _ _).alloc _).alloc _).alloc _
  have c2 : Boxed w0 (w.heap.size + 1) 3 (.int .i64 0) := by
    have := ((Boxed.new (w.alloc (.cells #[.int .i64 n] 3)) 3 (.int .i64 0)).alloc (.cells #[.bool false] 4)).alloc (.cells #[.int .i64 0] 3)
    rw [World.size_alloc] at this; rw [← hw0]; exact this
  have c3 : Boxed w0 (w.heap.size + 1 + 1) 4 (.bool false) := by
    have := (Boxed.new ((w.alloc (.cells #[.int .i64 n] 3)).alloc (.cells #[.int .i64 0] 3)) 4 (.bool false)).alloc (.cells #[.int .i64 0] 3)
    rw [World.size_alloc, World.size_alloc] at this; rw [← hw0]; exact this
  have c4 : Boxed w0 (w.heap.size + 1 + 1 + 1) 3 (.int .i64 0) := by
    have := Boxed.new (((w.alloc (.cells #[.int .i64 n] 3)).alloc (.cells #[.int .i64 0] 3)).alloc (.cells #[.bool false] 4)) 3 (.int .i64 0)
    rw [World.size_alloc, World.size_alloc, World.size_alloc] at this; rw [← hw0]; exact this
  rw [hw0]
  clear hw0
  have HB := Lib.hid hb; have HS := Lib.hid hs; have C1 := Lib.hid c1; have C2 := Lib.hid c2; have C3 := Lib.hid c3; have C4 := Lib.hid c4
  clear hb hs c1 c2 c3 c4
  refine ⟨trivial, (call_wide (each_any (n := w.heap.size) (A := w0.heap.size) (HV.out.grow HB.out) IN.out HB.out.size)).mono ?_⟩
  rintro e w1 ⟨u1, rfl, s1, b1⟩
  have S1 := Lib.hid s1; have B1 := Lib.hid b1
  obtain ⟨g1, lb1, rfl, _⟩ := s1
  clear b1
  gi_wp2_with fail
  have hsz1 : w0.heap.size ≤ w1.heap.size := B1.out.size
  have hsz0 := HB.out.size
  refine ⟨trivial, (call_wide (sure_any w1 S1.out (by omega) hsz1)).mono ?_⟩
  rintro e w2 ⟨u2, rfl, s2, b2⟩
  have B2 := Lib.hid (B1.out.trans (b2.mono hsz1))
  have S2 := Lib.hid s2
  obtain ⟨g2, lb2, rfl, _⟩ := s2
  clear b2
  gi_wp2_with fail
  obtain ⟨g2', lb2', e2, eg, hseq⟩ := S2.out
  simp only [Value.func.injEq, Fn.func.injEq, true_and] at e2
  obtain ⟨rfl, rfl⟩ := e2
  have hsz2 : w0.heap.size ≤ w2.heap.size := B2.out.size
  have bx : ∀ (b : Nat) (t : TypeId) (x : Value), Boxed w0 b t x → Boxed w2 b t x := fun _ _ _ h => (B2.out.block _ h.lt).trans h
  have hW := HS.out
  have GL : ∀ j, Gd w.heap.size w0.heap.size w2 j → j < w.heap.size ∨ (w.heap.size + 4 ≤ j ∧ j < w2.heap.size) := fun j hj => by
    rcases hj with hj | hj
    · exact .inl hj
    · exact .inr (by omega)
  have BW := Lib.hid bx; have GG := Lib.hid GL
  clear bx GL
  refine range_law (w0 := w2) rfl eg hseq (Below.refl _ _) (fun _ => rfl) (fun j hj => hj.lt (by omega))
    (fun M k wr => (((Boxed wr w.heap.size 3 (.int .i64 n) ∧ Boxed wr (w.heap.size + 1) 3 (.int .i64 0)) ∧ (Boxed wr (w.heap.size + 1 + 1) 4 (.bool false) ∧ Boxed wr (w.heap.size + 1 + 1 + 1) 3 (.int .i64 k))) ∧ Below w.heap.size w wr) ∧ ¬ (1 ≤ n ∧ n ≤ (k : Int)))
    (fun M wr => (∃ d, dthOk l n = some d ∧ Boxed wr (w.heap.size + 1) 3 (.int .i64 d) ∧ Boxed wr (w.heap.size + 1 + 1) 4 (.bool true)) ∧ Below w.heap.size w wr)
    (fun M k => ((((stable_obj _ _ _ _ (by omega)).and (stable_obj _ _ _ _ (by omega))).and ((stable_obj _ _ _ _ (by omega)).and (stable_obj _ _ _ _ (by omega)))).and (stable_below (by omega) (Nat.le_refl _))).and (stable_pure _ _ _))
    (fun M => Stable.and (fun A B ⟨d, h1, h2, h3⟩ hs' => ⟨d, h1, (hs'.block _ h2.lt (.inl (by omega))).trans h2, (hs'.block _ h3.lt (.inl (by omega))).trans h3⟩) (stable_below (by omega) (Nat.le_refl _)))
    (fun M hM => ⟨⟨⟨⟨BW.out _ _ _ C1.out, BW.out _ _ _ C2.out⟩, BW.out _ _ _ C3.out, BW.out _ _ _ C4.out⟩, HB.out.trans (B2.out.mono hsz0)⟩, by omega⟩) ?round ?done ?stop
  case round =>
    rintro M k hk wr hM hMW ⟨⟨⟨⟨d1, d2⟩, d3, d4⟩, hbw⟩, hn⟩
    have hk40 : k < 40 := Nat.lt_of_lt_of_le hk (Nat.le_trans (List.length_filter_le _ _) l40)
    clear d1 d2 d3 d4 hbw
    gi_wp2
    refine ⟨(Below.refl _ _).alloc (Nat.le_refl _) _, fun W₂ ht ⟨⟨⟨⟨d1, d2⟩, d3, d4⟩, hbw⟩, hn⟩ => ?_⟩
    obtain ⟨x, hx⟩ : ∃ x, ((layOf l).filter (·.2))[k] = x := ⟨_, rfl⟩
    rw [hx]
    have x1 : W₂.cell? ⟨wr.heap.size, 0, none⟩ = some (.int .i64 x.1) := (ht.cell (by simp; omega)).trans (by rw [World.cell?_alloc_new, hx]; rfl)
    have x2 : W₂.cell? ⟨wr.heap.size, 1, none⟩ = some (.bool x.2) := (ht.cell (by simp; omega)).trans (by rw [World.cell?_alloc_new, hx]; rfl)
    have e1 := Boxed.cell d1; have e2 := Boxed.cell d2; have e3 := Boxed.cell d3; have e4 := Boxed.cell d4
    have f2 := Boxed.frozen d2; have f3 := Boxed.frozen d3; have f4 := Boxed.frozen d4
    have z1 : IntKind.i64.wrap ((k : Int) + 1) = (k : Int) + 1 := IntWalk.i64_in _ (by omega)
    have D1 := Lib.hid d1; have D2 := Lib.hid d2; have D3 := Lib.hid d3; have D4 := Lib.hid d4; have HX := Lib.hid hx; have NN := Lib.hid hn
    clear d1 d2 d3 d4 hx hn
    by_cases q : (k : Int) + 1 = n
    · have q1 : (((k : Int) + 1) == n) = true := by simpa using q
      have Q := Lib.hid q
      clear q
      gi_wp2
      refine ⟨(((turned_set _ _ _ _).keep (by omega) (fun h => by have := GG.out _ h; omega)).trans ((turned_set _ _ _ _).keep (by omega) (fun h => by have := GG.out _ h; omega))).trans ((turned_set _ _ _ _).keep (by omega) (fun h => by have := GG.out _ h; omega)),
        ⟨x.1, dth_source hk HX.out Q.out, ((D2.out.other (by omega) _).set (.int .i64 x.1)).other (by omega) _, ((D3.out.other (by omega) _).other (by omega) _).set (.bool true)⟩,
        (turned_set _ _ _ _).below ((turned_set _ _ _ _).below ((turned_set _ _ _ _).below hbw (by omega)) (by omega)) (by omega)⟩
    · have q1 : (((k : Int) + 1) == n) = false := by simpa using q
      have Q : Hid (¬ (1 ≤ n ∧ n ≤ ((k + 1 : Nat) : Int))) := Lib.hid (by have := NN.out; omega)
      clear q
      gi_wp2
      exact ⟨(turned_set _ _ _ _).keep (by omega) (fun h => by have := GG.out _ h; omega),
        ⟨⟨⟨D1.out.other (by omega) _, D2.out.other (by omega) _⟩, D3.out.other (by omega) _, D4.out.set (.int .i64 ((k : Int) + 1))⟩, (turned_set _ _ _ _).below hbw (by omega)⟩, Q.out⟩
  case done =>
    rintro M wr hM hMW ⟨⟨⟨⟨d1, d2⟩, d3, d4⟩, hbw⟩, hn⟩ hD
    have e2 := Boxed.cell d2; have e3 := Boxed.cell d3
    have f2 := Boxed.frozen d2; have f3 := Boxed.frozen d3
    have D1 := Lib.hid d1; have D2 := Lib.hid d2; have D3 := Lib.hid d3; have D4 := Lib.hid d4; have NN := Lib.hid hn; have DD := Lib.hid hD
    clear d1 d2 d3 d4 hn hD
    gi_wp2
    have hD2 := ((turned_set (wr.setCell ⟨w.heap.size + 1, 0, none⟩ (.int .i64 0)) (w.heap.size + 1 + 1) 0 (.bool false)).block w2.heap.size (by omega)).trans (((turned_set wr (w.heap.size + 1) 0 (.int .i64 0)).block w2.heap.size (by omega)).trans DD.out)
    refine ⟨by simp, .inl ⟨_, _, rfl, run_takeDeferred hD2, ?_⟩⟩
    have r2 := Boxed.cell (((turned_put ((wr.setCell ⟨w.heap.size + 1, 0, none⟩ (.int .i64 0)).setCell ⟨w.heap.size + 1 + 1, 0, none⟩ (.bool false)) w2.heap.size (.deferred none)).block (w.heap.size + 1) (by omega)).trans ((D2.out.set (.int .i64 0)).other (by omega) (.bool false)))
    have r3 := Boxed.cell (((turned_put ((wr.setCell ⟨w.heap.size + 1, 0, none⟩ (.int .i64 0)).setCell ⟨w.heap.size + 1 + 1, 0, none⟩ (.bool false)) w2.heap.size (.deferred none)).block (w.heap.size + 1 + 1) (by omega)).trans ((D3.out.other (by omega) (.int .i64 0)).set (.bool false)))
    refine ⟨.tuple #[.int .i64 0, .bool false], ?_, by rw [dthV_no (dth_none NN.out)], (turned_put _ _ _).below ((turned_set _ _ _ _).below ((turned_set _ _ _ _).below hbw (by omega)) (by omega)) (by omega)⟩
    simp [results, Try.f28, go_sem, r2, r3]
  case stop =>
    rintro M wr hM hMW ⟨⟨d, hd, d2, d3⟩, hbw⟩ hD
    have e2 := Boxed.cell d2; have e3 := Boxed.cell d3
    gi_wp2
    refine ⟨by simp, .inl ⟨_, _, rfl, run_takeDeferred hD, ?_⟩⟩
    have r2 := Boxed.cell (((turned_put wr w2.heap.size (.deferred none)).block (w.heap.size + 1) (by omega)).trans d2)
    have r3 := Boxed.cell (((turned_put wr w2.heap.size (.deferred none)).block (w.heap.size + 1 + 1) (by omega)).trans d3)
    refine ⟨.tuple #[.int .i64 d, .bool true], ?_, by rw [dthV_yes hd], (turned_put _ _ _).below hbw (by omega)⟩
    simp [results, Try.f28, go_sem, r2, r3]
theorem intsL : IntT 44 := Try.underlying44
/-- A slice of the call's own that holds a list of numbers. -/
def LstN (w : World) (m : List Int) (e : Ending) (w' : World) : Prop := ∃ v, e = .returned v ∧ IOwn w' w.heap.size v m ∧ Below w.heap.size w w'
theorem thk_no {l : LL} (h : isLay l = false) : thk l = [] := if_neg (by rw [h]; simp)
theorem thk_yes {l : LL} (h : isLay l = true) : thk l = diffs (sures l) := if_pos h
theorem lastS_in {l : LL} (h : isLay l = true) (k : Nat) : -1 ≤ lastS (l.take k) ∧ lastS (l.take k) ≤ 30000 := by
  unfold lastS
  cases e : (sures (l.take k)).getLast? with
  | none => simp
  | some d =>
    have hm : d ∈ sures (l.take k) := List.mem_of_getLast? e
    simp only [sures, List.mem_map, List.mem_filter] at hm
    obtain ⟨x, ⟨hx, _⟩, rfl⟩ := hm
    have := lay_in (lay_take k h) x hx
    simp; omega
theorem diffs_len (l : LL) : (diffs (sures l)).length ≤ l.length := by rw [diffs_length]; have := sures_len l; omega
theorem lastS_no {l : LL} {k : Nat} (hk : k < l.length) (hs : l[k].2 = false) : lastS (l.take (k + 1)) = lastS (l.take k) ∧ sures (l.take (k + 1)) = sures (l.take k) := by
  rw [lastS_step l k hk, sures_step l k hk, hs]; simp
theorem lastS_yes {l : LL} {k : Nat} (hk : k < l.length) (hs : l[k].2 = true) : lastS (l.take (k + 1)) = l[k].1 := by
  rw [lastS_step l k hk, if_pos hs]
set_option maxRecDepth 100000 in
set_option maxHeartbeats 1600000 in
theorem specThick_any {w : World} {v : Value} {l : LL} (h : LRow w v l) :
    Calls Try.prog 29 #[v] w fun e w' => LstN w (thk l) e w' := by
  have HV := Lib.hid h
  obtain ⟨a, c, rfl, h1, h2, hlie⟩ := h.parts
  have H := Lib.hid hlie
  unfold maxLen at h2
  have BE : Hid (Below w.heap.size w (w.alloc (.cells #[] 3))) := Lib.hid ((Below.refl _ _).alloc (Nat.le_refl _) _)
  have OE := Lib.hid (iown_new (Nat.le_refl w.heap.size))
  clear h hlie
  cases hv : isLay l
  · have LV := Lib.hid hv
    have MI := Lib.hid (thk_no hv)
    clear hv
    go_enter Try.func29, Try.ntmps29
    go_wp2_with fail
    go_loopg [3, 5] 1 (fun k y z wr => y = .slice (some ⟨w.heap.size, 0, none⟩) 0 0 ∧ z = .int .i64 0 ∧ Below w.heap.size w wr ∧ IOwn wr w.heap.size (.slice (some ⟨w.heap.size, 0, none⟩) 0 0) [] ∧ k = 1)
    case atStart => exact ⟨rfl, rfl, BE.out, OE.out, rfl⟩
    case round =>
      obtain ⟨rfl, rfl, hb, ho, hk⟩ := hrel
      have B := Lib.hid hb; have O := Lib.hid ho
      clear hb ho
      by_cases n0 : 0 < l.length
      · have i1 : (0 : Int) < (l.length : Int) := by omega
        go_wp2_with fail
        refine (specValid_is (HV.out.grow B.out) LV.out).mono ?_
        rintro e w1 ⟨rfl, b1⟩
        have B1 := Lib.hid (B.out.trans (b1.mono B.out.size))
        have O1 := Lib.hid (O.out.grow b1)
        clear b1
        go_wp2_with fail
        go_ret
        exact ⟨_, rfl, by rw [MI.out]; exact O1.out, B1.out⟩
      · have i1 : ¬ (0 : Int) < (l.length : Int) := by omega
        have i2 : decide ((0 : Int) < (l.length : Int)) = false := by simpa using i1
        go_wp2_with fail
        go_ret
        exact ⟨_, rfl, by rw [MI.out]; exact O.out, B.out⟩
  have LV := Lib.hid hv
  have l40 := lay_len hv
  clear hv
  go_enter Try.func29, Try.ntmps29
  go_wp2_with fail
  go_loopg [3, 4, 5] l.length (fun k u x z wr => ∃ (j : Nat) (p : Int), x = .int .i64 p ∧ z = .int .i64 j ∧ j + k = l.length ∧ p = lastS (l.take j) ∧ IOwn wr w.heap.size u (diffs (sures (l.take j))) ∧ Below w.heap.size w wr)
  case atStart => exact ⟨0, -1, rfl, rfl, by omega, rfl, OE.out, BE.out⟩
  case round =>
    obtain ⟨j, p, rfl, rfl, hk, hp, ho, hb⟩ := hrel
    have K := Lib.hid hk; have P := Lib.hid hp; have O := Lib.hid ho; have B := Lib.hid hb
    have hjl : j ≤ l.length := by omega
    have pin := lastS_in LV.out j
    rw [← hp] at pin
    obtain ⟨p0, p1⟩ := pin
    clear hk hp ho hb
    by_cases hlt : j < l.length
    · have i1 : (j : Int) < (l.length : Int) := by omega
      have i0 : (0 : Int) ≤ (j : Int) := by omega
      obtain ⟨g, o, rfl, d1, d2⟩ := llies_cell H.out j hlt
      have din := lay_in LV.out _ (List.getElem_mem hlt)
      cases hsv : l[j].2
      · have NO := Lib.hid (lastS_no hlt hsv)
        rw [hsv] at d2
        have D1 := Lib.hid d1; have D2 := Lib.hid d2
        clear d1 d2
        go_wp2_with fail
        refine (specValid_is (HV.out.grow B.out) LV.out).mono ?_
        rintro e w1 ⟨rfl, b1⟩
        have B1 := Lib.hid (B.out.trans (b1.mono B.out.size))
        have O1 := Lib.hid (O.out.grow b1)
        have e2 := (B1.out.cell (cell_below D2.out)).trans D2.out
        clear b1 hsv
        go_wp2_with fail
        go_roundg (gk - 1)
        case measure => have := K.out; omega
        case rel => exact ⟨j + 1, p, rfl, by go_num, by have := K.out; omega, by rw [NO.out.1]; exact P.out, by rw [NO.out.2]; exact O1.out, B1.out⟩
      · have YES := Lib.hid (lastS_yes hlt hsv)
        have DS := Lib.hid (diffs_step LV.out j hlt hsv)
        rw [hsv] at d2
        have D1 := Lib.hid d1; have D2 := Lib.hid d2
        clear d1 d2
        go_wp2_with fail
        refine (specValid_is (HV.out.grow B.out) LV.out).mono ?_
        rintro e w1 ⟨rfl, b1⟩
        have B1 := Lib.hid (B.out.trans (b1.mono B.out.size))
        have O1 := Lib.hid (O.out.grow b1)
        have e1 := (B1.out.cell (cell_below D1.out)).trans D1.out
        have e2 := (B1.out.cell (cell_below D2.out)).trans D2.out
        have hsz := B1.out.size
        clear b1 hsv
        by_cases q : 0 ≤ p
        · have q1 : decide (0 ≤ p) = true := by simpa using q
          have D3 : Hid (diffs (sures (l.take (j + 1))) = diffs (sures (l.take j)) ++ [l[j].1 - p]) := Lib.hid (by rw [DS.out, ← P.out, if_pos q])
          have z1 : IntKind.i64.wrap (l[j].1 - p) = l[j].1 - p := IntWalk.i64_in _ (by omega)
          have n1 := new_one w1 (.int .i64 (l[j].1 - p)) 3
          have N1 := Lib.hid n1
          have BW := Lib.hid ((Below.refl w1.heap.size w1).alloc (Nat.le_refl _) (.cells #[.int .i64 (l[j].1 - p)] 3))
          have DL : Hid ((diffs (sures (l.take j))).length ≤ 40) := Lib.hid (by have := diffs_len (l.take j); rw [List.length_take] at this; omega)
          clear n1
          go_wp2_with (at_builtin; refine iappend_one intsL rfl _ _ rfl (B := w.heap.size) _ _ rfl (O1.out.grow BW.out) ⟨w1.heap.size, 0, none⟩ (l[j].1 - p) rfl N1.out (by have := DL.out; omega) (by simp; omega) ?_; intro v8 w8 hown8 hg8; have e8 := ((((O1.out.grow BW.out).below hg8 (by simp; omega)).cell (p := ⟨g, o + j * 2, none⟩) (by have := cell_below D1.out; simp at this ⊢; omega)).trans ((BW.out.cell (p := ⟨g, o + j * 2, none⟩) (cell_below e1)).trans e1)))
          rw [← D3.out] at hown8
          have O8 := Lib.hid hown8
          have B8 := Lib.hid (B1.out.trans ((BW.out.mono hsz).trans ((O1.out.grow BW.out).below hg8 (by simp; omega))))
          clear hown8 hg8
          go_wp2_with fail
          go_roundg (gk - 1)
          case measure => have := K.out; omega
          case rel => exact ⟨j + 1, l[j].1, rfl, by go_num, by have := K.out; omega, YES.out.symm, O8.out, B8.out⟩
        · have q1 : decide (0 ≤ p) = false := by simpa using q
          have D3 : Hid (diffs (sures (l.take (j + 1))) = diffs (sures (l.take j))) := Lib.hid (by rw [DS.out, ← P.out, if_neg q])
          go_wp2_with fail
          go_roundg (gk - 1)
          case measure => have := K.out; omega
          case rel => exact ⟨j + 1, l[j].1, rfl, by go_num, by have := K.out; omega, YES.out.symm, by rw [D3.out]; exact O1.out, B1.out⟩
    · have i1 : ¬ (j : Int) < (l.length : Int) := by omega
      have i2 : decide ((j : Int) < (l.length : Int)) = false := by simpa using i1
      have OF : Hid (IOwn wr w.heap.size u3 (thk l)) := Lib.hid (by
        have := O.out
        rw [List.take_of_length_le (by omega)] at this
        rw [thk_yes LV.out]; exact this)
      go_wp2_with fail
      go_ret
      exact ⟨_, rfl, OF.out, B.out⟩
/-- One number more behind a slice of the call's own, within a round; where the longer one lies. -/
theorem iappend_in {S : TypeId} (PT : IntT S) {F : Fence} {n : Nat} {w : World} {ops : Array Oper} {rest : List Oper} {o : Oper} {a : Act} {Q : Exit → Act → World → Prop} (hgd : o.guard = none) (s x : Operand)
    (ho : o.op = .call { callee := .builtin .append, args := #[s, x], argTypes := #[S, S] }) {B : Nat} (v : Value) (m : List Int) (hs : a.eval s = v) (hown : IOwn w B v m)
    (ad : Addr) (p : Int) (hx : a.eval x = .slice (some ad) 1 1) (h0 : w.cell? (ad.add 0) = some (.int .i64 p)) (hm : m.length ≤ 1000000) (hB : B ≤ w.heap.size)
    (h : ∀ v' w', IOwn w' B v' (m ++ [p]) → w.grownBy w' v.ownBlock → (v'.ownBlock = v.ownBlock ∨ v'.ownBlock = some w.heap.size) → wpListIn F n Try.prog ops Q rest (a.put o.dst v') w') : wpListIn F n Try.prog ops Q (o :: rest) a w := by
  obtain ⟨i0, hi, hz0, hz1, hz2⟩ := info_parts intInfo
  refine wpListIn_append_own_at (w := w) hgd s x S ho B 3 i0 (.int .i64 0) 1 8 PT hi hz0 hz1 hz2 rfl (by decide) v m.length (cells1 m) hs hown
    ad 1 1 (cells1 [p]) hx (by simp [cells1]) (fun j u hj => by
      match j, hj with
      | 0, hj => cases hj; exact h0) (cells1_one [p]) (by unfold maxLen; omega) (by omega) hB ?_
  intro v' w' h2 h3 _ h5
  refine h v' w' ?_ h3 h5
  show w'.ownsRow B _ 1 v' (m ++ [p]).length (cells1 (m ++ [p]))
  rw [cells1_append, List.length_append]
  exact h2
theorem Step.iown {lo M B : Nat} {W W' : World} {v : Value} {m : List Int} (h : Step lo M W W') (ho : IOwn W B v m) (hb : ∀ b, v.ownBlock = some b → b < lo ∨ M ≤ b) : IOwn W' B v m :=
  ho.same fun b hb' => h.block b (ho.lt b hb').2 (hb b hb')
theorem Turned.iown {l B : Nat} {W W' : World} {v : Value} {m : List Int} (h : Turned l W W') (ho : IOwn W B v m) (hb : v.ownBlock ≠ some l) : IOwn W' B v m :=
  ho.same fun b hb' => h.block b (fun e => hb (by rw [hb', e]))
theorem layOf_lay (l : LL) : isLay (layOf l) = true := by
  unfold layOf; split
  · assumption
  · rfl
theorem thk_layOf (l : LL) : diffs (sures ((layOf l).filter (·.2))) = thk l := by
  have e : sures ((layOf l).filter (·.2)) = sures (layOf l) := onlyS_sures (layOf l)
  rw [e]
  cases hv : isLay l
  · rw [layOf_no hv, thk_no hv]; rfl
  · rw [layOf_yes hv, thk_yes hv]
set_option maxRecDepth 100000 in
set_option maxHeartbeats 3200000 in
theorem implThick_any {w : World} {v : Value} {l : LL} (h : LRow w v l) :
    Calls Try.prog 30 #[v] w fun e w' => LstN w (thk l) e w' := by
  have HV := Lib.hid h
  have IN : Hid (0 < l.length → InG (fun j => j < w.heap.size) v) := Lib.hid (inG_row h)
  obtain ⟨a, c, rfl, h1, h2, _⟩ := h.parts
  clear h
  have l40 := layOf_len l
  have LX := Lib.hid (onlyS_lay (layOf_lay l))
  refine (callsIn_wide (n := 9)).1 ?_
  refine callsIn_of_wp_marks Try.func30 rfl trivial ?_ rfl
  simp only [Try.ntmps30, List.size_toArray, List.length_cons, List.length_nil, Nat.reduceAdd, Nat.reduceSub, Array.replicate_succ, Array.replicate_zero, List.push_toArray, List.append_toArray, List.nil_append, List.cons_append]
  gi_wp2_with fail
  obtain ⟨w0, hw0⟩ : ∃ w0, ((w.alloc (.cells #[] 3)).alloc (.cells #[.slice (some ⟨w.heap.size, 0, none⟩) 0 0] 44)).alloc (.cells #[.int .i64 (-1)] 3) = w0 := ⟨_, rfl⟩
  have hb : Below w.heap.size w w0 := by rw [← hw0]; exact ((((Below.refl _ w).alloc (Nat.le_refl _) _).alloc (by simp) _).alloc (by simp; omega) _)
  have hs : w0.heap.size = w.heap.size + 3 := by rw [← hw0]; simp
  have c1 : IOwn w0 w.heap.size (.slice (some ⟨w.heap.size, 0, none⟩) 0 0) [] := by
    rw [← hw0]; exact ((iown_new (Nat.le_refl w.heap.size)).grow ((Below.refl _ _).alloc (Nat.le_refl _) _)).grow ((Below.refl _ _).alloc (Nat.le_refl _) _)
  have c2 : Boxed w0 (w.heap.size + 1) 44 (.slice (some ⟨w.heap.size, 0, none⟩) 0 0) := by
    have := (Boxed.new (w.alloc (.cells #[] 3)) 44 (.slice (some ⟨w.heap.size, 0, none⟩) 0 0)).alloc (.cells #[.int .i64 (-1)] 3)
    rw [World.size_alloc] at this; rw [← hw0]; exact this
  have c3 : Boxed w0 (w.heap.size + 1 + 1) 3 (.int .i64 (-1)) := by
    have := Boxed.new ((w.alloc (.cells #[] 3)).alloc (.cells #[.slice (some ⟨w.heap.size, 0, none⟩) 0 0] 44)) 3 (.int .i64 (-1))
    rw [World.size_alloc, World.size_alloc] at this; rw [← hw0]; exact this
  rw [hw0]
  clear hw0
  have HB := Lib.hid hb; have HS := Lib.hid hs; have C1 := Lib.hid c1; have C2 := Lib.hid c2; have C3 := Lib.hid c3
  clear hb hs c1 c2 c3
  refine ⟨trivial, (call_wide (each_any (n := w.heap.size) (A := w0.heap.size) (HV.out.grow HB.out) IN.out HB.out.size)).mono ?_⟩
  rintro e w1 ⟨u1, rfl, s1, b1⟩
  have S1 := Lib.hid s1; have B1 := Lib.hid b1
  obtain ⟨g1, lb1, rfl, _⟩ := s1
  clear b1
  gi_wp2_with fail
  have hsz1 : w0.heap.size ≤ w1.heap.size := B1.out.size
  have hsz0 := HB.out.size
  refine ⟨trivial, (call_wide (sure_any w1 S1.out (by omega) hsz1)).mono ?_⟩
  rintro e w2 ⟨u2, rfl, s2, b2⟩
  have B2 := Lib.hid (B1.out.trans (b2.mono hsz1))
  have TH := Lib.hid (thk_layOf l)
  obtain ⟨xs, hxs⟩ : ∃ xs, (layOf l).filter (·.2) = xs := ⟨_, rfl⟩
  have XL : Hid (isLay xs = true) := Lib.hid (by rw [← hxs]; exact LX.out)
  have XA : Hid (∀ k (hk : k < xs.length), xs[k].2 = true) := Lib.hid (fun k hk => by
    have : xs[k] ∈ (layOf l).filter (·.2) := hxs ▸ List.getElem_mem hk
    exact (List.mem_filter.1 this).2)
  rw [hxs] at s2 TH
  have x40 := lay_len XL.out
  clear hxs LX
  have S2 := Lib.hid s2
  obtain ⟨g2, lb2, rfl, _⟩ := s2
  clear b2
  gi_wp2_with fail
  obtain ⟨g2', lb2', e2, eg, hseq⟩ := S2.out
  simp only [Value.func.injEq, Fn.func.injEq, true_and] at e2
  obtain ⟨rfl, rfl⟩ := e2
  have hsz2 : w0.heap.size ≤ w2.heap.size := B2.out.size
  have bx : ∀ (b : Nat) (t : TypeId) (x : Value), Boxed w0 b t x → Boxed w2 b t x := fun _ _ _ h => (B2.out.block _ h.lt).trans h
  have hW1 : w.heap.size + 3 ≤ w0.heap.size := by have := HS.out; omega
  have hW2 : w0.heap.size ≤ w.heap.size + 3 := by have := HS.out; omega
  have GL : ∀ j, Gd w.heap.size w0.heap.size w2 j → j < w.heap.size ∨ (w.heap.size + 3 ≤ j ∧ j < w2.heap.size) := fun j hj => by
    rcases hj with hj | hj
    · exact .inl hj
    · exact .inr (by omega)
  have BW := Lib.hid bx; have GG := Lib.hid GL
  clear bx GL
  refine range_law (w0 := w2) rfl eg hseq (Below.refl _ _) (fun _ => rfl) (fun j hj => hj.lt (by omega))
    (fun M k wr => ((∃ v, Boxed wr (w.heap.size + 1) 44 v ∧ IOwn wr w.heap.size v (diffs (sures (xs.take k))) ∧ ∀ b, v.ownBlock = some b → b = w.heap.size ∨ M ≤ b) ∧ Boxed wr (w.heap.size + 1 + 1) 3 (.int .i64 (lastS (xs.take k)))) ∧ Below w.heap.size w wr)
    (fun _ _ => False)
    (fun M k => ((Stable.and (fun A B ⟨v, h1, h2, h3⟩ hs' => ⟨v, (hs'.block _ h1.lt (.inl (by omega))).trans h1, hs'.iown h2 (fun b hb => (h3 b hb).imp (fun e => by omega) id), h3⟩) (stable_obj _ _ _ _ (by omega))).and (stable_below (by omega) (Nat.le_refl _))))
    (fun M => fun _ _ h _ => h)
    (fun M hM => ⟨⟨⟨_, BW.out _ _ _ C2.out, C1.out.grow B2.out, fun b hb => .inl (by cases hb; rfl)⟩, BW.out _ _ _ C3.out⟩, HB.out.trans (B2.out.mono hsz0)⟩) ?round ?done ?stop
  case round =>
    rintro M k hk wr hM hMW ⟨⟨⟨u, hu, ho, hub⟩, hl⟩, hbw⟩
    have HK := Lib.hid hk; have HU := Lib.hid hu; have HO := Lib.hid ho; have UB := Lib.hid hub; have HL := Lib.hid hl
    clear hu ho hub hl
    gi_wp2
    refine ⟨(Below.refl _ _).alloc (Nat.le_refl _) _, fun W₂ ht _ => ?_⟩
    have hwa := hbw.size
    have sub := XA.out k hk
    have DL : Hid ((diffs (sures (xs.take k))).length ≤ 40) := Lib.hid (by have := diffs_len (xs.take k); rw [List.length_take] at this; omega)
    obtain ⟨x, hx⟩ : ∃ x, xs[k] = x := ⟨_, rfl⟩
    obtain ⟨p, hp⟩ : ∃ p, lastS (xs.take k) = p := ⟨_, rfl⟩
    have din : 0 ≤ x.1 ∧ x.1 ≤ 30000 := by rw [← hx]; exact lay_in XL.out _ (List.getElem_mem hk)
    have DS : Hid (diffs (sures (xs.take (k + 1))) = if 0 ≤ p then diffs (sures (xs.take k)) ++ [x.1 - p] else diffs (sures (xs.take k))) := Lib.hid (by rw [← hx, ← hp]; exact diffs_step XL.out k hk sub)
    have YES : Hid (lastS (xs.take (k + 1)) = x.1) := Lib.hid (by rw [← hx]; exact lastS_yes hk sub)
    have pin : -1 ≤ p ∧ p ≤ 30000 := by rw [← hp]; exact lastS_in XL.out k
    have hx2 : @getElem (List Ly) Nat Ly _ _ xs k hk = x := hx
    rw [hx2] at ht ⊢
    rw [hp] at HL
    obtain ⟨d0, d1⟩ := din
    obtain ⟨p0, p1⟩ := pin
    have ult : ∀ b, u.ownBlock = some b → b < wr.heap.size := fun b hb => (HO.out.lt b hb).2
    have x1 : W₂.cell? ⟨wr.heap.size, 0, none⟩ = some (.int .i64 x.1) := (ht.cell (by simp; omega)).trans (by rw [World.cell?_alloc_new]; rfl)
    have hu2 : Boxed W₂ (w.heap.size + 1) 44 u := (ht.block _ (by omega)).trans (HU.out.alloc _)
    have hl2 : Boxed W₂ (w.heap.size + 1 + 1) 3 (.int .i64 p) := (ht.block _ (by omega)).trans (HL.out.alloc _)
    have ho2 : IOwn W₂ w.heap.size u (diffs (sures (xs.take k))) := ht.iown (HO.out.grow ((Below.refl _ _).alloc (Nat.le_refl _) _)) (fun e => by have := ult _ e; rcases UB.out _ e with h | h <;> omega)
    have hb2 : Below w.heap.size w W₂ := ht.below (hbw.alloc hwa _) (by omega)
    have hsW : W₂.heap.size = wr.heap.size + 1 := by rw [ht.size]; simp
    have e1 := Boxed.cell hu2; have f1 := Boxed.frozen hu2; have e2 := Boxed.cell hl2; have f2 := Boxed.frozen hl2
    have U2 := Lib.hid hu2; have L2 := Lib.hid hl2; have O2 := Lib.hid ho2; have HS2 := Lib.hid hsW; have HX := Lib.hid hx; have HP := Lib.hid hp; have UL := Lib.hid ult
    have BA : Hid (Below W₂.heap.size W₂ (W₂.alloc (.cells #[.int .i64 (x.1 - p)] 3))) := Lib.hid ((Below.refl _ _).alloc (Nat.le_refl _) _)
    have hw2 : w.heap.size ≤ W₂.heap.size := by omega
    have hMW2 : M ≤ W₂.heap.size := by omega
    clear hu2 hl2 ho2 hsW hx hp ult sub
    by_cases q : 0 ≤ p
    · have q1 : decide (0 ≤ p) = true := by simpa using q
      have D3 : Hid (diffs (sures (xs.take (k + 1))) = diffs (sures (xs.take k)) ++ [x.1 - p]) := Lib.hid (by rw [DS.out, if_pos q])
      have z1 : IntKind.i64.wrap (x.1 - p) = x.1 - p := IntWalk.i64_in _ (by omega)
      gi_wp2_with (gi_at_builtin; refine iappend_in intsL rfl _ _ rfl (B := w.heap.size) _ _ rfl (O2.out.grow BA.out) ⟨W₂.heap.size, 0, none⟩ (x.1 - p) rfl (new_one W₂ _ _) (by have := DL.out; omega) (by simp; omega) ?_; intro v3 W3 hown3 hg3 hat3; obtain ⟨g3, cap3, rfl⟩ := ownsRow_succ (k := (diffs (sures (xs.take k))).length) (by have z := hown3; unfold IOwn at z; rw [List.length_append] at z; exact z); have bx3 := Boxed.kept (U2.out.alloc _) hg3 (fun e => by rcases UB.out _ e.symm with h | h <;> omega); have bl3 := Boxed.kept (L2.out.alloc _) hg3 (fun e => by rcases UB.out _ e.symm with h | h <;> omega); have x3 := World.grownBy.cell hg3 ((BA.out.cell (p := ⟨wr.heap.size, 0, none⟩) (by have := HS2.out; simp; omega)).trans x1) (fun e => by have := UL.out _ e.symm; simp at this); have e3 := Boxed.cell bx3; have f3 := Boxed.frozen bx3; have e4 := Boxed.cell bl3; have f4 := Boxed.frozen bl3)
      have hs2 := HS2.out
      have eu : ∀ b, u.ownBlock = some b → b = w.heap.size ∨ M ≤ b := UB.out
      have ev : ∀ b, (Value.slice (some ⟨g3, 0, none⟩) ((diffs (sures (xs.take k))).length + 1) cap3).ownBlock = some b → b = w.heap.size ∨ M ≤ b := fun b hb => by
        rcases hat3 with h | h
        · exact eu b (h.symm.trans hb)
        · rw [hb] at h; simp only [Option.some.injEq, World.size_alloc] at h; exact .inr (by omega)
      have kb := Kept.grown (lo := w2.heap.size) (M := M) (G := Gd w.heap.size w0.heap.size w2) hg3 (fun j hj => by have := GG.out j hj; simp; omega) (by simp; omega) (fun j e => ⟨fun hj => by have := GG.out j hj; have := eu j e; omega, fun hj => by have := eu j e; omega⟩)
      refine ⟨(((Kept.new BA.out hMW2 (fun j hj => by have := GG.out j hj; omega)).trans kb).trans ((turned_set _ _ _ _).keep (by omega) (fun h => by have := GG.out _ h; omega))).trans ((turned_set _ _ _ _).keep (by omega) (fun h => by have := GG.out _ h; omega)), ⟨⟨_, (Boxed.set _ bx3).other (by omega) _, ?_, ev⟩, ?_⟩, ?_⟩
      · rw [D3.out]
        exact (turned_set _ _ _ _).iown ((turned_set _ _ _ _).iown hown3 (fun e => by rcases ev _ e with h | h <;> omega)) (fun e => by rcases ev _ e with h | h <;> omega)
      · rw [YES.out]; exact (bl3.other (by omega) _).set _
      · exact (turned_set _ _ _ _).below ((turned_set _ _ _ _).below ((hb2.alloc hw2 _).grown hg3 (by simp; omega) (fun j e => by rcases eu j e with h | h <;> omega)) (by omega)) (by omega)
    · have q1 : decide (0 ≤ p) = false := by simpa using q
      have D3 : Hid (diffs (sures (xs.take (k + 1))) = diffs (sures (xs.take k))) := Lib.hid (by rw [DS.out, if_neg q])
      gi_wp2
      refine ⟨(turned_set _ _ _ _).keep (by omega) (fun h => by have := GG.out _ h; omega), ⟨⟨u, U2.out.other (by omega) _, ?_, UB.out⟩, ?_⟩, (turned_set _ _ _ _).below hb2 (by omega)⟩
      · rw [D3.out]; exact (turned_set _ _ _ _).iown O2.out (fun e => by rcases UB.out _ e with h | h <;> omega)
      · rw [YES.out]; exact L2.out.set _
  case done =>
    rintro M wr hM hMW ⟨⟨⟨u, hu, ho, hub⟩, hl⟩, hbw⟩ hD
    have e1 := Boxed.cell hu
    have HO := Lib.hid ho; have UB := Lib.hid hub
    clear ho hub hl hu
    gi_wp2
    refine ⟨by simp, .inl ⟨_, _, rfl, run_takeDeferred hD, ?_⟩⟩
    refine ⟨_, results_tmp rfl _ _ _, _, rfl, ?_, (turned_put _ _ _).below hbw (by omega)⟩
    have := HO.out
    rw [List.take_length, TH.out] at this
    exact (turned_put _ _ _).iown this (fun e => by rcases UB.out _ e with h | h <;> omega)
  case stop =>
    rintro M wr _ _ h _
    exact h.elim
end Go.Proofs.Ytbjeedeapioljac
