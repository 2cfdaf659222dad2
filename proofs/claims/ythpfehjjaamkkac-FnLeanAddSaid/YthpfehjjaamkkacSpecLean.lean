/- The contracts of the model's functions on curves: lean curves. -/
import Derived.Test.YthpfehjjaamkkacSpecTurn
import Derived.Test.YthpfehjjaamkkacLeanWay
namespace Go.Proofs.Ythpfehjjaamkkac
open Go.RowKit

set_option maxRecDepth 100000 in
set_option maxHeartbeats 1600000 in
theorem l11Line_is {p k q : Pc} {r : Bool} (hp : Dp p) (hk : Dp k) (hq : Dp q) (hr : onL p k q = r) (w : World) :
    Calls Try.prog 44 #[.agg #[.int .i64 p.1, .int .i64 p.2], .agg #[.int .i64 k.1, .int .i64 k.2], .agg #[.int .i64 q.1, .int .i64 q.2]] w fun e w' => Val w (.bool r) e w' := by
  obtain ⟨p1, p2, p3, p4⟩ := hp
  obtain ⟨k1, k2, k3, k4⟩ := hk
  obtain ⟨q1, q2, q3, q4⟩ := hq
  have m1 := mul_part (a := k.1 - p.1) (d := q.2 - p.2) (by omega) (by omega) (by omega) (by omega)
  have m2 := mul_part (a := q.1 - p.1) (d := k.2 - p.2) (by omega) (by omega) (by omega) (by omega)
  obtain ⟨x, hx⟩ : ∃ x, (k.1 - p.1) * (q.2 - p.2) = x := ⟨_, rfl⟩
  obtain ⟨y, hy⟩ : ∃ y, (q.1 - p.1) * (k.2 - p.2) = y := ⟨_, rfl⟩
  rw [hx] at m1; rw [hy] at m2
  have HR : Hid ((x == y) = r) := Lib.hid (by
    rw [← hr, onL, hx, hy, Bool.eq_iff_iff]; simp)
  clear hr
  have e1 : IntKind.i64.wrap (k.1 - p.1) = k.1 - p.1 := IntWalk.i64_in _ (by omega)
  have e2 : IntKind.i64.wrap (q.1 - p.1) = q.1 - p.1 := IntWalk.i64_in _ (by omega)
  have e3 : IntKind.i64.wrap (k.2 - p.2) = k.2 - p.2 := IntWalk.i64_in _ (by omega)
  have e4 : IntKind.i64.wrap (q.2 - p.2) = q.2 - p.2 := IntWalk.i64_in _ (by omega)
  have e5 : IntKind.i64.wrap x = x := IntWalk.i64_in _ (by omega)
  have e6 : IntKind.i64.wrap y = y := IntWalk.i64_in _ (by omega)
  go_enter Try.func44, Try.ntmps44
  go_wp2_with fail
  go_ret
  exact ⟨by rw [HR.out]; rfl, by go_grown⟩
theorem held6 {w w' : World} {a b c d e f : Addr} {u v x y z t : Value} (h : Below w.heap.size w w') (h1 : w.cell? a = some u) (h2 : w.cell? b = some v) (h3 : w.cell? c = some x) (h4 : w.cell? d = some y) (h5 : w.cell? e = some z) (h6 : w.cell? f = some t) :
    w'.cell? a = some u ∧ w'.cell? b = some v ∧ w'.cell? c = some x ∧ w'.cell? d = some y ∧ w'.cell? e = some z ∧ w'.cell? f = some t :=
  ⟨(h.cell (cell_below h1)).trans h1, (h.cell (cell_below h2)).trans h2, (h.cell (cell_below h3)).trans h3, (h.cell (cell_below h4)).trans h4, (h.cell (cell_below h5)).trans h5, (h.cell (cell_below h6)).trans h6⟩
set_option maxRecDepth 100000 in
set_option maxHeartbeats 3200000 in
theorem specCurveLean_any {w : World} {v : Value} {l : List Pc} (h : Row w v l) :
    Calls Try.prog 14 #[v] w fun e w' => LstB 29 w (leanOf l) e w' := by
  obtain ⟨a, c, rfl, h1, h2⟩ := h.len
  have R0 := Lib.hid h
  unfold maxLen at h2
  clear h
  cases hc : isCurve l
  · have HC := Lib.hid hc
    have HT := Lib.hid (leanOf_no hc)
    clear hc
    go_enter Try.func14, Try.ntmps14
    go_wp2_with fail
    refine (specvalid_is R0.out HC.out).mono ?_
    rintro e w1 ⟨rfl, b1⟩
    go_wp2_with fail
    go_ret2
    rw [HT.out]
    exact ⟨_, rfl, own_new _ b1.size, b1.alloc b1.size _⟩
  · have HC := Lib.hid hc
    have HT := Lib.hid (leanOf_is hc)
    have h12 : l.length ≤ 12 := (isCurve_steps.1 hc).2.1
    have h02 : 2 ≤ l.length := (isCurve_steps.1 hc).1
    have LS := Lib.hid (leaned_start hc (by omega))
    clear hc
    obtain ⟨g, o, c', e', _, _⟩ := R0.out.known (by omega)
    simp only [Value.slice.injEq] at e'
    obtain ⟨rfl, -, rfl⟩ := e'
    obtain ⟨n, hn⟩ : ∃ n, l.length = n + 1 := ⟨l.length - 1, by omega⟩
    have HN := Lib.hid hn
    have z0 : 0 < l.length := by omega
    obtain ⟨d1, d2⟩ := R0.out.cells 0 z0
    simp only [Nat.zero_mul, Nat.add_zero] at d1 d2
    rw [hn]
    rw [hn] at R0
    have hn1 : 1 ≤ n := by omega
    have s1 : (0 : Int) < (n : Int) + 1 := by omega
    have s1' : 0 < n + 1 := by omega
    have s2 : IntKind.i64.wrap ((n : Int) + 1 - 1) = (n : Int) := by rw [show (n : Int) + 1 - 1 = n by omega]; exact IntWalk.i64_in _ (by omega)
    have s2' : IntKind.i64.wrap (n : Int) = (n : Int) := IntWalk.i64_in _ (by omega)
    clear hn
    go_enter Try.func14, Try.ntmps14
    go_wp2_with fail
    refine (specvalid_is R0.out HC.out).mono ?_
    rintro e w1 ⟨rfl, b1⟩
    replace d1 := (b1.cell (cell_below d1)).trans d1
    replace d2 := (b1.cell (cell_below d2)).trans d2
    have B1 := Lib.hid b1
    clear b1
    go_wp2_with fail
    go_loopg [4, 5] (n - 1) (fun k x y wr => ∃ (j : Nat) (out : List Pc), y = .int .i64 j ∧ j + k = n ∧ 1 ≤ j ∧ Leaned l out j ∧ Own 29 wr w.heap.size x out ∧ Below w.heap.size w wr)
    case atStart => exact ⟨1, [l[0]], rfl, by omega, by omega, LS.out, own_one _ B1.out.size l[0], B1.out.alloc B1.out.size _⟩
    case round =>
      obtain ⟨j, out, rfl, hk, hj1, hle, ho, hb⟩ := hrel
      have K := Lib.hid hk; have L := Lib.hid hle; have O := Lib.hid ho; have B := Lib.hid hb
      have hln := HN.out
      have hjn : j ≤ n := by omega
      have hp := hle.pos
      have hlej := hle.le
      obtain ⟨m, hm⟩ : ∃ m, out.length = m + 1 := ⟨out.length - 1, by omega⟩
      have hml : m < out.length := by omega
      have em : out.length - 1 = m := by omega
      have hjl : j < l.length := by omega
      have DPO : Hid (Dp out[m]) := Lib.hid (by have := hle.dp; simp only [em] at this; exact this)
      have lto : out[m].1 < l[j].1 ∧ out[m].2 < l[j].2 := by have := hle.lt hjl; simp only [em] at this; exact this
      clear hk hle hb
      by_cases hlt : j < n
      · obtain ⟨g', cap, rfl, hcap, hcapm, hBg, hgw, hpp⟩ := ho.at hp
        unfold maxLen at hcapm
        clear ho
        have hpm := hpp m hml
        have c5 := hpm.top; have c6 := hpm.bot
        have R1 := R0.out.grow B.out
        obtain ⟨c1, c2⟩ := R1.cells (j + 1) (by omega)
        obtain ⟨c3, c4⟩ := R1.cells j (by omega)
        have hgl : g < wr.heap.size := cell_below c1
        have dpj := Lib.hid (isCurve_dp HC.out j (by omega))
        have dpk := Lib.hid (isCurve_dp HC.out (j + 1) (by omega))
        have upj := isCurve_up HC.out j (by omega)
        have i1 : (j : Int) < (n : Int) := by omega
        have i2 : IntKind.i64.wrap ((j : Int) + 1) = (j : Int) + 1 := IntWalk.i64_in _ (by omega)
        have i3 : (0 : Int) ≤ (j : Int) + 1 := by omega
        have i4 : (j : Int) + 1 < (n : Int) + 1 := by omega
        have i5 : ((j : Int) + 1).toNat = j + 1 := by omega
        have i6 : (0 : Int) ≤ (j : Int) := by omega
        have i7 : (j : Int) < (n : Int) + 1 := by omega
        have t1 : IntKind.i64.wrap ((m : Int) + 1 - 1) = (m : Int) := by rw [show (m : Int) + 1 - 1 = m by omega]; exact IntWalk.i64_in _ (by omega)
        have t1' : IntKind.i64.wrap (m : Int) = (m : Int) := IntWalk.i64_in _ (by omega)
        have t2 : (0 : Int) ≤ (m : Int) := by omega
        have t3 : (m : Int) < (m : Int) + 1 := by omega
        have t4 : m < m + 1 := by omega
        rw [hm] at hcap
        rw [hm] at O
        rw [hm]
        have HM := Lib.hid hm
        clear hpp hpm R1 em hm
        cases hon : onL out[m] l[j] l[j + 1]
        · have HO := Lib.hid hon
          clear hon
          go_wp2_with fail
          go_region_held3 (fun w' => w'.cell? ⟨g', m * 2, none⟩ = some (.int .i64 out[m].1) ∧ w'.cell? ⟨g', m * 2 + 1, none⟩ = some (.int .i64 out[m].2) ∧ w'.cell? ⟨g, o + (j + 1) * 2, none⟩ = some (.int .i64 l[j + 1].1) ∧ w'.cell? ⟨g, o + (j + 1) * 2 + 1, none⟩ = some (.int .i64 l[j + 1].2) ∧ w'.cell? ⟨g, o + j * 2, none⟩ = some (.int .i64 l[j].1) ∧ w'.cell? ⟨g, o + j * 2 + 1, none⟩ = some (.int .i64 l[j].2))
            (first | go_keep | (go_split_ands; exact held6 hb6 ‹_› ‹_› ‹_› ‹_› ‹_› ‹_›))
            ((go_at_call 44; refine (l11Line_is DPO.out dpj.out dpk.out HO.out _).mono ?_; rintro e w6 ⟨rfl, hb6⟩))
          have B6 : Hid (Below wr.heap.size wr w6) := Lib.hid (Below.trans (by go_grown) (hb6.mono (by go_size)))
          have BW := Lib.hid (B.out.trans (B6.out.mono B.out.size))
          have O6 := Lib.hid (O.out.grow B6.out)
          replace c3 := (B6.out.cell (cell_below c3)).trans c3
          replace c4 := (B6.out.cell (cell_below c4)).trans c4
          obtain ⟨n1, n2⟩ := new_two w6 (.int .i64 l[j].1) (.int .i64 l[j].2) 29
          have N1 := Lib.hid n1; have N2 := Lib.hid n2
          have BA := Lib.hid ((Below.refl w6.heap.size w6).alloc (Nat.le_refl _) (.cells #[.int .i64 l[j].1, .int .i64 l[j].2] 29))
          clear hb6 n1 n2 c1 c2 c5 c6
          go_wp2_with (at_builtin; refine append_pair knotT rfl _ _ rfl (B := w.heap.size) _ _ rfl (O6.out.grow BA.out) ⟨w6.heap.size, 0, none⟩ l[j] rfl N1.out N2.out (by omega) (by have := BW.out.size; simp; omega) ?_; intro v7 w7 hown7 hg7)
          have O7 := Lib.hid hown7
          have B7 := Lib.hid (BW.out.trans ((BA.out.mono BW.out.size).trans ((O6.out.grow BA.out).below hg7 (by have := BW.out.size; simp; omega))))
          clear hown7 hg7
          go_wp2_with fail
          go_roundg (gk - 1)
          case measure => have := K.out; omega
          case rel => exact ⟨j + 1, out ++ [l[j]], by go_num, by have := K.out; omega, by omega, L.out.take' HC.out (by omega) HM.out HO.out, O7.out, B7.out⟩
        · have HO := Lib.hid hon
          clear hon
          go_wp2_with fail
          go_region_held3 (fun w' => w'.cell? ⟨g', m * 2, none⟩ = some (.int .i64 out[m].1) ∧ w'.cell? ⟨g', m * 2 + 1, none⟩ = some (.int .i64 out[m].2) ∧ w'.cell? ⟨g, o + (j + 1) * 2, none⟩ = some (.int .i64 l[j + 1].1) ∧ w'.cell? ⟨g, o + (j + 1) * 2 + 1, none⟩ = some (.int .i64 l[j + 1].2) ∧ w'.cell? ⟨g, o + j * 2, none⟩ = some (.int .i64 l[j].1) ∧ w'.cell? ⟨g, o + j * 2 + 1, none⟩ = some (.int .i64 l[j].2))
            (first | go_keep | (go_split_ands; exact held6 hb6 ‹_› ‹_› ‹_› ‹_› ‹_› ‹_›))
            ((go_at_call 44; refine (l11Line_is DPO.out dpj.out dpk.out HO.out _).mono ?_; rintro e w6 ⟨rfl, hb6⟩))
          have B6 : Hid (Below wr.heap.size wr w6) := Lib.hid (Below.trans (by go_grown) (hb6.mono (by go_size)))
          have BW := Lib.hid (B.out.trans (B6.out.mono B.out.size))
          have O6 := Lib.hid (O.out.grow B6.out)
          clear hb6 c1 c2 c5 c6
          go_wp2_with fail
          go_roundg (gk - 1)
          case measure => have := K.out; omega
          case rel => exact ⟨j + 1, out, by go_num, by have := K.out; omega, by omega, L.out.skip' HC.out (by omega) HM.out HO.out, O6.out, BW.out⟩
      · have hj : j = n := by omega
        subst hj
        obtain ⟨c3, c4⟩ := (R0.out.grow B.out).cells j (by omega)
        have i6 : (0 : Int) ≤ (j : Int) := by omega
        have i7 : (j : Int) < (j : Int) + 1 := by omega
        have i8 : j < j + 1 := by omega
        have hgl : g < wr.heap.size := cell_below c3
        obtain ⟨n1, n2⟩ := new_two wr (.int .i64 l[j].1) (.int .i64 l[j].2) 29
        have N1 := Lib.hid n1; have N2 := Lib.hid n2
        have BA := Lib.hid ((Below.refl wr.heap.size wr).alloc (Nat.le_refl _) (.cells #[.int .i64 l[j].1, .int .i64 l[j].2] 29))
        clear n1 n2 ho
        go_wp2_with (at_builtin; refine append_pair knotT rfl _ _ rfl (B := w.heap.size) _ _ rfl (O.out.grow BA.out) ⟨wr.heap.size, 0, none⟩ l[j] rfl N1.out N2.out (by omega) (by have := B.out.size; simp; omega) ?_; intro v7 w7 hown7 hg7)
        have O7 := Lib.hid hown7
        have B7 := Lib.hid (B.out.trans ((BA.out.mono B.out.size).trans ((O.out.grow BA.out).below hg7 (by have := B.out.size; simp; omega))))
        clear hown7 hg7
        go_wp2_with fail
        go_ret2
        rw [HT.out]
        refine ⟨_, rfl, ?_, B7.out⟩
        show Own 29 _ _ _ (leanL l)
        rw [L.out.last (by omega)]
        exact O7.out
end Go.Proofs.Ythpfehjjaamkkac
