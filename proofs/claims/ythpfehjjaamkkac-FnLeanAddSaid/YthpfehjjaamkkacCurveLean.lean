/- The contracts of the program's functions on curves: lean curves. -/
import Derived.Test.YthpfehjjaamkkacCurveTurn
import Derived.Test.YthpfehjjaamkkacLeanWay
namespace Go.Proofs.Ythpfehjjaamkkac
open Go.RowKit

theorem straight_part {w : World} {B : Nat} {c : Array Value} {p q : Pc} {n d : Int} (h : Straight w B (.func (.func 61) #[] c) p q) (hp : Dp p) (hq : Dp q) (h1 : p.1 < q.1) (h2 : p.2 < q.2) (hf : fv n d = true) (lo : (p.1 : Rat) ≤ fq n d) (hi : fq n d ≤ (q.1 : Rat)) :
    Calls Try.prog 61 (#[.agg #[.int .i64 n, .int .i64 d]] ++ c) w fun e w' => GotFrac true (seg p q (fq n d)) w w' e := by
  obtain ⟨c', e, hc⟩ := straight_any h hp hq h1 h2 hf lo hi (R := fun e w' => GotFrac true (seg p q (fq n d)) w w' e) (fun e w' hg => hg)
  simp only [Value.func.injEq, true_and] at e
  subst e
  exact hc
theorem straight_at {w : World} {B : Nat} {c : Array Value} {p q k : Pc} (h : Straight w B (.func (.func 61) #[] c) p q) (hp : Dp p) (hq : Dp q) (hk : Dp k) (h1 : p.1 < q.1) (h2 : p.2 < q.2) (lo : p.1 ≤ k.1) (hi : k.1 ≤ q.1) :
    Calls Try.prog 61 (#[.agg #[.int .i64 k.1, .int .i64 1]] ++ c) w fun e w' => ∃ n d ok, e = .returned (.tuple #[.agg #[.int .i64 n, .int .i64 d], .bool ok]) ∧ (ok && (n == k.2 && d == 1)) = onL p k q ∧ Below w.heap.size w w' := by
  have hf : fv k.1 1 = true := dp_fv hk.1 hk.2.1
  refine (straight_part h hp hq h1 h2 hf (by rw [fq_whole]; exact rat_le lo) (by rw [fq_whole]; exact rat_le hi)).mono ?_
  rintro e w' ⟨n, d, ok, rfl, hr, hb⟩
  rw [fq_whole] at hr
  exact ⟨n, d, ok, rfl, passes_is hk h1 hr, hb⟩

set_option maxHeartbeats 1600000 in
theorem passes_any {w : World} {B : Nat} {s : Value} {p q k : Pc} (h : Straight w B s p q) (hp : Dp p) (hq : Dp q) (hk : Dp k) (h1 : p.1 < q.1) (h2 : p.2 < q.2) (lo : p.1 ≤ k.1) (hi : k.1 ≤ q.1) :
    Calls Try.prog 43 #[s, .agg #[.int .i64 k.1, .int .i64 k.2]] w fun e w' => Val w (.bool (onL p k q)) e w' := by
  obtain ⟨b1, b2, b3, rfl⟩ := h.made
  have H := Lib.hid h; have HP := Lib.hid hp; have HQ := Lib.hid hq; have HK := Lib.hid hk
  clear h hp hq hk
  go_enter Try.func43, Try.ntmps43
  go_wp2_with fail
  refine (straight_at (H.out.grow (by go_grown)) HP.out HQ.out HK.out h1 h2 lo hi).mono ?_
  rintro e w1 ⟨n, d, ok, rfl, hr, b1'⟩
  obtain ⟨r0, r1, r2, r3⟩ := below_two w.heap.size (.int .i64 k.1) (.int .i64 k.2) b1' (by go_cell) (by go_cell) (by go_simp) (by go_simp)
  have B1 : Hid (Below w.heap.size w w1) := Lib.hid (Below.trans (by go_grown) (b1'.mono (by go_size)))
  have HR := Lib.hid hr
  have hl1 : w.heap.size < w1.heap.size := by have := b1'.size; simp at this; omega
  have ne1 : ¬ w1.heap.size = w.heap.size := by omega
  have ne2 : ¬ w.heap.size = w1.heap.size := by omega
  clear b1' hr
  cases ok
  · go_wp2_with fail
    go_ret
    exact ⟨by rw [← HR.out]; rfl, by have := B1.out; go_grown⟩
  · cases e1 : (n == k.2)
    all_goals cases e2 : (d == 1)
    all_goals
      go_wp2_with fail
      go_ret
      exact ⟨by rw [← HR.out, e1, e2]; rfl, by have := B1.out; go_grown⟩

theorem passes_is' {w : World} {B : Nat} {s : Value} {p q k : Pc} {b : Bool} (h : Straight w B s p q) (hp : Dp p) (hq : Dp q) (hk : Dp k) (h1 : p.1 < q.1) (h2 : p.2 < q.2) (lo : p.1 ≤ k.1) (hi : k.1 ≤ q.1) (hb : onL p k q = b) :
    Calls Try.prog 43 #[s, .agg #[.int .i64 k.1, .int .i64 k.2]] w fun e w' => Val w (.bool b) e w' := by
  subst hb; exact passes_any h hp hq hk h1 h2 lo hi
theorem held6 {w w' : World} {a b c d e f : Addr} {u v x y z t : Value} (h : Below w.heap.size w w') (h1 : w.cell? a = some u) (h2 : w.cell? b = some v) (h3 : w.cell? c = some x) (h4 : w.cell? d = some y) (h5 : w.cell? e = some z) (h6 : w.cell? f = some t) :
    w'.cell? a = some u ∧ w'.cell? b = some v ∧ w'.cell? c = some x ∧ w'.cell? d = some y ∧ w'.cell? e = some z ∧ w'.cell? f = some t :=
  ⟨(h.cell (cell_below h1)).trans h1, (h.cell (cell_below h2)).trans h2, (h.cell (cell_below h3)).trans h3, (h.cell (cell_below h4)).trans h4, (h.cell (cell_below h5)).trans h5, (h.cell (cell_below h6)).trans h6⟩
set_option maxRecDepth 100000 in
set_option maxHeartbeats 3200000 in
theorem implCurveLean_any {w : World} {v : Value} {l : List Pc} (h : Row w v l) :
    Calls Try.prog 13 #[v] w fun e w' => LstB 29 w (leanOf l) e w' := by
  obtain ⟨a, c, rfl, h1, h2⟩ := h.len
  have R0 := Lib.hid h
  unfold maxLen at h2
  clear h
  cases hc : isCurve l
  · have HC := Lib.hid hc
    have HT := Lib.hid (leanOf_no hc)
    clear hc
    go_enter Try.func13, Try.ntmps13
    go_wp2_with fail
    refine (curve_is R0.out HC.out).mono ?_
    rintro e w1 ⟨rfl, b1⟩
    go_wp2_with fail
    go_ret2
    rw [HT.out]
    exact ⟨_, rfl, own_new _ b1.size, b1.alloc b1.size _⟩
  · have HC := Lib.hid hc
    have HT := Lib.hid (leanOf_is hc)
    have h12 : l.length ≤ 12 := (isCurve_steps.1 hc).2.1
    have h02 : 2 ≤ l.length := (isCurve_steps.1 hc).1
    have LS := Lib.hid (leaned_start hc (by omega))
    clear hc
    obtain ⟨g, o, c', e', _, _⟩ := R0.out.known (by omega)
    simp only [Value.slice.injEq] at e'
    obtain ⟨rfl, -, rfl⟩ := e'
    obtain ⟨n, hn⟩ : ∃ n, l.length = n + 1 := ⟨l.length - 1, by omega⟩
    have HN := Lib.hid hn
    have z0 : 0 < l.length := by omega
    obtain ⟨d1, d2⟩ := R0.out.cells 0 z0
    simp only [Nat.zero_mul, Nat.add_zero] at d1 d2
    rw [hn]
    rw [hn] at R0
    have hn1 : 1 ≤ n := by omega
    have s1 : (0 : Int) < (n : Int) + 1 := by omega
    have s1' : 0 < n + 1 := by omega
    have s2 : IntKind.i64.wrap ((n : Int) + 1 - 1) = (n : Int) := by rw [show (n : Int) + 1 - 1 = n by omega]; exact IntWalk.i64_in _ (by omega)
    have s2' : IntKind.i64.wrap (n : Int) = (n : Int) := IntWalk.i64_in _ (by omega)
    clear hn
    go_enter Try.func13, Try.ntmps13
    go_wp2_with fail
    refine (curve_is R0.out HC.out).mono ?_
    rintro e w1 ⟨rfl, b1⟩
    replace d1 := (b1.cell (cell_below d1)).trans d1
    replace d2 := (b1.cell (cell_below d2)).trans d2
    have B1 := Lib.hid b1
    clear b1
    go_wp2_with fail
    go_loopg [5, 6] (n - 1) (fun k x y wr => ∃ (j : Nat) (out : List Pc), y = .int .i64 j ∧ j + k = n ∧ 1 ≤ j ∧ Leaned l out j ∧ Own 29 wr w.heap.size x out ∧ Below w.heap.size w wr)
    case atStart => exact ⟨1, [l[0]], rfl, by omega, by omega, LS.out, own_one _ B1.out.size l[0], B1.out.alloc B1.out.size _⟩
    case round =>
      obtain ⟨j, out, rfl, hk, hj1, hle, ho, hb⟩ := hrel
      have K := Lib.hid hk; have L := Lib.hid hle; have O := Lib.hid ho; have B := Lib.hid hb
      have hln := HN.out
      have hjn : j ≤ n := by omega
      have hp := hle.pos
      have hlej := hle.le
      obtain ⟨m, hm⟩ : ∃ m, out.length = m + 1 := ⟨out.length - 1, by omega⟩
      have hml : m < out.length := by omega
      have em : out.length - 1 = m := by omega
      have hjl : j < l.length := by omega
      have DPO : Hid (Dp out[m]) := Lib.hid (by have := hle.dp; simp only [em] at this; exact this)
      have lto : out[m].1 < l[j].1 ∧ out[m].2 < l[j].2 := by have := hle.lt hjl; simp only [em] at this; exact this
      clear hk hle hb
      by_cases hlt : j < n
      · obtain ⟨g', cap, rfl, hcap, hcapm, hBg, hgw, hpp⟩ := ho.at hp
        unfold maxLen at hcapm
        clear ho
        have hpm := hpp m hml
        have c5 := hpm.top; have c6 := hpm.bot
        have R1 := R0.out.grow B.out
        obtain ⟨c1, c2⟩ := R1.cells (j + 1) (by omega)
        obtain ⟨c3, c4⟩ := R1.cells j (by omega)
        have hgl : g < wr.heap.size := cell_below c1
        have dpj := Lib.hid (isCurve_dp HC.out j (by omega))
        have dpk := Lib.hid (isCurve_dp HC.out (j + 1) (by omega))
        have upj := isCurve_up HC.out j (by omega)
        have i1 : (j : Int) < (n : Int) := by omega
        have i2 : IntKind.i64.wrap ((j : Int) + 1) = (j : Int) + 1 := IntWalk.i64_in _ (by omega)
        have i3 : (0 : Int) ≤ (j : Int) + 1 := by omega
        have i4 : (j : Int) + 1 < (n : Int) + 1 := by omega
        have i5 : ((j : Int) + 1).toNat = j + 1 := by omega
        have i6 : (0 : Int) ≤ (j : Int) := by omega
        have i7 : (j : Int) < (n : Int) + 1 := by omega
        have t1 : IntKind.i64.wrap ((m : Int) + 1 - 1) = (m : Int) := by rw [show (m : Int) + 1 - 1 = m by omega]; exact IntWalk.i64_in _ (by omega)
        have t1' : IntKind.i64.wrap (m : Int) = (m : Int) := IntWalk.i64_in _ (by omega)
        have t2 : (0 : Int) ≤ (m : Int) := by omega
        have t3 : (m : Int) < (m : Int) + 1 := by omega
        have t4 : m < m + 1 := by omega
        rw [hm] at hcap
        rw [hm] at O
        rw [hm]
        have HM := Lib.hid hm
        clear hpp hpm R1 em hm
        cases hon : onL out[m] l[j] l[j + 1]
        · have HO := Lib.hid hon
          clear hon
          go_wp2_with fail
          go_region_held3 (fun w' => w'.cell? ⟨wr.heap.size, 0, none⟩ = some (.int .i64 out[m].1) ∧ w'.cell? ⟨wr.heap.size, 1, none⟩ = some (.int .i64 out[m].2) ∧ w'.cell? ⟨g, o + (j + 1) * 2, none⟩ = some (.int .i64 l[j + 1].1) ∧ w'.cell? ⟨g, o + (j + 1) * 2 + 1, none⟩ = some (.int .i64 l[j + 1].2) ∧ w'.cell? ⟨g, o + j * 2, none⟩ = some (.int .i64 l[j].1) ∧ w'.cell? ⟨g, o + j * 2 + 1, none⟩ = some (.int .i64 l[j].2))
            (first | go_keep | (go_split_ands; exact held6 hb5 ‹_› ‹_› ‹_› ‹_› ‹_› ‹_›) | (go_split_ands; exact held6 hb6 ‹_› ‹_› ‹_› ‹_› ‹_› ‹_›))
            (first | (go_at_call 42; refine (straightBetween_any (p := out[m]) (q := l[j + 1]) _ DPO.out dpk.out).mono ?_; rintro e w5 ⟨s5, rfl, hs5, hb5⟩) | (go_at_call 43; refine (passes_is' (hs5.grow (by go_grown)) DPO.out dpk.out dpj.out (by omega) (by omega) (by omega) (by omega) HO.out).mono ?_; rintro e w6 ⟨rfl, hb6⟩))
          have B5 : Hid (Below wr.heap.size wr w5) := Lib.hid (Below.trans (by go_grown) (hb5.mono (by go_size)))
          have B6 : Hid (Below wr.heap.size wr w6) := Lib.hid (B5.out.trans (hb6.mono B5.out.size))
          have BW := Lib.hid (B.out.trans (B6.out.mono B.out.size))
          have O6 := Lib.hid (O.out.grow B6.out)
          replace c3 := (B6.out.cell (cell_below c3)).trans c3
          replace c4 := (B6.out.cell (cell_below c4)).trans c4
          obtain ⟨n1, n2⟩ := new_two w6 (.int .i64 l[j].1) (.int .i64 l[j].2) 29
          have N1 := Lib.hid n1; have N2 := Lib.hid n2
          have BA := Lib.hid ((Below.refl w6.heap.size w6).alloc (Nat.le_refl _) (.cells #[.int .i64 l[j].1, .int .i64 l[j].2] 29))
          clear hb5 hb6 hs5 n1 n2 c1 c2 c5 c6
          go_wp2_with (at_builtin; refine append_pair knotT rfl _ _ rfl (B := w.heap.size) _ _ rfl (O6.out.grow BA.out) ⟨w6.heap.size, 0, none⟩ l[j] rfl N1.out N2.out (by omega) (by have := BW.out.size; simp; omega) ?_; intro v7 w7 hown7 hg7)
          have O7 := Lib.hid hown7
          have B7 := Lib.hid (BW.out.trans ((BA.out.mono BW.out.size).trans ((O6.out.grow BA.out).below hg7 (by have := BW.out.size; simp; omega))))
          clear hown7 hg7
          go_wp2_with fail
          go_roundg (gk - 1)
          case measure => have := K.out; omega
          case rel => exact ⟨j + 1, out ++ [l[j]], by go_num, by have := K.out; omega, by omega, L.out.take' HC.out (by omega) HM.out HO.out, O7.out, B7.out⟩
        · have HO := Lib.hid hon
          clear hon
          go_wp2_with fail
          go_region_held3 (fun w' => w'.cell? ⟨wr.heap.size, 0, none⟩ = some (.int .i64 out[m].1) ∧ w'.cell? ⟨wr.heap.size, 1, none⟩ = some (.int .i64 out[m].2) ∧ w'.cell? ⟨g, o + (j + 1) * 2, none⟩ = some (.int .i64 l[j + 1].1) ∧ w'.cell? ⟨g, o + (j + 1) * 2 + 1, none⟩ = some (.int .i64 l[j + 1].2) ∧ w'.cell? ⟨g, o + j * 2, none⟩ = some (.int .i64 l[j].1) ∧ w'.cell? ⟨g, o + j * 2 + 1, none⟩ = some (.int .i64 l[j].2))
            (first | go_keep | (go_split_ands; exact held6 hb5 ‹_› ‹_› ‹_› ‹_› ‹_› ‹_›) | (go_split_ands; exact held6 hb6 ‹_› ‹_› ‹_› ‹_› ‹_› ‹_›))
            (first | (go_at_call 42; refine (straightBetween_any (p := out[m]) (q := l[j + 1]) _ DPO.out dpk.out).mono ?_; rintro e w5 ⟨s5, rfl, hs5, hb5⟩) | (go_at_call 43; refine (passes_is' (hs5.grow (by go_grown)) DPO.out dpk.out dpj.out (by omega) (by omega) (by omega) (by omega) HO.out).mono ?_; rintro e w6 ⟨rfl, hb6⟩))
          have B5 : Hid (Below wr.heap.size wr w5) := Lib.hid (Below.trans (by go_grown) (hb5.mono (by go_size)))
          have B6 : Hid (Below wr.heap.size wr w6) := Lib.hid (B5.out.trans (hb6.mono B5.out.size))
          have BW := Lib.hid (B.out.trans (B6.out.mono B.out.size))
          have O6 := Lib.hid (O.out.grow B6.out)
          clear hb5 hb6 hs5 c1 c2 c5 c6
          go_wp2_with fail
          go_roundg (gk - 1)
          case measure => have := K.out; omega
          case rel => exact ⟨j + 1, out, by go_num, by have := K.out; omega, by omega, L.out.skip' HC.out (by omega) HM.out HO.out, O6.out, BW.out⟩
      · have hj : j = n := by omega
        subst hj
        obtain ⟨c3, c4⟩ := (R0.out.grow B.out).cells j (by omega)
        have i6 : (0 : Int) ≤ (j : Int) := by omega
        have i7 : (j : Int) < (j : Int) + 1 := by omega
        have i8 : j < j + 1 := by omega
        have hgl : g < wr.heap.size := cell_below c3
        obtain ⟨n1, n2⟩ := new_two wr (.int .i64 l[j].1) (.int .i64 l[j].2) 29
        have N1 := Lib.hid n1; have N2 := Lib.hid n2
        have BA := Lib.hid ((Below.refl wr.heap.size wr).alloc (Nat.le_refl _) (.cells #[.int .i64 l[j].1, .int .i64 l[j].2] 29))
        clear n1 n2 ho
        go_wp2_with (at_builtin; refine append_pair knotT rfl _ _ rfl (B := w.heap.size) _ _ rfl (O.out.grow BA.out) ⟨wr.heap.size, 0, none⟩ l[j] rfl N1.out N2.out (by omega) (by have := B.out.size; simp; omega) ?_; intro v7 w7 hown7 hg7)
        have O7 := Lib.hid hown7
        have B7 := Lib.hid (B.out.trans ((BA.out.mono B.out.size).trans ((O.out.grow BA.out).below hg7 (by have := B.out.size; simp; omega))))
        clear hown7 hg7
        go_wp2_with fail
        go_ret2
        rw [HT.out]
        refine ⟨_, rfl, ?_, B7.out⟩
        show Own 29 _ _ _ (leanL l)
        rw [L.out.last (by omega)]
        exact O7.out
end Go.Proofs.Ythpfehjjaamkkac
