/- The contract of the model's merging of layers. -/
import Derived.Test.YtbjeedeapioljacLaySpec
import Derived.Test.YtbjeedeapioljacRegion
namespace Go.Proofs.Ytbjeedeapioljac
open Go.RowKit

theorem layI : LayT 62 23 := ⟨by kernel_rfl, by kernel_rfl⟩
theorem step_append_lay {T S : TypeId} (PT : LayT T S) {w : World} {ops : Array Oper} {o : Oper} {a : Act} {K : Act → World → Prop} {Q : Exit → Act → World → Prop} {E : Prop} (hgd : o.guard = none) (s x : Operand)
    (ho : o.op = .call { callee := .builtin .append, args := #[s, x], argTypes := #[S, S] }) {B : Nat} (v : Value) (m : LL) (hs : a.eval s = v) (hown : LOwn T w B v m)
    (ad : Addr) (p : Ly) (hx : a.eval x = .slice (some ad) 1 1) (h0 : w.cell? (ad.add 0) = some (.int .i64 p.1)) (h1 : w.cell? (ad.add 1) = some (.bool p.2)) (hm : m.length ≤ 1000000) (hB : B ≤ w.heap.size)
    (h : ∀ v' w', LOwn T w' B v' (m ++ [p]) → w.grownBy w' v.ownBlock → K (a.put o.dst v') w') : if Region.wanted o (yielded ops a.tmps) = true then Oper.wp Try.prog o a w K Q else E := by
  obtain ⟨i0, hi, hz0, hz1, hz2⟩ := info_parts PT.info
  have hw : Region.wanted o (yielded ops a.tmps) = true := by simp [Region.wanted, hgd]
  rw [if_pos hw]
  refine wp_append_own w s x S ho B T i0 (.agg #[.int .i64 0, .bool false]) 2 16 PT.slice hi hz0 hz1 hz2 rfl (by decide) v m.length (cellsL m) hs hown
    ad 1 1 (cellsL [p]) hx (by simp [cellsL]) (fun j u hj => by
      match j, hj with
      | 0, hj => cases hj; exact h0
      | 1, hj => cases hj; exact h1) (cellsL_one [p]) (by unfold maxLen; omega) (by omega) hB ?_
  intro v' w' h2 h3 _
  refine h v' w' ?_ h3
  show w'.ownsRow B _ 2 v' (m ++ [p]).length (cellsL (m ++ [p]))
  rw [cellsL_append, List.length_append]
  exact h2

/-- What has been laid of two lists, and what is still to come. -/
def Mgd (a b : LL) (i k : Nat) (out : LL) : Prop := out ++ mg (a.drop i) (b.drop k) = mg a b
theorem mgd_start (a b : LL) : Mgd a b 0 0 [] := rfl
theorem drop_at {l : LL} {i : Nat} (hi : i < l.length) : l.drop i = l[i] :: l.drop (i + 1) := List.drop_eq_getElem_cons hi
theorem Mgd.a1 {a b out : LL} {i k : Nat} (h : Mgd a b i k out) (hi : i < a.length) (hk : b.length ≤ k) : Mgd a b (i + 1) k (out ++ [a[i]]) := by
  unfold Mgd at h ⊢
  rw [List.drop_eq_nil_of_le hk, mg_nil] at h ⊢
  rw [List.append_assoc, List.singleton_append, ← drop_at hi]; exact h
theorem Mgd.a2 {a b out : LL} {i k : Nat} (h : Mgd a b i k out) (hi : i < a.length) (hk : k < b.length) (hl : a[i].1 < b[k].1) : Mgd a b (i + 1) k (out ++ [a[i]]) := by
  unfold Mgd at h ⊢
  rw [drop_at hi, drop_at hk, mg_lt _ _ hl, ← drop_at hk] at h
  rw [List.append_assoc, List.singleton_append]; exact h
theorem Mgd.b1 {a b out : LL} {i k : Nat} (h : Mgd a b i k out) (hi : a.length ≤ i) (hk : k < b.length) : Mgd a b i (k + 1) (out ++ [b[k]]) := by
  unfold Mgd at h ⊢
  rw [List.drop_eq_nil_of_le hi, nil_mg] at h ⊢
  rw [List.append_assoc, List.singleton_append, ← drop_at hk]; exact h
theorem Mgd.b2 {a b out : LL} {i k : Nat} (h : Mgd a b i k out) (hi : i < a.length) (hk : k < b.length) (hl : b[k].1 < a[i].1) : Mgd a b i (k + 1) (out ++ [b[k]]) := by
  unfold Mgd at h ⊢
  rw [drop_at hi, drop_at hk, mg_gt _ _ hl, ← drop_at hi] at h
  rw [List.append_assoc, List.singleton_append]; exact h
theorem Mgd.e {a b out : LL} {i k : Nat} (h : Mgd a b i k out) (hi : i < a.length) (hk : k < b.length) (hl : a[i].1 = b[k].1) : Mgd a b (i + 1) (k + 1) (out ++ [(a[i].1, a[i].2 || b[k].2)]) := by
  unfold Mgd at h ⊢
  rw [drop_at hi, drop_at hk, mg_eq _ _ hl] at h
  rw [List.append_assoc, List.singleton_append]; exact h
theorem Mgd.done {a b out : LL} {i k : Nat} (h : Mgd a b i k out) (hi : a.length ≤ i) (hk : b.length ≤ k) : out = mg a b := by
  unfold Mgd at h
  rwa [List.drop_eq_nil_of_le hk, List.drop_eq_nil_of_le hi, mg_nil, List.append_nil] at h
theorem Mgd.len {a b out : LL} {i k : Nat} (h : Mgd a b i k out) (ha : a.length ≤ 40) (hb : b.length ≤ 40) : out.length ≤ 80 := by
  have := mg_length a b
  have e := congrArg List.length (show _ = _ from h)
  rw [List.length_append] at e
  omega
theorem mgOf_a {a b : LL} (h : isLay a = false) : mgOf a b = none := if_neg (by rw [h]; simp)
theorem mgOf_b {a b : LL} (h : isLay b = false) : mgOf a b = none := if_neg (by rw [h]; simp)
theorem mgOf_no {a b : LL} (h : isLay (mg a b) = false) : mgOf a b = none := if_neg (by rw [h]; simp)
theorem mgOf_yes {a b : LL} (h1 : isLay a = true) (h2 : isLay b = true) (h : isLay (mg a b) = true) : mgOf a b = some (mg a b) := if_pos ⟨h1, h2, h⟩

set_option maxRecDepth 100000 in
set_option maxHeartbeats 4000000 in
theorem specMerge_any {w : World} {va vb : Value} {a b : LL} (ha : LRow w va a) (hb : LRow w vb b) :
    Calls Try.prog 23 #[va, vb] w fun e w' => LLstB 62 w (mgOf a b) e w' := by
  have HA := Lib.hid ha; have HB := Lib.hid hb
  obtain ⟨aa, ca, rfl, h1, h2, la⟩ := ha.parts
  obtain ⟨ab, cb, rfl, h3, h4, lb⟩ := hb.parts
  have LA := Lib.hid la; have LB := Lib.hid lb
  unfold maxLen at h2 h4
  have BE : Hid (Below w.heap.size w (w.alloc (.cells #[] 62))) := Lib.hid ((Below.refl _ _).alloc (Nat.le_refl _) _)
  have OE := Lib.hid (lown_new 62 (Nat.le_refl w.heap.size))
  clear ha hb la lb
  cases hv : isLay a
  · have VA := Lib.hid hv
    clear hv
    go_enter Try.func23, Try.ntmps23
    go_wp2_with fail
    refine (specValid_is (HA.out.grow BE.out) VA.out).mono ?_
    rintro e w1 ⟨rfl, b1⟩
    have B1 := Lib.hid b1
    clear b1
    go_wp2_with fail
    go_ret2
    rw [mgOf_a VA.out]
    exact ⟨_, rfl, OE.out.grow B1.out, BE.out.trans (B1.out.mono BE.out.size)⟩
  have VA := Lib.hid hv
  clear hv
  cases hv : isLay b
  · have VB := Lib.hid hv
    clear hv
    go_enter Try.func23, Try.ntmps23
    go_wp2_with fail
    refine (specValid_is (HA.out.grow BE.out) VA.out).mono ?_
    rintro e w1 ⟨rfl, b1⟩
    have B1 := Lib.hid b1
    clear b1
    go_wp2_with fail
    refine (specValid_is ((HB.out.grow BE.out).grow B1.out) VB.out).mono ?_
    rintro e w2 ⟨rfl, b2⟩
    have B2 := Lib.hid b2
    clear b2
    go_wp2_with fail
    go_ret2
    rw [mgOf_b VB.out]
    exact ⟨_, rfl, (OE.out.grow B1.out).grow B2.out, BE.out.trans ((B1.out.trans (B2.out.mono B1.out.size)).mono BE.out.size)⟩
  have VB := Lib.hid hv
  have ha40 := lay_len VA.out; have hb40 := lay_len VB.out
  clear hv
  go_enter Try.func23, Try.ntmps23
  go_wp2_with fail
  refine (specValid_is (HA.out.grow BE.out) VA.out).mono ?_
  rintro e w1 ⟨rfl, b1⟩
  have B1 := Lib.hid b1
  clear b1
  go_wp2_with fail
  refine (specValid_is ((HB.out.grow BE.out).grow B1.out) VB.out).mono ?_
  rintro e w2 ⟨rfl, b2⟩
  have B2 := Lib.hid (BE.out.trans ((B1.out.trans (b2.mono B1.out.size)).mono BE.out.size))
  have O2 := Lib.hid ((OE.out.grow B1.out).grow b2)
  clear b2
  go_wp2_with fail
  go_loopg [6, 7, 8] (a.length + b.length) (fun gk x y z wr => ∃ (i k : Nat) (out : LL), y = .int .i64 i ∧ z = .int .i64 k ∧ i ≤ a.length ∧ k ≤ b.length ∧ (a.length - i) + (b.length - k) ≤ gk ∧ LOwn 62 wr w.heap.size x out ∧ Mgd a b i k out ∧ Below w.heap.size w wr)
  case atStart => exact ⟨0, 0, [], rfl, rfl, by omega, by omega, by omega, O2.out, mgd_start a b, B2.out⟩
  case round =>
    obtain ⟨i, k, out, rfl, rfl, hi, hk, hg, ho, hm, hbw⟩ := hrel
    have K := Lib.hid hg; have O := Lib.hid ho; have MM := Lib.hid hm; have B := Lib.hid hbw
    have ho80 := MM.out.len ha40 hb40
    have hsz := B.out.size
    clear hg ho hm hbw
    by_cases qi : i < a.length
    · obtain ⟨ga, oa, rfl, x1, x2⟩ := llies_cell LA.out i qi
      have e1 := (B.out.cell (cell_below x1)).trans x1
      have e2 := (B.out.cell (cell_below x2)).trans x2
      have ltI : (i : Int) < (a.length : Int) := by omega
      have i0 : (0 : Int) ≤ (i : Int) := by omega
      have neI : ((i : Int) == (a.length : Int)) = false := by simp; omega
      by_cases qk : k < b.length
      · obtain ⟨gb, ob, rfl, y1, y2⟩ := llies_cell LB.out k qk
        have f1 := (B.out.cell (cell_below y1)).trans y1
        have f2 := (B.out.cell (cell_below y2)).trans y2
        have ltK : (k : Int) < (b.length : Int) := by omega
        have k0 : (0 : Int) ≤ (k : Int) := by omega
        have hgl : ga < w.heap.size := cell_below x1
        have hgm : gb < w.heap.size := cell_below y1
        clear x1 x2 y1 y2
        have neK : ((k : Int) == (b.length : Int)) = false := by simp; omega
        by_cases q1 : a[i].1 < b[k].1
        · have d1 : decide (a[i].1 < b[k].1) = true := by simpa using q1
          go_wp2_with fail
          go_quiet (fail)
          have b3 := below_drews (Below.refl wr.heap.size wr) nq
          have B3 := B.out.trans (b3.mono B.out.size)
          have hown := O.out.grow b3
          have z1 := (b3.cell (cell_below e1)).trans e1
          have z2 := (b3.cell (cell_below e2)).trans e2
          clear b3 e1 e2 f1 f2
          generalize wr.drewN nq = w3 at B3 hown z1 z2 ⊢
          obtain ⟨n1, n2⟩ := new_two w3 (.int .i64 a[i].1) (.bool a[i].2) 62
          have N1 := Lib.hid n1; have N2 := Lib.hid n2; have B4 := Lib.hid B3; have O4 := Lib.hid hown
          have BA : Hid (Below w3.heap.size w3 (w3.alloc (.cells #[.int .i64 a[i].1, .bool a[i].2] 62))) := Lib.hid ((Below.refl _ _).alloc (Nat.le_refl _) _)
          have hw3 : w.heap.size ≤ w3.heap.size := B3.size
          clear n1 n2 B3 hown
          go_wp2_with (at_builtin; refine lappend_lay layI rfl _ _ rfl (B := w.heap.size) _ _ rfl (O4.out.grow BA.out) ⟨w3.heap.size, 0, none⟩ a[i] rfl N1.out N2.out (by omega) (by simp; omega) ?_; intro v7 w7 hown7 hg7)
          have O7 := Lib.hid hown7
          have B7 := Lib.hid ((B4.out.alloc hw3 _).grown hg7 (by simp; omega) (fun k hk => (O4.out.lt k hk).1))
          clear hown7 hg7
          go_wp2_with fail
          go_roundg (gk - 1)
          case measure => have := K.out; omega
          case rel => exact ⟨i + 1, k, out ++ [a[i]], by go_num, rfl, by omega, by omega, by have := K.out; omega, O7.out, MM.out.a2 qi qk q1, B7.out⟩
        have d1 : decide (a[i].1 < b[k].1) = false := by simpa using q1
        by_cases q2 : b[k].1 < a[i].1
        · have d2 : decide (b[k].1 < a[i].1) = true := by simpa using q2
          go_wp2_with fail
          go_quiet (fail)
          rename Nat => nA
          go_wp2_with fail
          go_quiet (fail)
          rename Nat => nB
          have b3 := below_drews (below_drews (Below.refl wr.heap.size wr) nA) nB
          have B3 := B.out.trans (b3.mono B.out.size)
          have hown := O.out.grow b3
          have z1 := (b3.cell (cell_below f1)).trans f1
          have z2 := (b3.cell (cell_below f2)).trans f2
          clear b3 e1 e2 
          generalize (wr.drewN nA).drewN nB = w3 at B3 hown z1 z2 ⊢
          obtain ⟨n1, n2⟩ := new_two w3 (.int .i64 b[k].1) (.bool b[k].2) 62
          have N1 := Lib.hid n1; have N2 := Lib.hid n2; have B4 := Lib.hid B3; have O4 := Lib.hid hown
          have BA : Hid (Below w3.heap.size w3 (w3.alloc (.cells #[.int .i64 b[k].1, .bool b[k].2] 62))) := Lib.hid ((Below.refl _ _).alloc (Nat.le_refl _) _)
          have hw3 : w.heap.size ≤ w3.heap.size := B3.size
          clear n1 n2 B3 hown
          go_wp2_with (at_builtin; refine lappend_lay layI rfl _ _ rfl (B := w.heap.size) _ _ rfl (O4.out.grow BA.out) ⟨w3.heap.size, 0, none⟩ b[k] rfl N1.out N2.out (by omega) (by simp; omega) ?_; intro v7 w7 hown7 hg7)
          have O7 := Lib.hid hown7
          have B7 := Lib.hid ((B4.out.alloc hw3 _).grown hg7 (by simp; omega) (fun k hk => (O4.out.lt k hk).1))
          clear hown7 hg7
          go_wp2_with fail
          go_roundg (gk - 1)
          case measure => have := K.out; omega
          case rel => exact ⟨i, k + 1, out ++ [b[k]], rfl, by go_num, by omega, by omega, by have := K.out; omega, O7.out, MM.out.b2 qi qk q2, B7.out⟩
        have d2 : decide (b[k].1 < a[i].1) = false := by simpa using q2
        have q3 : a[i].1 = b[k].1 := by omega
        go_wp2_with fail
        go_quiet (fail)
        rename Nat => nA
        go_wp2_with fail
        go_quiet (fail)
        rename Nat => nB
        have b3 := below_drews (below_drews (Below.refl wr.heap.size wr) nA) nB
        have B3 := B.out.trans (b3.mono B.out.size)
        have hown := O.out.grow b3
        have z1 := (b3.cell (cell_below e1)).trans e1
        have z2 := (b3.cell (cell_below e2)).trans e2
        have y1 := (b3.cell (cell_below f1)).trans f1
        have y2 := (b3.cell (cell_below f2)).trans f2
        have hsz3 := b3.size
        have EQ := Lib.hid q3
        clear b3 e1 e2 f1 f2 q1 q2 q3 d1 d2
        generalize (wr.drewN nA).drewN nB = w3 at B3 hown z1 z2 y1 y2 hsz3 ⊢
        have B4 := Lib.hid B3; have O4 := Lib.hid hown
        have hw3 : w.heap.size ≤ w3.heap.size := B3.size
        have hna : u6.ownBlock ≠ some ga := fun e => by have := (hown.lt ga e).1; omega
        have hnb : u6.ownBlock ≠ some gb := fun e => by have := (hown.lt gb e).1; omega
        clear B3 hown
        cases hsv : a[i].2
        · rw [hsv] at z2
          have E := Lib.hid (MM.out.e qi qk EQ.out)
          rw [hsv, Bool.false_or] at E
          clear hsv
          go_wp2_with fail
          refine wp_region_held_drew (S := (fun w' => Below w.heap.size w w' ∧ w'.cell? ⟨ga, oa + i * 2, none⟩ = some (.int .i64 a[i].1) ∧ w'.cell? ⟨ga, oa + i * 2 + 1, none⟩ = some (.bool false) ∧ w'.cell? ⟨gb, ob + k * 2 + 1, none⟩ = some (.bool b[k].2))) (by kernel_rfl) (by exact ⟨B4.out.drew, z1, z2, y2⟩) (fun hHeld => ?_)
          refine take_h 0 29 rfl rfl (by kernel_rfl) (by kernel_rfl) (by kernel_rfl) (fun _ _ _ h => h) (by kernel_rfl) (by intro w hSw; (try dsimp only at hSw); go_simp; try with_reducible rfl) (by assumption) ?_
          refine take_h 1 30 rfl rfl (by kernel_rfl) (by kernel_rfl) (by kernel_rfl) (fun _ _ _ h => h) (by kernel_rfl) (by intro w hSw; (try dsimp only at hSw); go_simp; try with_reducible rfl) (by assumption) ?_
          refine take_h 2 31 rfl rfl (by kernel_rfl) (by kernel_rfl) (by kernel_rfl) (fun _ _ _ h => h) (by kernel_rfl) (by intro w hSw; (try dsimp only at hSw); go_simp; try with_reducible rfl) (by assumption) ?_
          refine take_h 3 32 rfl rfl (by kernel_rfl) (by kernel_rfl) (by kernel_rfl) (fun _ _ _ h => h) (by kernel_rfl) (by intro w hSw; (try dsimp only at hSw); go_simp; try with_reducible rfl) (by assumption) ?_
          refine take_h 4 33 rfl rfl (by kernel_rfl) (by kernel_rfl) (by kernel_rfl) (fun _ _ _ h => h) (by kernel_rfl) (by intro w hSw; (try dsimp only at hSw); go_simp; try with_reducible rfl) (by assumption) ?_
          refine take_h 5 34 rfl rfl (by kernel_rfl) (by kernel_rfl) (by kernel_rfl) (fun _ _ _ h => h) (by kernel_rfl) (by intro w hSw; (try dsimp only at hSw); go_simp; try with_reducible rfl) (by assumption) ?_
          refine take_h 6 35 rfl rfl (by kernel_rfl) (by kernel_rfl) (by kernel_rfl) (fun _ _ _ h => h) (by kernel_rfl) (by intro w hSw; (try dsimp only at hSw); go_simp; try with_reducible rfl) (by assumption) ?_
          refine take_h 7 36 rfl rfl (by kernel_rfl) (by kernel_rfl) (by kernel_rfl) (fun _ _ _ h => h) (by kernel_rfl) (by intro w hSw; (try dsimp only at hSw); go_simp; try with_reducible rfl) (by assumption) ?_
          refine take_h 8 37 rfl rfl (by kernel_rfl) (by kernel_rfl) (by kernel_rfl) (fun _ _ _ h => h) (by kernel_rfl) (by intro w hSw; (try dsimp only at hSw); go_simp; try with_reducible rfl) (by assumption) ?_
          refine take_h 9 38 rfl rfl (by kernel_rfl) (by kernel_rfl) (by kernel_rfl) (fun _ _ _ h => h) (by kernel_rfl) (by intro w hSw; (try dsimp only at hSw); go_simp; try with_reducible rfl) (by assumption) ?_
          refine take_h 10 39 rfl rfl (by kernel_rfl) (by kernel_rfl) (by kernel_rfl) (fun _ _ _ h => h) (by kernel_rfl) (by intro w hSw; (try dsimp only at hSw); go_simp; try with_reducible rfl) (by assumption) ?_
          refine take_h 11 40 rfl rfl (by kernel_rfl) (by kernel_rfl) (by kernel_rfl) (fun _ _ _ h => h) (by kernel_rfl) (by intro w hSw; (try dsimp only at hSw); go_simp; try with_reducible rfl) (by assumption) ?_
          refine take_h 12 41 rfl rfl (by kernel_rfl) (by kernel_rfl) (by kernel_rfl) (fun _ _ _ h => h) (by kernel_rfl) (by intro w hSw; (try dsimp only at hSw); go_simp; try with_reducible rfl) (by assumption) ?_
          refine take_h 13 42 rfl rfl (by kernel_rfl) (by kernel_rfl) (by kernel_rfl) (fun _ _ _ h => h) (by kernel_rfl) (by intro w hSw; (try dsimp only at hSw); go_simp; try with_reducible rfl) (by assumption) ?_
          refine take_h 14 43 rfl rfl (by kernel_rfl) (by kernel_rfl) (by kernel_rfl) (fun _ _ _ h => h) (by kernel_rfl) (by intro w hSw; (try dsimp only at hSw); go_simp; try with_reducible rfl) (by assumption) ?_
          refine take_h 15 44 rfl rfl (by kernel_rfl) (by kernel_rfl) (by kernel_rfl) (fun _ _ _ h => h) (by kernel_rfl) (by intro w hSw; (try dsimp only at hSw); go_simp; try with_reducible rfl) (by assumption) ?_
          refine take_h 16 45 rfl rfl (by kernel_rfl) (by kernel_rfl) (by kernel_rfl) (fun _ _ _ h => h) (by kernel_rfl) (by intro w hSw; (try dsimp only at hSw); go_simp; try with_reducible rfl) (by assumption) ?_
          refine take_h 17 46 rfl rfl (by kernel_rfl) (by kernel_rfl) (by kernel_rfl) (fun _ _ _ h => h) (by kernel_rfl) (by intro w hSw; (try dsimp only at hSw); go_simp; try with_reducible rfl) (by assumption) ?_
          refine take_h 18 47 rfl rfl (by kernel_rfl) (by kernel_rfl) (by kernel_rfl) (fun _ _ _ h => h) (by kernel_rfl) (by intro w hSw; (try dsimp only at hSw); go_simp; try with_reducible rfl) (by assumption) ?_
          refine wpAnyH_ready (rs := [19]) (by kernel_rfl) (by simp) (AllReadyH.cons rfl (fun K hK => ?_) AllReadyH.nil)
          go_simp
          refine hK.out _ _ (by (try dsimp only); exact ⟨Below.alloc hHeld.1 (Below.size hHeld.1) _, (Below.cell (Below.alloc (Below.refl _ _) (Nat.le_refl _) _) (cell_below hHeld.2.1)).trans hHeld.2.1, (Below.cell (Below.alloc (Below.refl _ _) (Nat.le_refl _) _) (cell_below hHeld.2.2.1)).trans hHeld.2.2.1, (Below.cell (Below.alloc (Below.refl _ _) (Nat.le_refl _) _) (cell_below hHeld.2.2.2)).trans hHeld.2.2.2⟩) (fun hHeld => ?_)
          clear hK K
          refine wpAnyH_ready (rs := [20]) (by kernel_rfl) (by simp) (AllReadyH.cons rfl (fun K hK => ?_) AllReadyH.nil)
          refine step_append_lay layI rfl _ _ rfl (B := w.heap.size) _ _ rfl (O4.out.grow (by go_grown)) ⟨w3.heap.size, 0, none⟩ (a[i].1, b[k].2) rfl (new_two w3 _ _ _).1 (new_two w3 _ _ _).2 (by omega) (by simp; omega) ?_
          intro v7 w7 hown7 hg7
          refine hK.out _ _ (by (try dsimp only); exact ⟨Below.grown hHeld.1 hg7 (Below.size hHeld.1) (fun k hk => (O4.out.lt k hk).1), (hg7.cell_far _ (cell_below hHeld.2.1) (Ne.symm hna)).trans hHeld.2.1, (hg7.cell_far _ (cell_below hHeld.2.2.1) (Ne.symm hna)).trans hHeld.2.2.1, (hg7.cell_far _ (cell_below hHeld.2.2.2) (Ne.symm hnb)).trans hHeld.2.2.2⟩) (fun hHeld => ?_)
          clear hK K
          refine take_h 21 6 rfl rfl (by kernel_rfl) (by kernel_rfl) (by kernel_rfl) (fun _ _ _ h => h) (by kernel_rfl) (by intro w hSw; (try dsimp only at hSw); go_simp; try with_reducible rfl) (by assumption) ?_
          refine wpAnyH_done (by kernel_rfl) ?_ _
          simp only [Exit.then]
          have O7 := Lib.hid hown7
          have B7 := Lib.hid hHeld.1
          clear hown7 hg7 hHeld z1 z2 y1 y2
          go_wp2_with fail
          go_roundg (gk - 1)
          case measure => have := K.out; omega
          case rel => exact ⟨i + 1, k + 1, out ++ [(a[i].1, b[k].2)], by go_num, by go_num, by omega, by omega, by have := K.out; omega, O7.out, E.out, B7.out⟩
        · rw [hsv] at z2
          have E := Lib.hid (MM.out.e qi qk EQ.out)
          rw [hsv, Bool.true_or] at E
          clear hsv
          go_wp2_with fail
          refine wp_region_held_drew (S := (fun w' => Below w.heap.size w w' ∧ w'.cell? ⟨ga, oa + i * 2, none⟩ = some (.int .i64 a[i].1) ∧ w'.cell? ⟨ga, oa + i * 2 + 1, none⟩ = some (.bool true))) (by kernel_rfl) (by exact ⟨B4.out.drew, z1, z2⟩) (fun hHeld => ?_)
          refine take_h 0 29 rfl rfl (by kernel_rfl) (by kernel_rfl) (by kernel_rfl) (fun _ _ _ h => h) (by kernel_rfl) (by intro w hSw; (try dsimp only at hSw); go_simp; try with_reducible rfl) (by assumption) ?_
          refine take_h 1 30 rfl rfl (by kernel_rfl) (by kernel_rfl) (by kernel_rfl) (fun _ _ _ h => h) (by kernel_rfl) (by intro w hSw; (try dsimp only at hSw); go_simp; try with_reducible rfl) (by assumption) ?_
          refine take_h 2 31 rfl rfl (by kernel_rfl) (by kernel_rfl) (by kernel_rfl) (fun _ _ _ h => h) (by kernel_rfl) (by intro w hSw; (try dsimp only at hSw); go_simp; try with_reducible rfl) (by assumption) ?_
          refine take_h 3 32 rfl rfl (by kernel_rfl) (by kernel_rfl) (by kernel_rfl) (fun _ _ _ h => h) (by kernel_rfl) (by intro w hSw; (try dsimp only at hSw); go_simp; try with_reducible rfl) (by assumption) ?_
          refine take_h 4 33 rfl rfl (by kernel_rfl) (by kernel_rfl) (by kernel_rfl) (fun _ _ _ h => h) (by kernel_rfl) (by intro w hSw; (try dsimp only at hSw); go_simp; try with_reducible rfl) (by assumption) ?_
          refine take_h 5 34 rfl rfl (by kernel_rfl) (by kernel_rfl) (by kernel_rfl) (fun _ _ _ h => h) (by kernel_rfl) (by intro w hSw; (try dsimp only at hSw); go_simp; try with_reducible rfl) (by assumption) ?_
          refine take_h 6 35 rfl rfl (by kernel_rfl) (by kernel_rfl) (by kernel_rfl) (fun _ _ _ h => h) (by kernel_rfl) (by intro w hSw; (try dsimp only at hSw); go_simp; try with_reducible rfl) (by assumption) ?_
          refine take_h 7 36 rfl rfl (by kernel_rfl) (by kernel_rfl) (by kernel_rfl) (fun _ _ _ h => h) (by kernel_rfl) (by intro w hSw; (try dsimp only at hSw); go_simp; try with_reducible rfl) (by assumption) ?_
          refine take_h 8 37 rfl rfl (by kernel_rfl) (by kernel_rfl) (by kernel_rfl) (fun _ _ _ h => h) (by kernel_rfl) (by intro w hSw; (try dsimp only at hSw); go_simp; try with_reducible rfl) (by assumption) ?_
          refine take_h 9 38 rfl rfl (by kernel_rfl) (by kernel_rfl) (by kernel_rfl) (fun _ _ _ h => h) (by kernel_rfl) (by intro w hSw; (try dsimp only at hSw); go_simp; try with_reducible rfl) (by assumption) ?_
          refine take_h 10 39 rfl rfl (by kernel_rfl) (by kernel_rfl) (by kernel_rfl) (fun _ _ _ h => h) (by kernel_rfl) (by intro w hSw; (try dsimp only at hSw); go_simp; try with_reducible rfl) (by assumption) ?_
          refine take_h 11 40 rfl rfl (by kernel_rfl) (by kernel_rfl) (by kernel_rfl) (fun _ _ _ h => h) (by kernel_rfl) (by intro w hSw; (try dsimp only at hSw); go_simp; try with_reducible rfl) (by assumption) ?_
          refine skip_h 12 41 rfl rfl (by kernel_rfl) (by kernel_rfl) (by kernel_rfl) (fun _ _ _ h => h) (by kernel_rfl) (by assumption) ?_
          refine skip_h 13 42 rfl rfl (by kernel_rfl) (by kernel_rfl) (by kernel_rfl) (fun _ _ _ h => h) (by kernel_rfl) (by assumption) ?_
          refine skip_h 14 43 rfl rfl (by kernel_rfl) (by kernel_rfl) (by kernel_rfl) (fun _ _ _ h => h) (by kernel_rfl) (by assumption) ?_
          refine skip_h 15 44 rfl rfl (by kernel_rfl) (by kernel_rfl) (by kernel_rfl) (fun _ _ _ h => h) (by kernel_rfl) (by assumption) ?_
          refine skip_h 16 45 rfl rfl (by kernel_rfl) (by kernel_rfl) (by kernel_rfl) (fun _ _ _ h => h) (by kernel_rfl) (by assumption) ?_
          refine take_h 17 46 rfl rfl (by kernel_rfl) (by kernel_rfl) (by kernel_rfl) (fun _ _ _ h => h) (by kernel_rfl) (by intro w hSw; (try dsimp only at hSw); go_simp; try with_reducible rfl) (by assumption) ?_
          refine take_h 18 47 rfl rfl (by kernel_rfl) (by kernel_rfl) (by kernel_rfl) (fun _ _ _ h => h) (by kernel_rfl) (by intro w hSw; (try dsimp only at hSw); go_simp; try with_reducible rfl) (by assumption) ?_
          refine wpAnyH_ready (rs := [19]) (by kernel_rfl) (by simp) (AllReadyH.cons rfl (fun K hK => ?_) AllReadyH.nil)
          go_simp
          refine hK.out _ _ (by (try dsimp only); exact ⟨Below.alloc hHeld.1 (Below.size hHeld.1) _, (Below.cell (Below.alloc (Below.refl _ _) (Nat.le_refl _) _) (cell_below hHeld.2.1)).trans hHeld.2.1, (Below.cell (Below.alloc (Below.refl _ _) (Nat.le_refl _) _) (cell_below hHeld.2.2)).trans hHeld.2.2⟩) (fun hHeld => ?_)
          clear hK K
          refine wpAnyH_ready (rs := [20]) (by kernel_rfl) (by simp) (AllReadyH.cons rfl (fun K hK => ?_) AllReadyH.nil)
          refine step_append_lay layI rfl _ _ rfl (B := w.heap.size) _ _ rfl (O4.out.grow (by go_grown)) ⟨w3.heap.size, 0, none⟩ (a[i].1, true) rfl (new_two w3 _ _ _).1 (new_two w3 _ _ _).2 (by omega) (by simp; omega) ?_
          intro v7 w7 hown7 hg7
          refine hK.out _ _ (by (try dsimp only); exact ⟨Below.grown hHeld.1 hg7 (Below.size hHeld.1) (fun k hk => (O4.out.lt k hk).1), (hg7.cell_far _ (cell_below hHeld.2.1) (Ne.symm hna)).trans hHeld.2.1, (hg7.cell_far _ (cell_below hHeld.2.2) (Ne.symm hna)).trans hHeld.2.2⟩) (fun hHeld => ?_)
          clear hK K
          refine take_h 21 6 rfl rfl (by kernel_rfl) (by kernel_rfl) (by kernel_rfl) (fun _ _ _ h => h) (by kernel_rfl) (by intro w hSw; (try dsimp only at hSw); go_simp; try with_reducible rfl) (by assumption) ?_
          refine wpAnyH_done (by kernel_rfl) ?_ _
          simp only [Exit.then]
          have O7 := Lib.hid hown7
          have B7 := Lib.hid hHeld.1
          clear hown7 hg7 hHeld z1 z2 y1 y2
          go_wp2_with fail
          go_roundg (gk - 1)
          case measure => have := K.out; omega
          case rel => exact ⟨i + 1, k + 1, out ++ [(a[i].1, true)], by go_num, by go_num, by omega, by omega, by have := K.out; omega, O7.out, E.out, B7.out⟩
      · have hkb : k = b.length := by omega
        subst hkb
        clear x1 x2
        go_wp2_with fail
        go_quiet (fail)
        have b3 := below_drews (Below.refl wr.heap.size wr) nq
        have B3 := B.out.trans (b3.mono B.out.size)
        have hown := O.out.grow b3
        have z1 := (b3.cell (cell_below e1)).trans e1
        have z2 := (b3.cell (cell_below e2)).trans e2
        clear b3 e1 e2 
        generalize wr.drewN nq = w3 at B3 hown z1 z2 ⊢
        obtain ⟨n1, n2⟩ := new_two w3 (.int .i64 a[i].1) (.bool a[i].2) 62
        have N1 := Lib.hid n1; have N2 := Lib.hid n2; have B4 := Lib.hid B3; have O4 := Lib.hid hown
        have BA : Hid (Below w3.heap.size w3 (w3.alloc (.cells #[.int .i64 a[i].1, .bool a[i].2] 62))) := Lib.hid ((Below.refl _ _).alloc (Nat.le_refl _) _)
        have hw3 : w.heap.size ≤ w3.heap.size := B3.size
        clear n1 n2 B3 hown
        go_wp2_with (at_builtin; refine lappend_lay layI rfl _ _ rfl (B := w.heap.size) _ _ rfl (O4.out.grow BA.out) ⟨w3.heap.size, 0, none⟩ a[i] rfl N1.out N2.out (by omega) (by simp; omega) ?_; intro v7 w7 hown7 hg7)
        have O7 := Lib.hid hown7
        have B7 := Lib.hid ((B4.out.alloc hw3 _).grown hg7 (by simp; omega) (fun k hk => (O4.out.lt k hk).1))
        clear hown7 hg7
        go_wp2_with fail
        go_roundg (gk - 1)
        case measure => have := K.out; omega
        case rel => exact ⟨i + 1, b.length, out ++ [a[i]], by go_num, rfl, by omega, by omega, by have := K.out; omega, O7.out, MM.out.a1 qi (Nat.le_refl _), B7.out⟩
    · have hia : i = a.length := by omega
      subst hia
      by_cases qk : k < b.length
      · obtain ⟨gb, ob, rfl, y1, y2⟩ := llies_cell LB.out k qk
        have e1 := (B.out.cell (cell_below y1)).trans y1
        have e2 := (B.out.cell (cell_below y2)).trans y2
        have ltK : (k : Int) < (b.length : Int) := by omega
        have k0 : (0 : Int) ≤ (k : Int) := by omega
        have neK : ((k : Int) == (b.length : Int)) = false := by simp; omega
        clear y1 y2
        go_wp2_with fail
        go_quiet (fail)
        rename Nat => nA
        go_wp2_with fail
        go_quiet (fail)
        rename Nat => nB
        have b3 := below_drews (below_drews (Below.refl wr.heap.size wr) nA) nB
        have B3 := B.out.trans (b3.mono B.out.size)
        have hown := O.out.grow b3
        have z1 := (b3.cell (cell_below e1)).trans e1
        have z2 := (b3.cell (cell_below e2)).trans e2
        clear b3 e1 e2 
        generalize (wr.drewN nA).drewN nB = w3 at B3 hown z1 z2 ⊢
        obtain ⟨n1, n2⟩ := new_two w3 (.int .i64 b[k].1) (.bool b[k].2) 62
        have N1 := Lib.hid n1; have N2 := Lib.hid n2; have B4 := Lib.hid B3; have O4 := Lib.hid hown
        have BA : Hid (Below w3.heap.size w3 (w3.alloc (.cells #[.int .i64 b[k].1, .bool b[k].2] 62))) := Lib.hid ((Below.refl _ _).alloc (Nat.le_refl _) _)
        have hw3 : w.heap.size ≤ w3.heap.size := B3.size
        clear n1 n2 B3 hown
        go_wp2_with (at_builtin; refine lappend_lay layI rfl _ _ rfl (B := w.heap.size) _ _ rfl (O4.out.grow BA.out) ⟨w3.heap.size, 0, none⟩ b[k] rfl N1.out N2.out (by omega) (by simp; omega) ?_; intro v7 w7 hown7 hg7)
        have O7 := Lib.hid hown7
        have B7 := Lib.hid ((B4.out.alloc hw3 _).grown hg7 (by simp; omega) (fun k hk => (O4.out.lt k hk).1))
        clear hown7 hg7
        go_wp2_with fail
        go_roundg (gk - 1)
        case measure => have := K.out; omega
        case rel => exact ⟨a.length, k + 1, out ++ [b[k]], rfl, by go_num, by omega, by omega, by have := K.out; omega, O7.out, MM.out.b1 (Nat.le_refl _) qk, B7.out⟩
      · have hkb : k = b.length := by omega
        subst hkb
        have D := Lib.hid (MM.out.done (Nat.le_refl _) (Nat.le_refl _))
        have RO := Lib.hid O.out.row
        cases hv : isLay (mg a b)
        · have VM : Hid (isLay out = false) := Lib.hid (by rw [D.out]; exact hv)
          have NO := Lib.hid (mgOf_no hv)
          clear hv
          go_wp2_with fail
          refine (specValid_is RO.out VM.out).mono ?_
          rintro e w5 ⟨rfl, b5⟩
          have B5 := Lib.hid (B.out.trans (b5.mono B.out.size))
          clear b5
          go_wp2_with fail
          go_ret2
          rw [NO.out]
          exact ⟨_, rfl, lown_new _ B5.out.size, B5.out.alloc B5.out.size _⟩
        · have VM : Hid (isLay out = true) := Lib.hid (by rw [D.out]; exact hv)
          have YES := Lib.hid (mgOf_yes VA.out VB.out hv)
          clear hv
          go_wp2_with fail
          refine (specValid_is RO.out VM.out).mono ?_
          rintro e w5 ⟨rfl, b5⟩
          have B5 := Lib.hid (B.out.trans (b5.mono B.out.size))
          have O5 := Lib.hid (O.out.grow b5)
          clear b5
          go_wp2_with fail
          go_ret2
          rw [YES.out]
          exact ⟨_, rfl, by rw [← D.out]; exact O5.out, B5.out⟩
end Go.Proofs.Ytbjeedeapioljac
