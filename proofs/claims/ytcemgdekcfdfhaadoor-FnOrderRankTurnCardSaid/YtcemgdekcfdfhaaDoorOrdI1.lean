/- The program's small functions on parts: which numbers are parts, where a layer is, the parts of two lists. -/
import Derived.Test.YtcemgdekcfdfhaaDoorOrdTab
import Derived.Test.YtcemgdekcfdfhaaDoorOrdFind
import Derived.Test.YtcemgdekcfdfhaaDoorGrwP
import Derived.Test.YtcemgdekcfdfhaaDoorTwoGrow
namespace Go.Proofs.YtcemgdekcfdfhaaDoor
open Go.RowKit

def okPt (p : Pc) : Bool := parB p.1 && parB p.2
theorem okPt_parts (x y : Int) : okPt (x, y) = (decide (0 ≤ x) && (decide (x ≤ 6) && (decide (0 ≤ y) && decide (y ≤ 6)))) := by
  rw [Bool.eq_iff_iff, okPt]; simp only [Bool.and_eq_true, decide_eq_true_eq, parB_iff]; omega
theorem partValid_any (p : Pc) (w : World) :
    Calls Tryd.prog 37 #[.agg #[.int .i64 p.1, .int .i64 p.2]] w fun e w' => e = .returned (.bool (okPt p)) ∧ Below w.heap.size w w' := by
  obtain ⟨x, y⟩ := p
  have R := Lib.hid (okPt_parts x y)
  by_cases h1 : (0 : Int) ≤ x
  · by_cases h2 : x ≤ 6
    · by_cases h3 : (0 : Int) ≤ y
      · by_cases h4 : y ≤ 6
        · go_enter Tryd.func37, Tryd.ntmps37
          go_wp2_with fail
          go_returns
          exact ⟨by rw [R.out, decide_eq_true h1, decide_eq_true h2, decide_eq_true h3, decide_eq_true h4]; rfl, by go_grown⟩
        · go_enter Tryd.func37, Tryd.ntmps37
          go_wp2_with fail
          go_returns
          exact ⟨by rw [R.out, decide_eq_true h1, decide_eq_true h2, decide_eq_true h3, decide_eq_false (show ¬ y ≤ 6 by omega)]; rfl, by go_grown⟩
      · go_enter Tryd.func37, Tryd.ntmps37
        go_wp2_with fail
        go_returns
        exact ⟨by rw [R.out, decide_eq_true h1, decide_eq_true h2, decide_eq_false (show ¬ (0 : Int) ≤ y by omega)]; rfl, by go_grown⟩
    · go_enter Tryd.func37, Tryd.ntmps37
      go_wp2_with fail
      go_returns
      exact ⟨by rw [R.out, decide_eq_true h1, decide_eq_false (show ¬ x ≤ 6 by omega)]; rfl, by go_grown⟩
  · go_enter Tryd.func37, Tryd.ntmps37
    go_wp2_with fail
    go_returns
    exact ⟨by rw [R.out, decide_eq_false (show ¬ (0 : Int) ≤ x by omega)]; rfl, by go_grown⟩
theorem partValid_is {p : Pc} {b : Bool} (h : okPt p = b) (w : World) :
    Calls Tryd.prog 37 #[.agg #[.int .i64 p.1, .int .i64 p.2]] w fun e w' => e = .returned (.bool b) ∧ Below w.heap.size w w' := by
  subst h; exact partValid_any p w
/-- What placeOf answers. -/
def plcV (o : Option (Nat × Int)) : Value := match o with
  | some (p, x) => .tuple #[.int .i64 p, .int .i64 x, .bool true]
  | none => .tuple #[.int .i64 0, .int .i64 0, .bool false]
theorem prtT : PairT 49 41 := ⟨by kernel_rfl, Tryd.underlying41⟩
/-- The parts of two lists, and whether there are any. -/
def PrtB (w : World) (c : Bool) (l : List Pc) (e : Ending) (w' : World) : Prop :=
  ∃ v, e = .returned (.tuple #[v, .bool c]) ∧ (c = true → Row w' v l) ∧ (c = false → v = .slice none 0 0) ∧ Below w.heap.size w w'
theorem zip_get (a b : List Int) (i : Nat) (h : i < (a.zip b).length) (h1 : i < a.length) (h2 : i < b.length) : (a.zip b)[i] = (a[i], b[i]) := by simp
set_option maxRecDepth 100000 in
set_option maxHeartbeats 3200000 in
theorem partsI_any {w : World} {v u : Value} {a b : List Int} (h : IRow w v a) (k : IRow w u b) :
    Calls Tryd.prog 23 #[v, u] w fun e w' => PrtB w (isPar a b) (a.zip b) e w' := by
  obtain ⟨pa, ca, rfl, h1, h2⟩ := h.len
  obtain ⟨pb, cb, rfl, k1, k2⟩ := k.len
  have H := Lib.hid h; have H' := Lib.hid k
  unfold maxLen at h2 k2
  clear h k
  by_cases x1 : (a.length : Int) < 1
  · have R : Hid (isPar a b = false) := Lib.hid (isPar_short (.inl (by simp only [isIn, decide_eq_false_iff_not]; omega)))
    go_enter Tryd.func23, Tryd.ntmps23
    go_wp2_with fail
    go_returns
    exact ⟨_, by rw [R.out]; rfl, (by rw [R.out]; intro h; cases h), fun _ => rfl, Below.refl _ _⟩
  by_cases x2 : 4 < (a.length : Int)
  · have R : Hid (isPar a b = false) := Lib.hid (isPar_short (.inl (by simp only [isIn, decide_eq_false_iff_not]; omega)))
    have x1' : decide ((a.length : Int) < 1) = false := decide_eq_false x1
    clear x1
    go_enter Tryd.func23, Tryd.ntmps23
    go_wp2_with fail
    go_returns
    exact ⟨_, by rw [R.out]; rfl, (by rw [R.out]; intro h; cases h), fun _ => rfl, Below.refl _ _⟩
  by_cases x3 : (a.length : Int) = (b.length : Int)
  case neg =>
    have R : Hid (isPar a b = false) := Lib.hid (isPar_short (.inr (by omega)))
    have x1' : decide ((a.length : Int) < 1) = false := decide_eq_false x1
    have x2' : decide (4 < (a.length : Int)) = false := decide_eq_false x2
    have x3' : ((a.length : Int) != (b.length : Int)) = true := by simpa using x3
    clear x1 x2 x3
    go_enter Tryd.func23, Tryd.ntmps23
    go_wp2_with fail
    go_returns
    exact ⟨_, by rw [R.out]; rfl, (by rw [R.out]; intro h; cases h), fun _ => rfl, Below.refl _ _⟩
  have x1' : decide ((a.length : Int) < 1) = false := decide_eq_false x1
  have x2' : decide (4 < (a.length : Int)) = false := decide_eq_false x2
  have x3' : ((a.length : Int) != (b.length : Int)) = false := by simpa using x3
  have L1 : Hid (isIn (a.length : Int) 1 4 = true) := Lib.hid (by simp only [isIn, decide_eq_true_eq]; omega)
  have HL : Hid ((b.length : Int) = (a.length : Int)) := Lib.hid x3.symm
  have l4 : a.length ≤ 4 := by omega
  have ZL : Hid ((a.zip b).length = a.length) := Lib.hid (by simp; omega)
  clear x1 x2 x3
  obtain ⟨wa, hwa⟩ : ∃ x, w.alloc (.cells #[] 49) = x := ⟨_, rfl⟩
  have BA : Hid (Below w.heap.size w wa) := Lib.hid (by rw [← hwa]; go_grown)
  go_enter Tryd.func23, Tryd.ntmps23
  go_wp2_with fail
  clear hwa
  go_loopg [6, 27] a.length (fun k y x wr => ∃ j : Nat, x = .int .i64 j ∧ j + k = a.length ∧ GrwP 49 wr w.heap.size y ((a.zip b).take j) ∧ (∀ i (h1 : i < a.length) (h2 : i < b.length), i < j → parB a[i] = true ∧ parB b[i] = true) ∧ Below w.heap.size w wr)
  case atStart => exact ⟨0, rfl, by omega, .inl ⟨rfl, _, rfl⟩, fun i _ _ hi => by omega, BA.out⟩
  case round =>
    obtain ⟨j, rfl, hk, ho, hs, hb⟩ := hrel
    have K := Lib.hid hk; have O := Lib.hid ho; have S := Lib.hid hs; have B := Lib.hid hb
    have hjl : j ≤ a.length := by omega
    have hsz := hb.size
    clear hk ho hs hb
    by_cases hlt : j < a.length
    · have hlb : j < b.length := by have := HL.out; omega
      obtain ⟨ga, oa, c1, e1, _, _⟩ := H.out.known (by omega)
      simp only [Value.slice.injEq, true_and] at e1
      obtain ⟨rfl, rfl⟩ := e1
      obtain ⟨gb, ob, c2, e2, _, _⟩ := H'.out.known (by omega)
      simp only [Value.slice.injEq, true_and] at e2
      obtain ⟨rfl, rfl⟩ := e2
      have d1 := H.out.cells j hlt
      have d2 := H'.out.cells j hlb
      have y1 := (B.out.cell (cell_below d1)).trans d1
      have y2 := (B.out.cell (cell_below d2)).trans d2
      have i0 : (0 : Int) ≤ (j : Int) := by omega
      have i1 : (j : Int) < (a.length : Int) := by omega
      have i2 : (j : Int) < (b.length : Int) := by omega
      obtain ⟨x, hx⟩ : ∃ x, a[j] = x := ⟨_, rfl⟩
      obtain ⟨y, hy⟩ : ∃ y, b[j] = y := ⟨_, rfl⟩
      have PX : Hid (parB a[j] = parB x) := Lib.hid (by rw [hx])
      have PY : Hid (parB b[j] = parB y) := Lib.hid (by rw [hy])
      have ST : Hid ((a.zip b).take j ++ [(x, y)] = (a.zip b).take (j + 1)) := Lib.hid (by
        rw [List.take_succ_eq_append_getElem (by rw [ZL.out]; exact hlt), zip_get a b j _ hlt hlb, hx, hy])
      rw [hx] at y1
      rw [hy] at y2
      clear d1 d2 hx hy
      have mkS : ∀ w' : World, Below wr.heap.size wr w' → (w'.cell? ⟨ga, oa + j, none⟩ = some (.int .i64 x) ∧ w'.cell? ⟨gb, ob + j, none⟩ = some (.int .i64 y)) := fun w' h => ⟨(h.cell (cell_below y1)).trans y1, (h.cell (cell_below y2)).trans y2⟩
      go_wp2_with fail
      refine calm_region 10 (fun w' => (w'.cell? ⟨ga, oa + j, none⟩ = some (.int .i64 x) ∧ w'.cell? ⟨gb, ob + j, none⟩ = some (.int .i64 y))) (by kernel_rfl) (by exact ⟨y1, y2⟩) (fun hHeld => ?_)
      refine take_l 0 30 rfl rfl (by kernel_rfl) (by kernel_rfl) (by kernel_rfl) (by kernel_rfl) (fun _ _ _ h => h) (by kernel_rfl) (by intro w hSw; (try dsimp only at hSw); go_simp; try with_reducible rfl) (by assumption) ?_
      refine take_l 1 31 rfl rfl (by kernel_rfl) (by kernel_rfl) (by kernel_rfl) (by kernel_rfl) (fun _ _ _ h => h) (by kernel_rfl) (by intro w hSw; (try dsimp only at hSw); go_simp; try with_reducible rfl) (by assumption) ?_
      refine take_l 2 32 rfl rfl (by kernel_rfl) (by kernel_rfl) (by kernel_rfl) (by kernel_rfl) (fun _ _ _ h => h) (by kernel_rfl) (by intro w hSw; (try dsimp only at hSw); go_simp; try with_reducible rfl) (by assumption) ?_
      refine take_l 3 33 rfl rfl (by kernel_rfl) (by kernel_rfl) (by kernel_rfl) (by kernel_rfl) (fun _ _ _ h => h) (by kernel_rfl) (by intro w hSw; (try dsimp only at hSw); go_simp; try with_reducible rfl) (by assumption) ?_
      refine take_l 4 34 rfl rfl (by kernel_rfl) (by kernel_rfl) (by kernel_rfl) (by kernel_rfl) (fun _ _ _ h => h) (by kernel_rfl) (by intro w hSw; (try dsimp only at hSw); go_simp; try with_reducible rfl) (by assumption) ?_
      refine take_l 5 35 rfl rfl (by kernel_rfl) (by kernel_rfl) (by kernel_rfl) (by kernel_rfl) (fun _ _ _ h => h) (by kernel_rfl) (by intro w hSw; (try dsimp only at hSw); go_simp; try with_reducible rfl) (by assumption) ?_
      refine take_l 6 36 rfl rfl (by kernel_rfl) (by kernel_rfl) (by kernel_rfl) (by kernel_rfl) (fun _ _ _ h => h) (by kernel_rfl) (by intro w hSw; (try dsimp only at hSw); go_simp; try with_reducible rfl) (by assumption) ?_
      refine take_l 7 37 rfl rfl (by kernel_rfl) (by kernel_rfl) (by kernel_rfl) (by kernel_rfl) (fun _ _ _ h => h) (by kernel_rfl) (by intro w hSw; (try dsimp only at hSw); go_simp; try with_reducible rfl) (by assumption) ?_
      refine take_l 8 38 rfl rfl (by kernel_rfl) (by kernel_rfl) (by kernel_rfl) (by kernel_rfl) (fun _ _ _ h => h) (by kernel_rfl) (by intro w hSw; (try dsimp only at hSw); go_simp; try with_reducible rfl) (by assumption) ?_
      refine step_l 9 (by kernel_rfl) rfl (fun K hK => ?_)
      go_simp
      refine hK.out _ _ (by (try dsimp only); exact mkS _ (by go_grown)) (fun hHeld => ?_)
      clear hK K
      refine last_l (by kernel_rfl) rfl (by kernel_rfl) (fun K hK => ?_)
      go_simp
      refine hK.out _ _ ?_
      clear hK K
      try simp only [Exit.then]
      try simp only [Act.put, List.setIfInBounds_toArray, List.set_cons_succ, List.set_cons_zero]
      have Q1 : Hid (((wr.alloc (.cells #[.int .i64 x, .int .i64 y] 49)).drew.cell? ⟨wr.heap.size, 0, none⟩ = some (.int .i64 x)) ∧ ((wr.alloc (.cells #[.int .i64 x, .int .i64 y] 49)).drew.cell? ⟨wr.heap.size, 1, none⟩ = some (.int .i64 y)) ∧ Below wr.heap.size wr (wr.alloc (.cells #[.int .i64 x, .int .i64 y] 49)).drew) := Lib.hid ⟨by go_cell, by go_cell, by go_grown⟩
      obtain ⟨w1, hw1⟩ : ∃ z, (wr.alloc (.cells #[.int .i64 x, .int .i64 y] 49)).drew = z := ⟨_, rfl⟩
      rw [hw1] at Q1 ⊢
      clear hw1 y1 y2 mkS hHeld
      have c1 := Q1.out.1; have c2 := Q1.out.2.1
      have B1 := Lib.hid (B.out.trans (Q1.out.2.2.mono hsz))
      have O1 := Lib.hid (O.out.grow Q1.out.2.2)
      have hs1 := B1.out.size
      clear Q1
      cases hv : okPt (x, y)
      · have HV := Lib.hid hv
        have R : Hid (isPar a b = false) := Lib.hid (isPar_no hlt hlb (by
          have := hv
          simp only [okPt, Bool.and_eq_false_iff] at this
          rw [PX.out, PY.out]; exact this))
        clear hv
        go_wp2_with fail
        refine (partValid_is (p := (x, y)) HV.out _).mono ?_
        rintro e w2 ⟨rfl, b2⟩
        have B2 := Lib.hid (B1.out.trans (b2.mono hs1))
        clear b2
        go_wp2_with fail
        go_returns
        exact ⟨_, by rw [R.out]; rfl, (by rw [R.out]; intro h; cases h), fun _ => rfl, B2.out⟩
      · have HV := Lib.hid hv
        have S2 : Hid (∀ i (h1 : i < a.length) (h2 : i < b.length), i < j + 1 → parB a[i] = true ∧ parB b[i] = true) := Lib.hid (fun i h1 h2 hi => by
          rcases Nat.lt_or_ge i j with c | c
          · exact S.out i h1 h2 c
          · obtain rfl : i = j := by omega
            have := hv
            simp only [okPt, Bool.and_eq_true] at this
            rw [PX.out, PY.out]; exact this)
        clear hv
        go_wp2_with fail
        refine (partValid_is (p := (x, y)) HV.out _).mono ?_
        rintro e w2 ⟨rfl, b2⟩
        have e1 := (b2.cell (cell_below c1)).trans c1
        have e2 := (b2.cell (cell_below c2)).trans c2
        have B2 := Lib.hid (B1.out.trans (b2.mono hs1))
        have O2 := Lib.hid (O1.out.grow b2)
        have hs2 := B2.out.size
        clear b2 c1 c2 B1 O1
        obtain ⟨n1, n2⟩ := new_two w2 (.int .i64 x) (.int .i64 y) 49
        have N1 := Lib.hid n1; have N2 := Lib.hid n2
        have A1 : Hid (Below w2.heap.size w2 (w2.alloc (.cells #[.int .i64 x, .int .i64 y] 49))) := Lib.hid (by go_grown)
        clear n1 n2
        have tl : ((a.zip b).take j).length ≤ 4 := by rw [List.length_take]; omega
        go_wp2_with (at_builtin; refine grwp_append prtT rfl _ _ rfl (B := w.heap.size) _ _ rfl (O2.out.grow A1.out) ⟨w2.heap.size, 0, none⟩ (x, y) rfl N1.out N2.out (by omega) (by simp; omega) ?_; intro v5 w5 hown5 b5; have O5 := Lib.hid hown5; have B5 := Lib.hid (B2.out.trans ((A1.out.mono hs2).trans b5)); clear hown5 b5)
        rw [ST.out] at O5
        go_roundg (gk - 1)
        case measure => have := K.out; omega
        case rel => exact ⟨j + 1, by go_num, by have := K.out; omega, .inr O5.out, S2.out, B5.out⟩
    · have R : Hid (isPar a b = true) := Lib.hid (isPar_yes L1.out HL.out fun i h1 h2 => S.out i h1 h2 (by omega))
      have O9 : Hid (GrwP 49 wr w.heap.size u6 (a.zip b)) := Lib.hid (by have := O.out; rwa [List.take_of_length_le (by rw [ZL.out]; omega)] at this)
      go_wp2_with fail
      go_returns
      exact ⟨_, by rw [R.out]; rfl, fun _ => O9.out.row, (by rw [R.out]; intro h; cases h), B.out⟩
theorem partsI_no {w : World} {v u : Value} {a b : List Int} (h : IRow w v a) (k : IRow w u b) (hp : isPar a b = false) :
    Calls Tryd.prog 23 #[v, u] w fun e w' => e = .returned (.tuple #[.slice none 0 0, .bool false]) ∧ Below w.heap.size w w' := by
  refine (partsI_any h k).mono ?_
  rintro e w' ⟨x, rfl, _, hn, hb⟩
  rw [hp] at hn ⊢
  rw [hn rfl]
  exact ⟨rfl, hb⟩
theorem partsI_yes {w : World} {v u : Value} {a b : List Int} (h : IRow w v a) (k : IRow w u b) (hp : isPar a b = true) :
    Calls Tryd.prog 23 #[v, u] w fun e w' => ∃ x, e = .returned (.tuple #[x, .bool true]) ∧ Row w' x (a.zip b) ∧ Below w.heap.size w w' := by
  refine (partsI_any h k).mono ?_
  rintro e w' ⟨x, rfl, hy, _, hb⟩
  rw [hp] at hy ⊢
  exact ⟨x, rfl, hy rfl, hb⟩
end Go.Proofs.YtcemgdekcfdfhaaDoor
