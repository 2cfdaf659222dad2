/- The library's functions on slices of windows that the program calls: slices.Grow, slices.Concat, slices.Clone, slices.IndexFunc and slices.ContainsFunc (with windowEmpty), walked by hand. -/
import Derived.Test.YtanfalkpmmkklaaDoorWinA
import Derived.Test.YtanfalkpmmkklaaDoorWinMix
import Derived.Lib.AppendZerosOnto
import Derived.Lib.SliceRun
import Derived.Lib.Walk
namespace Go.Proofs.YtanfalkpmmkklaaDoor
open Go.RowKit

/-- Nothing more, out of a nil slice of whatever room. -/
theorem append_nil_run {T S : TypeId} (PT : PairT T S) {w : World} {B : Nat} {v : Value} {m : List Pc} (hown : Own T w B v m) (ty : TypeId) (c : Nat) :
    (Builtin.append_ #[S, S] ty #[v, .slice none 0 c]).run Tryd.prog w = .ok v w := by
  obtain ⟨i0, hi, hz0, hz1, hz2⟩ := info_parts PT.info
  rcases hown.2 with ⟨rfl, hn⟩ | ⟨g, cap, cur, rfl, _, _, hnc, _⟩
  · simp [Builtin.append_, run_underlying PT.slice, sizeOf, typeInfo, hi, Builtin.lenOf, Builtin.firstCells]
  · simp [Builtin.append_, run_underlying PT.slice, sizeOf, typeInfo, hi, Builtin.lenOf, Builtin.firstCells, hnc, storeCells]
theorem append_row {T S : TypeId} (PT : PairT T S) {w : World} {ops : Array Oper} {rest : List Oper} {o : Oper} {a : Act} {Q : Exit → Act → World → Prop} (hgd : o.guard = none) (s x : Operand)
    (ho : o.op = .call { callee := .builtin .append, args := #[s, x], argTypes := #[S, S] }) {B : Nat} (v : Value) (m : List Pc) (hs : a.eval s = v) (hown : Own T w B v m) (ad : Option Addr) (c : Nat) (l : List Pc) (hx : a.eval x = .slice ad l.length c) (hu : Row w (.slice ad l.length c) l) (hm : m.length + l.length ≤ 1100000) (hB : B ≤ w.heap.size)
    (h : ∀ v' w', Own T w' B v' (m ++ l) → Below B w w' → wpList Tryd.prog ops Q rest (a.put o.dst v') w') : wpList Tryd.prog ops Q (o :: rest) a w := by
  obtain ⟨a', n', c', e', h1, h2, h3, h4⟩ := hu
  simp only [Value.slice.injEq] at e'
  obtain ⟨rfl, rfl, rfl⟩ := e'
  cases ad with
  | none =>
    have hl : l = [] := by
      rcases h4 with h4 | ⟨g, o, e, _⟩
      · exact h4
      · cases e
    subst hl
    exact Lib.wpList_append_run _ hgd _ _ _ _ ho _ _ hs hx _ _ (append_nil_run PT hown _ c) (h v w (by rw [List.append_nil]; exact hown) (Below.refl _ _))
  | some ad => exact append_list PT hgd s x ho v m hs hown ad l.length c l hx rfl (by
      rcases h4 with h4 | ⟨g, o, e, h5⟩
      · subst h4; intro j u hu; simp [cells2] at hu
      · cases e; exact lies_news h5) hm hB (fun v' w' h2 h3 => h v' w' h2 (hown.below h3 hB))
set_option maxHeartbeats 1600000 in
theorem growW_any (n : Nat) (w : World) (h0 : 0 < n) (hn : n ≤ 1000) :
    Calls Tryd.prog 47 #[.slice none 0 0, .int .i64 n] w fun e w' => ∃ v, e = .returned v ∧ Own 33 w' w.heap.size v [] ∧ Below w.heap.size w w' := by
  obtain ⟨i0, hi0, hz0, hz1, hz2⟩ := info_parts winT.info
  have hG := grownCap_ge w n 0 33
  have hG2 := grownCap_le_maxLen w n 0 33 (by unfold maxLen; omega)
  have hrz : ∀ ty, (Builtin.append_ #[23, 3] ty #[.slice none 0 0, .int .i64 n]).run Tryd.prog w =
      .ok (.slice (some ⟨w.heap.size, 0, none⟩) n (grownCap w n 0 33)) (w.drew.alloc (.cells (#[] ++ Builtin.zeroCells (Value.agg #[.int .i64 0, .int .i64 0]).cells n ++ Builtin.zeroCells (Value.agg #[.int .i64 0, .int .i64 0]).cells (grownCap w n 0 33 - n)) 33)) := fun ty => by
    have h := Lib.run_append_grow_zeros w 23 3 ty 33 i0 (.agg #[.int .i64 0, .int .i64 0]) .i64 .i64 Tryd.underlying23 Tryd.underlying3 hi0 hz0 none 0 0 []
      (run_firstCells_none w.drew i0.size 0 0 0) n h0 (by omega) (by omega) (by omega) (by rw [hz2]; omega) (by rw [hz2]; exact growslice_fits (by omega) (by omega))
    rw [Nat.zero_add] at h
    exact h
  obtain ⟨G, hGe⟩ : ∃ G, G = grownCap w n 0 33 := ⟨_, rfl⟩
  rw [← hGe] at hG hG2 hrz
  have hG63 : G ≤ 9223372036854775807 := by unfold maxLen at hG2; omega
  have hsz : (Builtin.zeroCells #[Value.int .i64 0, .int .i64 0] n ++ Builtin.zeroCells #[Value.int .i64 0, .int .i64 0] (G - n)).size = G * 2 := by
    rw [Array.size_append, size_zeroCells, size_zeroCells]
    simp only [Array.size, List.length_cons, List.length_nil]
    omega
  have OW : Hid (Own 33 (w.alloc (.cells (Builtin.zeroCells #[Value.int .i64 0, .int .i64 0] n ++ Builtin.zeroCells #[Value.int .i64 0, .int .i64 0] (G - n)) 33)).drew w.heap.size (.slice (some ⟨w.heap.size, 0, none⟩) 0 G) []) := Lib.hid
    ⟨rfl, .inr ⟨w.heap.size, G, _, rfl, Nat.le_refl _, (by first | exact Array.getElem?_push_size | simp : _ = some (Obj.cells (Builtin.zeroCells #[Value.int .i64 0, .int .i64 0] n ++ Builtin.zeroCells #[Value.int .i64 0, .int .i64 0] (G - n)) 33 (0, 0))), Nat.zero_le _, hG2, hsz, rfl⟩⟩
  have h1 : ¬ ((n : Int) < 0) := by omega
  have h2 : IntKind.i64.wrap ((0 : Int) - 0) = 0 := IntWalk.i64_in _ (by omega)
  have h3 : IntKind.i64.wrap ((n : Int) - 0) = n := by rw [Int.sub_zero]; exact IntWalk.i64_in _ (by omega)
  have h4 : (n : Int) > 0 := by omega
  clear hGe
  go_enter Tryd.func47, Tryd.ntmps47
  go_wp2_with (at_builtin; refine Lib.wpList_append_run _ rfl _ _ _ _ rfl _ _ rfl rfl _ _ (hrz _) ?_)
  go_ret
  exact ⟨_, rfl, OW.out, by go_grown⟩


def sumC (l0 l1 : List Pc) : Nat → Nat
  | 0 => 0 | 1 => l0.length | _ => l0.length + l1.length
def allC (l0 l1 : List Pc) : Nat → List Pc
  | 0 => [] | 1 => l0 | _ => l0 ++ l1
set_option maxRecDepth 100000 in
set_option maxHeartbeats 3200000 in
theorem concatW_any {w : World} {b : Nat} {a0 a1 : Option Addr} {p0 p1 : Nat} {l0 l1 : List Pc} (c0 : w.cell? ⟨b, 0, none⟩ = some (.slice a0 l0.length p0)) (c1 : w.cell? ⟨b, 1, none⟩ = some (.slice a1 l1.length p1))
    (n0 : Row w (.slice a0 l0.length p0) l0) (n1 : Row w (.slice a1 l1.length p1) l1) (hpos : 0 < l0.length + l1.length) (hle : l0.length + l1.length ≤ 1000) :
    Calls Tryd.prog 37 #[.slice (some ⟨b, 0, none⟩) 2 2] w fun e w' => ∃ v, e = .returned v ∧ Own 33 w' w.heap.size v (l0 ++ l1) ∧ Below w.heap.size w w' := by
  have N0 := Lib.hid n0; have N1 := Lib.hid n1
  have hbw := cell_below c0
  clear n0 n1
  go_enter Tryd.func37, Tryd.ntmps37
  go_wp2_with fail
  go_loopg [3, 11] 2 (fun k x y wr => ∃ j : Nat, y = .int .i64 j ∧ j + k = 2 ∧ x = .int .i64 (sumC l0 l1 j : Nat) ∧ w = wr)
  case atStart => exact ⟨0, rfl, rfl, rfl, rfl⟩
  case round =>
    obtain ⟨j, rfl, hk, rfl, rfl⟩ := hrel
    have hj : j = 0 ∨ j = 1 ∨ j = 2 := by omega
    have K := Lib.hid hk
    clear hk
    rcases hj with rfl | rfl | rfl
    · simp only [sumC]
      go_wp2_with fail
      go_roundg 1
      case measure => have := K.out; omega
      case rel => exact ⟨1, by go_num, by omega, by first | rfl | (simp [sumC]; done) | go_num, rfl⟩
    · simp only [sumC]
      go_wp2_with fail
      go_roundg 0
      case measure => have := K.out; omega
      case rel => exact ⟨2, by go_num, by omega, by first | rfl | (simp [sumC]; done) | go_num, rfl⟩
    · simp only [sumC]
      clear K
      go_wp2_with fail
      refine (growW_any _ _ hpos hle).mono ?_
      rintro e w1 ⟨v, rfl, ho, hb⟩
      have O1 := Lib.hid ho; have B1 := Lib.hid hb
      have e0 := (hb.cell (p := ⟨b, 0, none⟩) hbw).trans c0
      have e1 := (hb.cell (p := ⟨b, 1, none⟩) hbw).trans c1
      clear ho hb
      go_wp2_with fail
      go_loopg [6, 27] 2 (fun k x y wr => ∃ j : Nat, y = .int .i64 j ∧ j + k = 2 ∧ Own 33 wr w.heap.size x (allC l0 l1 j) ∧ Below w.heap.size w wr)
      case atStart => exact ⟨0, rfl, rfl, O1.out, B1.out⟩
      case round =>
        obtain ⟨j, rfl, hk, ho, hb⟩ := hrel
        have hj : j = 0 ∨ j = 1 ∨ j = 2 := by omega
        have K := Lib.hid hk; have O := Lib.hid ho; have B := Lib.hid hb
        replace e0 := (hb.cell (p := ⟨b, 0, none⟩) hbw).trans c0
        replace e1 := (hb.cell (p := ⟨b, 1, none⟩) hbw).trans c1
        clear hk ho hb
        rcases hj with rfl | rfl | rfl
        · simp only [allC] at O
          go_wp2_with (at_builtin; refine append_row winT rfl _ _ rfl (B := w.heap.size) _ _ rfl O.out a0 p0 l0 rfl (N0.out.grow B.out) (by first | omega | (simp only [List.length_nil]; omega)) B.out.size ?_; intro v5 w5 hown5 hb5)
          have O5 := Lib.hid hown5
          have B5 := Lib.hid (B.out.trans hb5)
          clear hown5 hb5
          go_wp2_with fail
          go_roundg 1
          case measure => have := K.out; omega
          case rel => exact ⟨1, by go_num, by omega, by first | exact O5.out | (simp only [allC]; simpa using O5.out), B5.out⟩
        · simp only [allC] at O
          go_wp2_with (at_builtin; refine append_row winT rfl _ _ rfl (B := w.heap.size) _ _ rfl O.out a1 p1 l1 rfl (N1.out.grow B.out) (by omega) B.out.size ?_; intro v5 w5 hown5 hb5)
          have O5 := Lib.hid hown5
          have B5 := Lib.hid (B.out.trans hb5)
          clear hown5 hb5
          go_wp2_with fail
          go_roundg 0
          case measure => have := K.out; omega
          case rel => exact ⟨2, by go_num, by omega, by first | exact O5.out | (simp only [allC]; simpa using O5.out), B5.out⟩
        · clear K
          go_wp2_with fail
          go_ret
          exact ⟨_, rfl, O.out, B.out⟩
set_option maxHeartbeats 1600000 in
theorem cloneW_any {w : World} {ad : Addr} {c : Nat} {l : List Pc} (h : Row w (.slice (some ad) l.length c) l) (hl : l.length ≤ 1000) :
    Calls Tryd.prog 40 #[.slice (some ad) l.length c] w fun e w' => Lst WT w l e w' := by
  have H := Lib.hid h
  have qT : ∀ (w : World) (a : Option Addr) (n c n' c' : Nat), (binOp .eql 23 (.slice a n c) (.slice none n' c')).run Tryd.prog w = .ok (.bool a.isNone) w := fun w a n c n' c' => Lib.run_eql_slice_nil w _ _ a n c n' c' Tryd.underlying23
  have O1 : Hid (Own WT (w.alloc (.cells #[] WT)) w.heap.size (.slice (some ⟨w.heap.size, 0, none⟩) 0 0) []) := Lib.hid (own_new WT (Nat.le_refl _))
  have A1 := Lib.hid ((Below.refl w.heap.size w).alloc (Nat.le_refl _) (.cells #[] WT))
  clear h
  go_enter Tryd.func40, Tryd.ntmps40
  go_wp2_with (at_builtin; refine append_row winT rfl _ _ rfl (B := w.heap.size) _ [] rfl O1.out (some ad) c l rfl (H.out.grow A1.out) (by simp; omega) A1.out.size ?_; intro v5 w5 hown5 hb5)
  have O5 := Lib.hid hown5
  have B5 := Lib.hid (A1.out.trans hb5)
  clear hown5 hb5
  go_wp2_with fail
  go_ret
  exact ⟨_, rfl, O5.out, B5.out⟩
set_option maxRecDepth 100000 in
set_option maxHeartbeats 1600000 in
theorem indexW_any {w : World} {v : Value} {l : List Pc} (h : Row w v l) :
    Calls Tryd.prog 49 #[v, .func (.func 44) #[] #[]] w fun e w' => ∃ n : Int, e = .returned (.int .i64 n) ∧ (0 ≤ n ↔ goodW l = false) ∧ Below w.heap.size w w' := by
  obtain ⟨a, c, rfl, h1, h2, hlie⟩ := h.parts
  have H := Lib.hid hlie
  unfold maxLen at h2
  clear h hlie
  go_enter Tryd.func49, Tryd.ntmps49
  go_wp2_with fail
  go_loopg [8] l.length (fun k x wr => ∃ j : Nat, x = .int .i64 j ∧ j + k = l.length ∧ goodW (l.take j) = true ∧ Below w.heap.size w wr)
  case atStart => exact ⟨0, rfl, by omega, by simp [goodW], Below.refl _ _⟩
  case round =>
    obtain ⟨j, rfl, hk, hs, hb⟩ := hrel
    have K := Lib.hid hk; have S := Lib.hid hs; have B := Lib.hid hb
    have hjl : j ≤ l.length := by omega
    clear hk hs hb
    by_cases hlt : j < l.length
    · obtain ⟨g, o, rfl, d1, d2⟩ := lies_cell H.out j hlt
      have e1 := (B.out.cell (cell_below d1)).trans d1
      have e2 := (B.out.cell (cell_below d2)).trans d2
      have i0 : (0 : Int) ≤ (j : Int) := by omega
      have i1 : (j : Int) < (l.length : Int) := by omega
      clear d1 d2
      by_cases hx : l[j].2 < l[j].1
      · have R := Lib.hid (good_not hlt hx)
        have D := Lib.hid (decide_eq_true hx)
        clear hx
        go_wp2_with fail
        refine (windowEmpty_is D.out _).mono ?_
        rintro e w1 ⟨rfl, b1⟩
        have B1 := Lib.hid (B.out.trans (b1.mono B.out.size))
        clear b1
        go_wp2_with fail
        go_ret
        exact ⟨(j : Int), rfl, ⟨fun _ => R.out, fun _ => by omega⟩, B1.out⟩
      · have D := Lib.hid (decide_eq_false hx)
        have S2 := Lib.hid (good_take hlt S.out (by omega))
        clear hx
        go_wp2_with fail
        refine (windowEmpty_is D.out _).mono ?_
        rintro e w1 ⟨rfl, b1⟩
        have B1 := Lib.hid (B.out.trans (b1.mono B.out.size))
        clear b1
        go_wp2_with fail
        go_roundg (gk - 1)
        case measure => have := K.out; omega
        case rel => exact ⟨j + 1, by go_num, by have := K.out; omega, S2.out, B1.out⟩
    · have hj : j = l.length := by omega
      have T : Hid (goodW l = true) := Lib.hid (by have := S.out; rwa [hj, List.take_length] at this)
      clear hj
      go_wp2_with fail
      go_ret
      exact ⟨-1, rfl, by rw [T.out]; simp, B.out⟩
set_option maxHeartbeats 1600000 in
theorem emptyW_any {w : World} {v : Value} {l : List Pc} {b : Bool} (h : Row w v l) (hb : goodW l = b) :
    Calls Tryd.prog 43 #[v, .func (.func 44) #[] #[]] w fun e w' => Val w (.bool (!b)) e w' := by
  obtain ⟨a, c, rfl, h1, h2⟩ := h.len
  have R := Lib.hid h; have HB := Lib.hid hb
  clear h hb
  go_enter Tryd.func43, Tryd.ntmps43
  go_wp2_with fail
  refine (indexW_any R.out).mono ?_
  rintro e w1 ⟨n, rfl, hn, b1⟩
  rw [HB.out] at hn
  have B1 := Lib.hid b1
  clear b1
  cases b
  · have hn0 : (0 : Int) ≤ n := hn.2 rfl
    clear hn
    go_wp2_with fail
    go_ret
    exact ⟨by simp, B1.out⟩
  · have hn0 : ¬ (0 : Int) ≤ n := fun k => by have := hn.1 k; cases this
    clear hn
    go_wp2_with fail
    go_ret
    exact ⟨by simpa using hn0, B1.out⟩
end Go.Proofs.YtanfalkpmmkklaaDoor
