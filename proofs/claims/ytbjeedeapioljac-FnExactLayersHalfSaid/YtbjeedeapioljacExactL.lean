/- The exact laws' own functions on lists of layers, how such an argument is opened, and their marks. -/
import Derived.Test.YtbjeedeapioljacLawL
import Derived.Test.YtbjeedeapioljacLayDep
import Derived.Test.YtbjeedeapioljacIntM
import Derived.Deep.SlicePairs
import Derived.ChangeArms
namespace Go.Proofs.Ytbjeedeapioljac
open Go.RowKit Go.Deep Go.ChangeShapes Go.WideShapes

theorem open_layers {H : Type} {enc : TypeId × Value → H} {P : Program} {w : World} {base : Nat} {spare : Nat → Bool} {held : Bool} {t e : TypeId} {f0 f1 : Field} {a : Option Addr} {len cap : Nat} {d : DataW H} {ps : List MemPlace}
    (ht : P.underlying t = some (.slice e)) (he : P.underlying e = some (.struct #[f0, f1])) (ce : P.cellsOf e = 2) (o0 : f0.offset = 0) (o1 : f1.offset = 1) (c0 : P.cellsOf f0.type = 1) (c1 : P.cellsOf f1.type = 1)
    (i0 : P.underlying f0.type = some (.int .i64)) (i1 : P.underlying f1.type = some .bool)
    (h : DataW.Trod enc P w base spare held t (.slice a len cap) d ps) : ∃ l, LRow w (.slice a len cap) l := by
  obtain ⟨fuel, hf⟩ := h
  rcases open_slice_pairs ht he ce o0 o1 c0 c1 hf with ⟨hcs, _⟩ | ⟨x, n, c, m, k, V0, V1, D0, D1, P0, P1, hcs, _, hl, hm, hmm, _, hx⟩
  · simp [Value.cells] at hcs
    obtain ⟨rfl, rfl, rfl⟩ := hcs
    exact ⟨[], none, 0, 0, rfl, rfl, Nat.le_refl _, Nat.zero_le _, .inl rfl⟩
  · simp [Value.cells] at hcs
    obtain ⟨rfl, rfl, rfl⟩ := hcs
    have hlm : len ≤ m := by rw [hmm]; split <;> omega
    have each : ∀ i, i < len → ∃ q : Ly, w.cell? (x.add (i * 2)) = some (.int .i64 q.1) ∧ w.cell? (x.add (i * 2 + 1)) = some (.bool q.2) := by
      intro i hi
      obtain ⟨g0, g1, t0, t1⟩ := hx i (by omega)
      obtain ⟨n0, e0, _, _⟩ := DataW.trod_int i0 t0
      obtain ⟨n1, e1, _⟩ := DataW.trod_bool i1 t1
      simp at e0 e1
      exact ⟨(n0, n1), by rw [g0, e0], by rw [g1, e1]⟩
    obtain ⟨q, hq⟩ := choose_lt each
    refine ⟨(List.range len).map q, some x, len, cap, rfl, by simp, hl, hm, ?_⟩
    by_cases h0 : len = 0
    · left; simp [h0]
    · have hs := spot_none (hq 0 (by omega)).1
      obtain ⟨b, o, s⟩ := x
      simp [Addr.add] at hs
      subst hs
      right
      refine ⟨b, o, rfl, fun i hi => ?_⟩
      have hi' : i < len := by simpa using hi
      have := hq i hi'
      have ha : ∀ k : Nat, (⟨b, o, none⟩ : Addr).add k = ⟨b, o + k, none⟩ := by
        intro k
        unfold Addr.add
        split
        · rename_i hz; simp_all
        · rfl
      rw [ha, ha] at this
      simpa [Nat.add_assoc] using this
theorem madeL (n : Nat) : (madeCells #[Value.int .i64 0, Value.bool false] (n * 2)).toList = cellsL (List.replicate n (0, false)) := by
  apply List.ext_getElem?
  intro j
  by_cases hj : j < n * 2
  · obtain ⟨c1, c2⟩ := cellsL_get (List.replicate n ((0, false) : Ly)) (j / 2) (by simp; omega)
    have h : j % 2 = 0 ∨ j % 2 = 1 := by omega
    rcases h with h | h
    · rw [show j / 2 * 2 = j by omega] at c1
      rw [c1]; simp [madeCells, hj, h]
    · rw [show j / 2 * 2 + 1 = j by omega] at c2
      rw [c2]; simp [madeCells, hj, h]
  · rw [List.getElem?_eq_none (l := cellsL _) (by rw [cellsL_length]; simp; omega)]
    simp [madeCells, hj]
theorem lfill_next {l : List Ly} {i n : Nat} (hl : l.length = n) (hi : i < n) : (l.take i ++ List.replicate (n - i) ((0, false) : Ly)).set i l[i] = l.take (i + 1) ++ List.replicate (n - (i + 1)) (0, false) := by
  have h1 : (l.take i).length = i := by rw [List.length_take]; omega
  rw [List.set_append_right _ _ (by omega), h1, Nat.sub_self, show n - i = (n - (i + 1)) + 1 by omega, List.replicate_succ, List.set_cons_zero, List.take_succ_eq_append_getElem (i := i) (by omega), List.append_assoc]
  rfl
theorem toLayer_any (p : Ly) (w : World) :
    Calls Try.prog 43 #[.agg #[.int .i64 p.1, .bool p.2]] w fun e w' => e = .returned (.agg #[.int .i64 p.1, .bool p.2]) ∧ Below w.heap.size w w' := by
  go_enter Try.func43, Try.ntmps43
  go_wp2
  go_returns
  exact ⟨rfl, by go_grown⟩
set_option maxRecDepth 100000 in
set_option maxHeartbeats 800000 in
theorem toLayerS_any {w : World} {v : Value} {l : List Ly} (h : LRow w v l) (hl20 : l.length ≤ 1048576) :
    Calls Try.prog 16 #[v] w fun e w' => LLst 62 w l e w' := by
  obtain ⟨a, n, c, rfl, hl, h1, h2, hlie⟩ := h
  have hn20 : n ≤ 1048576 := by omega
  obtain ⟨i0, hi0, hz0, hz1, hz2⟩ := info_parts layI.info
  go_enter Try.func16, Try.ntmps16
  go_wp2_with (refine wpList_make_full _ rfl _ _ 23 rfl w.heap.size 62 i0 _ 2 Try.underlying23 hi0 hz0 hz1 .i64 .i64 _ _ n rfl rfl rfl rfl (by rw [hz2]; omega) (by unfold maxLen; omega) (Nat.le_refl _) ?_; intro w1 hown hg)
  have ow : LOwn 62 w1 w.heap.size (.slice (some ⟨w.heap.size, 0, none⟩) n n) (l.take 0 ++ List.replicate (n - 0) (0, false)) := by
    show w1.ownsRow _ _ 2 _ (l.take 0 ++ List.replicate (n - 0) ((0, false) : Ly)).length (cellsL (l.take 0 ++ List.replicate (n - 0) (0, false)))
    simp only [List.take_zero, List.nil_append, Nat.sub_zero, List.length_replicate]
    rw [← madeL]; exact hown
  have OW := Lib.hid ow
  have B1 := Lib.hid ((Below.refl w.heap.size w).grown hg (Nat.le_refl _) (fun k hk => by simp at hk))
  clear ow hown hg hi0 hz0 hz1 hz2
  clear i0
  go_loopg [4] n (fun k x wr => ∃ i : Nat, x = .int .i64 i ∧ i + k = n ∧ LOwn 62 wr w.heap.size (.slice (some ⟨w.heap.size, 0, none⟩) n n) (l.take i ++ List.replicate (n - i) (0, false)) ∧ Below w.heap.size w wr)
  case atStart => exact ⟨0, rfl, by omega, OW.out, B1.out⟩
  case round =>
    obtain ⟨i, rfl, hk, ho, hb⟩ := hrel
    have K := Lib.hid hk; have O := Lib.hid ho; have B := Lib.hid hb
    have hin : i ≤ n := by omega
    clear hk ho hb
    by_cases hlt : i < n
    · obtain ⟨g, o, rfl, c1, c2⟩ := llies_cell hlie i (by omega)
      have d1 := (B.out.cell (cell_below c1)).trans c1
      have d2 := (B.out.cell (cell_below c2)).trans c2
      have HL := Lib.hid hlie
      clear hlie c1 c2
      go_wp2_with fail
      refine (toLayer_any l[i] _).mono ?_
      rintro e w2 ⟨rfl, b2⟩
      have hlen : i < (l.take i ++ List.replicate (n - i) ((0, false) : Ly)).length := by simp; omega
      obtain ⟨g', cap, e', z1, z2, z3, z4, hp, hs⟩ := (O.out.grow b2).set2 i hlen l[i]
      simp only [Value.slice.injEq, Option.some.injEq, Addr.mk.injEq, and_true] at e'
      obtain ⟨rfl, z5, z6⟩ := e'
      clear z1 z2 z3 z5 z6
      rw [lfill_next hl hlt] at hs
      obtain ⟨q, t1, t2, t3, t4⟩ : ∃ q : Ly, w2.cell? ⟨w.heap.size, i * 2, none⟩ = some (.int .i64 q.1) ∧ w2.cell? ⟨w.heap.size, i * 2 + 1, none⟩ = some (.bool q.2) ∧ w2.frozen? ⟨w.heap.size, i * 2, none⟩ = false ∧ w2.frozen? ⟨w.heap.size, i * 2 + 1, none⟩ = false := ⟨_, hp.top, hp.bot, hp.f0, hp.f1⟩
      have HS := Lib.hid hs
      have B2 := Lib.hid (B.out.trans (b2.mono B.out.size))
      clear d1 d2 b2 hp hs hlen
      go_wp2_with fail
      go_roundg (gk - 1)
      case measure => have := K.out; omega
      case rel => exact ⟨i + 1, by go_num, by have := K.out; omega, HS.out, (B2.out.setCell (p := ⟨w.heap.size, i * 2, none⟩) (Nat.le_refl _) _).setCell (p := ⟨w.heap.size, i * 2 + 1, none⟩) (Nat.le_refl _) _⟩
    · go_wp2_with fail
      go_ret
      refine ⟨_, rfl, ?_, B.out⟩
      have := O.out
      rw [List.take_of_length_le (by omega), show n - i = 0 by omega] at this
      simpa using this
theorem eqLayer_any (p q : Ly) (w : World) :
    Calls Try.prog 44 #[.agg #[.int .i64 p.1, .bool p.2], .agg #[.int .i64 q.1, .bool q.2]] w fun e w' => e = .returned (.bool (decide (p = q))) ∧ Below w.heap.size w w' := by
  by_cases e1 : p.1 = q.1
  · have f1 : (p.1 != q.1) = false := by simpa using e1
    by_cases e2 : p.2 = q.2
    · have f2 : (!(p.2 == q.2)) = false := by simp [e2]
      have R : Hid (decide (p = q) = true) := Lib.hid (decide_eq_true (Prod.ext e1 e2))
      clear e1 e2
      go_enter Try.func44, Try.ntmps44
      go_wp2
      go_ret
      exact ⟨by rw [R.out]; rfl, by go_grown⟩
    · have f2 : (!(p.2 == q.2)) = true := by simp [e2]
      have R : Hid (decide (p = q) = false) := Lib.hid (decide_eq_false (fun e => e2 (by rw [e])))
      clear e1 e2
      go_enter Try.func44, Try.ntmps44
      go_wp2
      go_ret
      exact ⟨by rw [R.out]; rfl, by go_grown⟩
  · have f1 : (p.1 != q.1) = true := by simpa using e1
    have R : Hid (decide (p = q) = false) := Lib.hid (decide_eq_false (fun e => e1 (by rw [e])))
    clear e1
    go_enter Try.func44, Try.ntmps44
    go_wp2
    go_ret
    exact ⟨by rw [R.out]; rfl, by go_grown⟩
theorem eqLayer_is {p q : Ly} {b : Bool} (h : decide (p = q) = b) (w : World) :
    Calls Try.prog 44 #[.agg #[.int .i64 p.1, .bool p.2], .agg #[.int .i64 q.1, .bool q.2]] w fun e w' => e = .returned (.bool b) ∧ Below w.heap.size w w' := by
  have := eqLayer_any p q w
  rwa [h] at this
theorem lheld4 {w w' : World} {a b c d : Addr} {u v x y : Value} (h : Below w.heap.size w w') (h1 : w.cell? a = some u) (h2 : w.cell? b = some v) (h3 : w.cell? c = some x) (h4 : w.cell? d = some y) :
    w'.cell? a = some u ∧ w'.cell? b = some v ∧ w'.cell? c = some x ∧ w'.cell? d = some y :=
  ⟨(h.cell (cell_below h1)).trans h1, (h.cell (cell_below h2)).trans h2, (h.cell (cell_below h3)).trans h3, (h.cell (cell_below h4)).trans h4⟩
theorem ltake_eq {l m : List Ly} {j : Nat} (h : l.take j = m.take j) (hl : j < l.length) (hm : j < m.length) (e : l[j] = m[j]) : l.take (j + 1) = m.take (j + 1) := by
  rw [List.take_succ_eq_append_getElem hl, List.take_succ_eq_append_getElem hm, h, e]
set_option maxHeartbeats 800000 in
theorem eqLayerS_any {w : World} {v u : Value} {l m : List Ly} (h : LRow w v l) (k : LRow w u m) :
    Calls Try.prog 18 #[v, u] w fun e w' => e = .returned (.bool (decide (l = m))) ∧ Below w.heap.size w w' := by
  obtain ⟨a, n, c, rfl, hl, h1, h2, hlie⟩ := h
  obtain ⟨a', n', c', rfl, hl', h1', h2', hlie'⟩ := k
  have hm : n ≤ maxLen := by omega
  have hm' : n' ≤ maxLen := by omega
  unfold maxLen at hm hm'
  by_cases hnn : n = n'
  rotate_left
  · have hb : ((n : Int) != (n' : Int)) = true := by rw [bne_iff_ne]; omega
    have R : Hid (decide (l = m) = false) := Lib.hid (decide_eq_false (fun e => by subst e; omega))
    clear hnn
    go_enter Try.func18, Try.ntmps18
    go_wp2_with fail
    go_ret
    exact ⟨by rw [R.out]; rfl, Below.refl _ _⟩
  subst hnn
  go_enter Try.func18, Try.ntmps18
  go_wp2_with fail
  go_loopg [5] n (fun k x wr => ∃ j : Nat, x = .int .i64 j ∧ j + k = n ∧ l.take j = m.take j ∧ Below w.heap.size w wr)
  case atStart => exact ⟨0, rfl, by omega, rfl, Below.refl _ _⟩
  case round =>
    obtain ⟨j, rfl, hk, hs, hb⟩ := hrel
    have K := Lib.hid hk; have S := Lib.hid hs; have B := Lib.hid hb
    have hjn : j ≤ n := by omega
    clear hk hs hb
    by_cases hlt : j < n
    · obtain ⟨g, o, rfl, c1, c2⟩ := llies_cell hlie j (by omega)
      obtain ⟨g', o', rfl, c3, c4⟩ := llies_cell hlie' j (by omega)
      have d1 := (B.out.cell (cell_below c1)).trans c1
      have d2 := (B.out.cell (cell_below c2)).trans c2
      have d3 := (B.out.cell (cell_below c3)).trans c3
      have d4 := (B.out.cell (cell_below c4)).trans c4
      clear c1 c2 c3 c4 hlie hlie'
      have s3 : (0 : Int) ≤ (j : Int) := Int.natCast_nonneg _
      have s4 : (j : Int) < (n : Int) := by omega
      cases he : decide (l[j] = m[j])
      · have HE := Lib.hid he
        have R : Hid (decide (l = m) = false) := Lib.hid (decide_eq_false (fun e => by subst e; simp at he))
        clear he
        go_wp2_with fail
        go_region_held3 (fun w' => w'.cell? ⟨g, o + j * 2, none⟩ = some (.int .i64 l[j].1) ∧ w'.cell? ⟨g, o + j * 2 + 1, none⟩ = some (.bool l[j].2) ∧ w'.cell? ⟨g', o' + j * 2, none⟩ = some (.int .i64 m[j].1) ∧ w'.cell? ⟨g', o' + j * 2 + 1, none⟩ = some (.bool m[j].2))
          (first | go_keep | (go_split_ands; exact lheld4 hb' ‹_› ‹_› ‹_› ‹_›))
          (((go_at_call 44); refine (eqLayer_is HE.out _).mono ?_; rintro e w' ⟨rfl, hb'⟩))
        have B2 := Lib.hid (B.out.drew.trans (hb'.mono B.out.size))
        clear hb'
        go_wp2_with fail
        go_ret
        exact ⟨by rw [R.out]; rfl, B2.out⟩
      · have HE := Lib.hid he
        clear he
        go_wp2_with fail
        go_region_held3 (fun w' => w'.cell? ⟨g, o + j * 2, none⟩ = some (.int .i64 l[j].1) ∧ w'.cell? ⟨g, o + j * 2 + 1, none⟩ = some (.bool l[j].2) ∧ w'.cell? ⟨g', o' + j * 2, none⟩ = some (.int .i64 m[j].1) ∧ w'.cell? ⟨g', o' + j * 2 + 1, none⟩ = some (.bool m[j].2))
          (first | go_keep | (go_split_ands; exact lheld4 hb' ‹_› ‹_› ‹_› ‹_›))
          (((go_at_call 44); refine (eqLayer_is HE.out _).mono ?_; rintro e w' ⟨rfl, hb'⟩))
        have B2 := Lib.hid (B.out.drew.trans (hb'.mono B.out.size))
        clear hb'
        go_wp2_with fail
        go_roundg (gk - 1)
        case measure => have := K.out; omega
        case rel => exact ⟨j + 1, by go_num, by have := K.out; omega, ltake_eq S.out (by omega) (by omega) (of_decide_eq_true HE.out), B2.out⟩
    · have R : Hid (decide (l = m) = true) := Lib.hid (decide_eq_true (by have := S.out; rwa [List.take_of_length_le (by omega), List.take_of_length_le (by omega)] at this))
      go_wp2_with fail
      go_ret
      exact ⟨by rw [R.out]; rfl, B.out⟩
theorem leqs_yes {w : World} {v u : Value} {l m : List Ly} (h : LRow w v l) (k : LRow w u m) (e : l = m) : Calls Try.prog 18 #[v, u] w fun e w' => e = .returned (.bool true) ∧ Below w.heap.size w w' := by
  have := eqLayerS_any h k
  rwa [decide_eq_true e] at this
theorem szLayerS_no (a : Option Addr) (n c : Nat) (L : Int) (hL : 0 ≤ L ∧ L ≤ 1048576) (hn : n ≤ 9223372036854775807) (h : L < n) (w : World) :
    Calls Try.prog 14 #[.slice a n c, .int .i64 L] w fun e w' => e = .returned (.int .i64 (-1)) ∧ w = w' := by
  have z : IntKind.i64.wrap (L - n) = L - n := IntWalk.i64_in _ (by omega)
  have d : decide (L - (n : Int) < 0) = true := by simp; omega
  go_enter Try.func14, Try.ntmps14
  go_wp2
  go_ret
  exact ⟨rfl, rfl⟩
theorem szLayerS_yes (a : Option Addr) (n c : Nat) (L : Int) (hL : 0 ≤ L ∧ L ≤ 1048576) (h : (n : Int) ≤ L) (w : World) :
    Calls Try.prog 14 #[.slice a n c, .int .i64 L] w fun e w' => e = .returned (.int .i64 (L - n)) ∧ w = w' := by
  have z : IntKind.i64.wrap (L - n) = L - n := IntWalk.i64_in _ (by omega)
  have d : decide (L - (n : Int) < 0) = false := by simp; omega
  go_enter Try.func14, Try.ntmps14
  go_wp2
  go_ret
  exact ⟨rfl, rfl⟩
theorem LOwn.chg {T : TypeId} {w w' : World} {B : Nat} {v u : Value} {l : List Ly} (h : LOwn T w B v l) (k : Chg u w w') (hne : ∀ b, v.ownBlock = some b → u.ownBlock ≠ some b) : LOwn T w' B v l :=
  h.same fun b hb => k.block b (hne b hb)
theorem LOwn.lies {T : TypeId} {w : World} {B : Nat} {v : Value} {l : List Ly} (h : LOwn T w B v l) : In B w.heap.size v := h.lt

def lmark (k : Int) (i : Nat) : Ly := (k + 2 * (i : Int), decide ((k + 2 * (i : Int) + 1) % 3 = 0))
def lmarks (k : Int) (n : Nat) : List Ly := (List.range n).map (lmark k)
theorem lmarks_length (k : Int) (n : Nat) : (lmarks k n).length = n := by simp [lmarks]
theorem lmarks_get (k : Int) (n i : Nat) (h : i < (lmarks k n).length) : (lmarks k n)[i] = lmark k i := by simp [lmarks]
theorem lmark_next {k : Int} {l : List Ly} {j : Nat} (hj : j < l.length) : (lmarks k j ++ l.drop j).set j (lmark k j) = lmarks k (j + 1) ++ l.drop (j + 1) := by
  rw [List.set_append_right _ _ (by rw [lmarks_length]; omega), lmarks_length, Nat.sub_self, List.drop_eq_getElem_cons hj, List.set_cons_zero]
  simp [lmarks, List.range_succ]
def LMarked (k : Int) (w : World) (B : Nat) (v : Value) (n : Nat) (e : Ending) (w' : World) : Prop := e = .returned (.int .i64 (k + 2 * (n : Int))) ∧ LOwn 62 w' B v (lmarks k n) ∧ Chg v w w'
set_option maxHeartbeats 800000 in
theorem markLayerS_any {w : World} {B : Nat} {v : Value} {l : List Ly} {k0 : Int} (h : LOwn 62 w B v l) (hl : l.length ≤ 1048576) (h0k : 0 ≤ k0) (h1k : k0 ≤ 1000000000) :
    Calls Try.prog 25 #[v, .int .i64 k0] w fun e w' => LMarked k0 w B v l.length e w' := by
  by_cases h0 : 0 < l.length
  rotate_left
  · have hl0 : l = [] := List.eq_nil_of_length_eq_zero (by omega)
    subst hl0
    have H := Lib.hid h
    obtain ⟨a, n, c, rfl, hn, _, _, _⟩ := h.row
    simp only [List.length_nil] at hn h0 hl ⊢
    subst hn
    clear h
    go_enter Try.func25, Try.ntmps25
    go_wp2_with fail
    go_loopg [1, 5] 0 (fun k x y wr => x = .int .i64 k0 ∧ y = .int .i64 0 ∧ w = wr)
    case atStart => exact ⟨rfl, rfl, rfl⟩
    case round =>
      obtain ⟨rfl, rfl, rfl⟩ := hrel
      go_wp2_with fail
      go_ret
      exact ⟨by simp, by simpa [lmarks] using H.out, Chg.refl _ _⟩
  obtain ⟨g, cap, rfl, h1, h2, h3, h4, _⟩ := h.at h0
  unfold maxLen at h2
  have H := Lib.hid h
  clear h
  go_enter Try.func25, Try.ntmps25
  go_wp2_with fail
  go_loopg [1, 5] l.length (fun k x y wr => ∃ j : Nat, x = .int .i64 (k0 + 2 * (j : Int)) ∧ y = .int .i64 j ∧ j + k = l.length ∧ LOwn 62 wr B (.slice (some ⟨g, 0, none⟩) l.length cap) (lmarks k0 j ++ l.drop j) ∧ Chg (.slice (some ⟨g, 0, none⟩) l.length cap) w wr)
  case atStart => exact ⟨0, by simp, rfl, by omega, by simpa [lmarks] using H.out, Chg.refl _ _⟩
  case round =>
    obtain ⟨j, rfl, rfl, hk, ho, hc⟩ := hrel
    have K := Lib.hid hk; have O := Lib.hid ho; have C := Lib.hid hc
    have hjl : j ≤ l.length := by omega
    clear hk ho hc
    by_cases hlt : j < l.length
    · have hlen : j < (lmarks k0 j ++ l.drop j).length := by rw [List.length_append, lmarks_length, List.length_drop]; omega
      obtain ⟨g', cap', e', z1, z2, z3, z4, hp, hs⟩ := O.out.set2 j hlen (lmark k0 j)
      simp only [Value.slice.injEq, Option.some.injEq, Addr.mk.injEq, and_true] at e'
      obtain ⟨rfl, z5, z6⟩ := e'
      rw [lmark_next hlt] at hs
      obtain ⟨q, t1, t2, t3, t4⟩ : ∃ q : Ly, wr.cell? ⟨g, j * 2, none⟩ = some (.int .i64 q.1) ∧ wr.cell? ⟨g, j * 2 + 1, none⟩ = some (.bool q.2) ∧ wr.frozen? ⟨g, j * 2, none⟩ = false ∧ wr.frozen? ⟨g, j * 2 + 1, none⟩ = false := ⟨_, hp.top, hp.bot, hp.f0, hp.f1⟩
      obtain ⟨r, hr⟩ : ∃ r : Int, (k0 + 2 * (j : Int) + 1) % 3 = r := ⟨_, rfl⟩
      have hrt : (k0 + 2 * (j : Int) + 1).tmod 3 = r := by rw [Int.tmod_eq_emod_of_nonneg (by omega)]; exact hr
      have zr : IntKind.i64.wrap r = r := IntWalk.i64_in _ (by omega)
      obtain ⟨b, hb⟩ : ∃ b : Bool, decide (r = 0) = b := ⟨_, rfl⟩
      have hb2 : (r == 0) = b := by rw [← hb]; rfl
      rw [show lmark k0 j = (k0 + 2 * (j : Int), b) by unfold lmark; rw [hr, hb]] at hs
      have HS := Lib.hid hs
      have C2 := Lib.hid ((C.out.set rfl (j * 2) (.int .i64 (k0 + 2 * (j : Int)))).set rfl (j * 2 + 1) (.bool b))
      have e1 : IntKind.i64.wrap (k0 + 2 * (j : Int)) = k0 + 2 * (j : Int) := IntWalk.i64_in _ (by omega)
      have e2 : IntKind.i64.wrap (k0 + 2 * (j : Int) + 1) = k0 + 2 * (j : Int) + 1 := IntWalk.i64_in _ (by omega)
      have e3 : IntKind.i64.wrap (k0 + 2 * (j : Int) + 1 + 1) = k0 + 2 * (j : Int) + 1 + 1 := IntWalk.i64_in _ (by omega)
      clear z1 z2 z3 z4 z5 z6 hp hs hlen hr hb
      go_wp2_with fail
      go_roundg (gk - 1)
      case measure => have := K.out; omega
      case rel => exact ⟨j + 1, by first | go_num | (congr 1; push_cast; omega), by go_num, by have := K.out; omega, HS.out, C2.out⟩
    · go_wp2_with fail
      go_ret
      have hj : j = l.length := by omega
      refine ⟨by rw [hj]; rfl, ?_, C.out⟩
      have := O.out
      rw [List.drop_of_length_le (by omega), hj] at this
      simpa using this
set_option maxHeartbeats 800000 in
theorem heldLayerS_any {w : World} {B : Nat} {v : Value} {n : Nat} {k0 : Int} (h : LOwn 62 w B v (lmarks k0 n)) (hl : n ≤ 1048576) (h0k : 0 ≤ k0) (h1k : k0 ≤ 1000000000) :
    Calls Try.prog 26 #[v, .int .i64 k0] w fun e w' => e = .returned (.int .i64 (k0 + 2 * (n : Int))) ∧ w = w' := by
  obtain ⟨a, n', c, rfl, hn, hc1, hc2, hlie⟩ := h.row
  rw [lmarks_length] at hn
  subst hn
  have HLI := Lib.hid hlie
  clear h hlie
  unfold maxLen at hc2
  go_enter Try.func26, Try.ntmps26
  go_wp2_with fail
  go_loopg [1, 5] n (fun k x y wr => ∃ j : Nat, x = .int .i64 (k0 + 2 * (j : Int)) ∧ y = .int .i64 j ∧ j + k = n ∧ w = wr)
  case atStart => exact ⟨0, by simp, rfl, by omega, rfl⟩
  case round =>
    obtain ⟨j, rfl, rfl, hk, rfl⟩ := hrel
    have K := Lib.hid hk
    have hjl : j ≤ n := by omega
    clear hk
    by_cases hlt : j < n
    · obtain ⟨g, o, rfl, c1, c2⟩ := llies_cell HLI.out j (by rw [lmarks_length]; exact hlt)
      rw [lmarks_get] at c1 c2
      obtain ⟨r, hr⟩ : ∃ r : Int, (k0 + 2 * (j : Int) + 1) % 3 = r := ⟨_, rfl⟩
      have hrt : (k0 + 2 * (j : Int) + 1).tmod 3 = r := by rw [Int.tmod_eq_emod_of_nonneg (by omega)]; exact hr
      have zr : IntKind.i64.wrap r = r := IntWalk.i64_in _ (by omega)
      obtain ⟨b, hb⟩ : ∃ b : Bool, decide (r = 0) = b := ⟨_, rfl⟩
      have hb2 : (r == 0) = b := by rw [← hb]; rfl
      rw [show lmark k0 j = (k0 + 2 * (j : Int), b) by unfold lmark; rw [hr, hb]] at c1 c2
      have f1 : ((k0 + 2 * (j : Int)) != (k0 + 2 * (j : Int))) = false := by simp
      have f2 : (b != b) = false := by simp
      have e1 : IntKind.i64.wrap (k0 + 2 * (j : Int)) = k0 + 2 * (j : Int) := IntWalk.i64_in _ (by omega)
      have e2 : IntKind.i64.wrap (k0 + 2 * (j : Int) + 1) = k0 + 2 * (j : Int) + 1 := IntWalk.i64_in _ (by omega)
      have e3 : IntKind.i64.wrap (k0 + 2 * (j : Int) + 1 + 1) = k0 + 2 * (j : Int) + 1 + 1 := IntWalk.i64_in _ (by omega)
      clear hr hb
      go_wp2_with fail
      go_roundg (gk - 1)
      case measure => have := K.out; omega
      case rel => exact ⟨j + 1, by first | go_num | (congr 1; push_cast; omega), by go_num, by have := K.out; omega, rfl⟩
    · go_wp2_with fail
      go_ret
      have hj : j = n := by omega
      exact ⟨by rw [hj]; rfl, rfl⟩
end Go.Proofs.Ytbjeedeapioljac
