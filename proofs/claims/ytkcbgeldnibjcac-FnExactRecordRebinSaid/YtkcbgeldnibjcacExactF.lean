/- The exact law on records in other bins: what its walk names. -/
import Derived.Test.YtkcbgeldnibjcacIntM
import Derived.Test.YtkcbgeldnibjcacRebSpec
import Derived.Test.YtkcbgeldnibjcacExact
namespace Go.Proofs.Ytkcbgeldnibjcac
open Go.RowKit

def marks (n : Nat) : List Pc := (List.range n).map fun (i : Nat) => ((1 + 2 * (i : Int), 2 + 2 * (i : Int)) : Pc)
theorem marks_length (n : Nat) : (marks n).length = n := by simp [marks]
theorem marks_get (n i : Nat) (h : i < (marks n).length) : (marks n)[i] = (1 + 2 * (i : Int), 2 + 2 * (i : Int)) := by simp [marks]
theorem mark_next {l : List Pc} {j : Nat} (hj : j < l.length) : (marks j ++ l.drop j).set j (1 + 2 * (j : Int), 2 + 2 * (j : Int)) = marks (j + 1) ++ l.drop (j + 1) := by
  rw [List.set_append_right _ _ (by rw [marks_length]; omega), marks_length, Nat.sub_self, List.drop_eq_getElem_cons hj, List.set_cons_zero]
  simp [marks, List.range_succ]
def MarkedBy (w : World) (B : Nat) (v : Value) (n : Nat) (e : Ending) (w' : World) : Prop := e = .returned (.int .i64 (1 + 2 * (n : Int))) ∧ Own 24 w' B v (marks n) ∧ Chg v w w'

set_option maxHeartbeats 800000 in
theorem mark_any {w : World} {B : Nat} {v : Value} {l : List Pc} (h : Own 24 w B v l) (hl : l.length ≤ 1048576) :
    Calls Try.prog 16 #[v, .int .i64 1] w fun e w' => MarkedBy w B v l.length e w' := by
  by_cases h0 : 0 < l.length
  rotate_left
  · have hl0 : l = [] := List.eq_nil_of_length_eq_zero (by omega)
    subst hl0
    have H := Lib.hid h
    obtain ⟨a, n, c, rfl, hn, _, _, _⟩ := h.row
    simp only [List.length_nil] at hn h0 hl ⊢
    subst hn
    clear h
    go_enter Try.func16, Try.ntmps16
    go_wp2_with fail
    go_loopg [1, 5] 0 (fun k x y wr => x = .int .i64 1 ∧ y = .int .i64 0 ∧ w = wr)
    case atStart => exact ⟨rfl, rfl, rfl⟩
    case round =>
      obtain ⟨rfl, rfl, rfl⟩ := hrel
      go_wp2_with fail
      go_ret
      exact ⟨rfl, by simpa [marks] using H.out, Chg.refl _ _⟩
  obtain ⟨g, cap, rfl, h1, h2, h3, h4, _⟩ := h.at h0
  unfold maxLen at h2
  have H := Lib.hid h
  clear h
  go_enter Try.func16, Try.ntmps16
  go_wp2_with fail
  go_loopg [1, 5] l.length (fun k x y wr => ∃ j : Nat, x = .int .i64 (1 + 2 * (j : Int)) ∧ y = .int .i64 j ∧ j + k = l.length ∧ Own 24 wr B (.slice (some ⟨g, 0, none⟩) l.length cap) (marks j ++ l.drop j) ∧ Chg (.slice (some ⟨g, 0, none⟩) l.length cap) w wr)
  case atStart => exact ⟨0, rfl, rfl, by omega, by simpa [marks] using H.out, Chg.refl _ _⟩
  case round =>
    obtain ⟨j, rfl, rfl, hk, ho, hc⟩ := hrel
    have K := Lib.hid hk; have O := Lib.hid ho; have C := Lib.hid hc
    have hjl : j ≤ l.length := by omega
    clear hk ho hc
    by_cases hlt : j < l.length
    · have hlen : j < (marks j ++ l.drop j).length := by rw [List.length_append, marks_length, List.length_drop]; omega
      obtain ⟨g', cap', e', z1, z2, z3, z4, hp, hs⟩ := O.out.set2 j hlen (1 + 2 * (j : Int), 2 + 2 * (j : Int))
      simp only [Value.slice.injEq, Option.some.injEq, Addr.mk.injEq, and_true] at e'
      obtain ⟨rfl, z5, z6⟩ := e'
      clear z1 z2 z3 z4 z5 z6
      rw [mark_next hlt] at hs
      obtain ⟨q, t1, t2, t3, t4⟩ : ∃ q : Pc, wr.cell? ⟨g, j * 2, none⟩ = some (.int .i64 q.1) ∧ wr.cell? ⟨g, j * 2 + 1, none⟩ = some (.int .i64 q.2) ∧ wr.frozen? ⟨g, j * 2, none⟩ = false ∧ wr.frozen? ⟨g, j * 2 + 1, none⟩ = false := ⟨_, hp.top, hp.bot, hp.f0, hp.f1⟩
      have e2 : (2 : Int) + 2 * (j : Int) = 1 + 2 * (j : Int) + 1 := by omega
      rw [e2] at hs
      have HS := Lib.hid hs
      have C2 := Lib.hid ((C.out.set rfl (j * 2) (.int .i64 (1 + 2 * (j : Int)))).set rfl (j * 2 + 1) (.int .i64 (1 + 2 * (j : Int) + 1)))
      clear hp hs hlen e2
      go_wp2_with fail
      go_roundg (gk - 1)
      case measure => have := K.out; omega
      case rel => exact ⟨j + 1, by first | go_num | (congr 1; push_cast; omega), by go_num, by have := K.out; omega, HS.out, C2.out⟩
    · go_wp2_with fail
      go_ret
      have hj : j = l.length := by omega
      refine ⟨by rw [hj]; rfl, ?_, C.out⟩
      have := O.out
      rw [List.drop_of_length_le (by omega), hj] at this
      simpa using this

set_option maxHeartbeats 800000 in
theorem held_any {w : World} {B : Nat} {v : Value} {n : Nat} (h : Own 24 w B v (marks n)) (hl : n ≤ 1048576) :
    Calls Try.prog 17 #[v, .int .i64 1] w fun e w' => e = .returned (.int .i64 (1 + 2 * (n : Int))) ∧ w = w' := by
  obtain ⟨a, n', c, rfl, hn, hc1, hc2, hlie⟩ := h.row
  rw [marks_length] at hn
  subst hn
  have HLI := Lib.hid hlie
  clear h hlie
  unfold maxLen at hc2
  go_enter Try.func17, Try.ntmps17
  go_wp2_with fail
  go_loopg [1, 5] n (fun k x y wr => ∃ j : Nat, x = .int .i64 (1 + 2 * (j : Int)) ∧ y = .int .i64 j ∧ j + k = n ∧ w = wr)
  case atStart => exact ⟨0, rfl, rfl, by omega, rfl⟩
  case round =>
    obtain ⟨j, rfl, rfl, hk, rfl⟩ := hrel
    have K := Lib.hid hk
    have hjl : j ≤ n := by omega
    clear hk
    by_cases hlt : j < n
    · obtain ⟨g, o, rfl, c1, c2⟩ := lies_cell HLI.out j (by rw [marks_length]; exact hlt)
      rw [marks_get] at c1 c2
      have f1 : ((1 + 2 * (j : Int)) != (1 + 2 * (j : Int))) = false := by simp
      have e2 : (2 : Int) + 2 * (j : Int) = 1 + 2 * (j : Int) + 1 := by omega
      rw [e2] at c2
      have f2 : ((1 + 2 * (j : Int) + 1) != (1 + 2 * (j : Int) + 1)) = false := by simp
      clear e2
      go_wp2_with fail
      go_roundg (gk - 1)
      case measure => have := K.out; omega
      case rel => exact ⟨j + 1, by first | go_num | (congr 1; push_cast; omega), by go_num, by have := K.out; omega, rfl⟩
    · go_wp2_with fail
      go_ret
      have hj : j = n := by omega
      exact ⟨by rw [hj]; rfl, rfl⟩
theorem fr_held {w w' : World} {p q r s : Addr} {x y z u : Value} (b : Below w.heap.size w w') (h : w.cell? p = some x) (h1 : w.cell? q = some y) (h2 : w.cell? r = some z) (h3 : w.cell? s = some u) : w'.cell? p = some x ∧ w'.cell? q = some y ∧ w'.cell? r = some z ∧ w'.cell? s = some u :=
  ⟨(b.cell (cell_below h)).trans h, (b.cell (cell_below h1)).trans h1, (b.cell (cell_below h2)).trans h2, (b.cell (cell_below h3)).trans h3⟩
theorem frac_eq (p : Pc) (w : World) : Calls Try.prog 10 #[.agg #[.int .i64 p.1, .int .i64 p.2], .agg #[.int .i64 p.1, .int .i64 p.2]] w fun e w' => e = .returned (.bool true) ∧ Below w.heap.size w w' :=
  (eqFrac_any p.1 p.2 p.1 p.2 w).mono fun e w' h => ⟨by rw [h.1]; simp, h.2⟩
set_option maxHeartbeats 800000 in
theorem feqs_yes {w : World} {v u : Value} {l : List Pc} (h : Row w v l) (k : Row w u l) :
    Calls Try.prog 14 #[v, u] w fun e w' => e = .returned (.bool true) ∧ Below w.heap.size w w' := by
  obtain ⟨a, n, c, rfl, hl, h1, h2, hlie⟩ := h
  obtain ⟨a', n', c', rfl, hl', h1', h2', hlie'⟩ := k
  have hm : n ≤ maxLen := by omega
  unfold maxLen at hm
  obtain rfl : n = n' := by omega
  have nn : ((n : Int) != (n : Int)) = false := by simp
  go_enter Try.func14, Try.ntmps14
  go_wp2_with fail
  go_loopg [5] n (fun k x wr => ∃ j : Nat, x = .int .i64 j ∧ j + k = n ∧ Below w.heap.size w wr)
  case atStart => exact ⟨0, rfl, by omega, Below.refl _ _⟩
  case round =>
    obtain ⟨j, rfl, hk, hb⟩ := hrel
    have K := Lib.hid hk; have B := Lib.hid hb
    have hjn : j ≤ n := by omega
    clear hk hb
    by_cases hlt : j < n
    · obtain ⟨g, o, rfl, c1, c2⟩ := lies_cell hlie j (by omega)
      obtain ⟨g', o', rfl, c3, c4⟩ := lies_cell hlie' j (by omega)
      have d1 := (B.out.cell (cell_below c1)).trans c1
      have d2 := (B.out.cell (cell_below c2)).trans c2
      have d3 := (B.out.cell (cell_below c3)).trans c3
      have d4 := (B.out.cell (cell_below c4)).trans c4
      clear c1 c2 c3 c4 hlie hlie'
      have s3 : (0 : Int) ≤ (j : Int) := Int.natCast_nonneg _
      have s4 : (j : Int) < (n : Int) := by omega
      go_wp2_with fail
      go_region_held3 (fun w' => w'.cell? ⟨g, o + j * 2, none⟩ = some (.int .i64 l[j].1) ∧ w'.cell? ⟨g, o + j * 2 + 1, none⟩ = some (.int .i64 l[j].2) ∧ w'.cell? ⟨g', o' + j * 2, none⟩ = some (.int .i64 l[j].1) ∧ w'.cell? ⟨g', o' + j * 2 + 1, none⟩ = some (.int .i64 l[j].2))
        (first | go_keep | (go_split_ands; exact fr_held hb' ‹_› ‹_› ‹_› ‹_›))
        (((go_at_call 10); refine (frac_eq l[j] _).mono ?_; rintro e w' ⟨rfl, hb'⟩))
      have B2 := Lib.hid (B.out.drew.trans (hb'.mono B.out.size))
      clear hb'
      go_wp2_with fail
      go_roundg (gk - 1)
      case measure => have := K.out; omega
      case rel => exact ⟨j + 1, by go_num, by have := K.out; omega, B2.out⟩
    · go_wp2_with fail
      go_ret
      exact ⟨rfl, B.out⟩
theorem Own.lies {w : World} {B : Nat} {v : Value} {l : List Pc} (h : Own 24 w B v l) : In B w.heap.size v := h.lt
theorem Own.chg {w w' : World} {B : Nat} {v u : Value} {l : List Pc} (h : Own 24 w B v l) (k : Chg u w w') (hne : ∀ b, v.ownBlock = some b → u.ownBlock ≠ some b) : Own 24 w' B v l :=
  h.same fun b hb => k.block b (hne b hb)
theorem reb20 (l m o : List Int) : (((rebOf l m o).getD []).map pr).length ≤ 1000 := by
  cases h : rebOf l m o with
  | none => simp
  | some rs =>
    obtain ⟨t, o', rfl, _, he, hb⟩ := rebOf_is h
    have := bets_len hb
    have := (isEdges_len he).2
    simp only [Option.getD_some, List.length_map, List.length_cons] at this ⊢
    omega
theorem rebB_gen {P : Program} {f : FuncId} {x : Array Value} {w : World} {o : Option (List Rat)} {me : List Pc} {ob : Bool} (h : Calls P f x w fun e w' => RebB w o e w') (e1 : (o.getD []).map pr = me) (e3 : o.isSome = ob) :
    Calls P f x w fun e w' => ∃ v, e = .returned (.tuple #[v, .bool ob]) ∧ Own 24 w' w.heap.size v me ∧ Below w.heap.size w w' := by
  subst e1 e3; exact h
end Go.Proofs.Ytkcbgeldnibjcac
