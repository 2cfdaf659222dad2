/- The exact laws' marks: a slice is written over, and read again. -/
import Derived.Test.YthpfehjjaamkkacKnotP
namespace Go.Proofs.Ythpfehjjaamkkac
open Go.RowKit

def marks (n : Nat) : List Pc := (List.range n).map fun (i : Nat) => ((1 + 2 * (i : Int), 2 + 2 * (i : Int)) : Pc)
theorem marks_length (n : Nat) : (marks n).length = n := by simp [marks]
theorem marks_get (n i : Nat) (h : i < (marks n).length) : (marks n)[i] = (1 + 2 * (i : Int), 2 + 2 * (i : Int)) := by simp [marks]
theorem mark_next {l : List Pc} {j : Nat} (hj : j < l.length) : (marks j ++ l.drop j).set j (1 + 2 * (j : Int), 2 + 2 * (j : Int)) = marks (j + 1) ++ l.drop (j + 1) := by
  rw [List.set_append_right _ _ (by rw [marks_length]; omega), marks_length, Nat.sub_self, List.drop_eq_getElem_cons hj, List.set_cons_zero]
  simp [marks, List.range_succ]
/-- Nothing has turned but the block of the value v. -/
structure Chg (v : Value) (w w' : World) : Prop where
  os : w'.os = w.os
  tape : w'.tape = w.tape
  output : w'.output = w.output
  size : w'.heap.size = w.heap.size
  block : ∀ k, v.ownBlock ≠ some k → w'.heap[k]? = w.heap[k]?
theorem Chg.refl (v : Value) (w : World) : Chg v w w := ⟨rfl, rfl, rfl, rfl, fun _ _ => rfl⟩
theorem Chg.set {v : Value} {w w' : World} (h : Chg v w w') {g : Nat} (hg : v.ownBlock = some g) (o : Nat) (u : Value) : Chg v w (w'.setCell ⟨g, o, none⟩ u) :=
  ⟨h.os, h.tape, h.output, by simpa [World.setCell] using h.size, fun k hk => (Below.heap_setCell _ _ _ _ (fun e => hk (by rw [hg, e]))).trans (h.block k hk)⟩
theorem Chg.below {v : Value} {w w' : World} {B : Nat} (h : Chg v w w') (hB : ∀ k, v.ownBlock = some k → B ≤ k) : Below B w w' :=
  ⟨h.os, h.tape, h.output, by rw [h.size]; exact Nat.le_refl _, fun k hk => h.block k (fun e => by have := hB k e; omega)⟩
/-- A slice of the call's own whose block lies from L on and ahead of U. -/
def Owned (w : World) (L U : Nat) (v : Value) (l : List Pc) : Prop := Own 29 w L v l ∧ ∀ k, v.ownBlock = some k → k < U
theorem Own.owned {w : World} {L : Nat} {v : Value} {l : List Pc} (h : Own 29 w L v l) : Owned w L w.heap.size v l := ⟨h, fun k hk => (h.lt k hk).2⟩
theorem Owned.grow {w w' : World} {L U : Nat} {v : Value} {l : List Pc} (h : Owned w L U v l) (k : Below w.heap.size w w') : Owned w' L U v l := ⟨h.1.grow k, h.2⟩
theorem Owned.chg {w w' : World} {L U L' U' : Nat} {v u : Value} {l m : List Pc} (h : Owned w L U v l) (k : Chg u w w') (o : Owned w L' U' u m) (hd : U ≤ L' ∨ U' ≤ L) : Owned w' L U v l :=
  ⟨h.1.same fun b hb => k.block b (fun e => by
    have h1 := h.2 b hb; have h2 := (h.1.lt b hb).1; have h3 := o.2 b e; have h4 := (o.1.lt b e).1
    omega), h.2⟩
theorem Owned.row {w : World} {L U : Nat} {v : Value} {l : List Pc} (h : Owned w L U v l) : Row w v l := h.1.row

def MarkedBy (w : World) (B : Nat) (v : Value) (n : Nat) (e : Ending) (w' : World) : Prop := e = .returned (.int .i64 (1 + 2 * (n : Int))) ∧ Own 29 w' B v (marks n) ∧ Chg v w w'

set_option maxHeartbeats 800000 in
theorem mark_any {w : World} {B : Nat} {v : Value} {l : List Pc} (h : Own 29 w B v l) (hl : l.length ≤ 1048576) :
    Calls Try.prog 34 #[v, .int .i64 1] w fun e w' => MarkedBy w B v l.length e w' := by
  by_cases h0 : 0 < l.length
  rotate_left
  · have hl0 : l = [] := List.eq_nil_of_length_eq_zero (by omega)
    subst hl0
    have H := Lib.hid h
    obtain ⟨a, n, c, rfl, hn, _, _, _⟩ := h.row
    simp only [List.length_nil] at hn h0 hl ⊢
    subst hn
    clear h
    go_enter Try.func34, Try.ntmps34
    go_wp2_with fail
    go_loopg [1, 5] 0 (fun k x y wr => x = .int .i64 1 ∧ y = .int .i64 0 ∧ w = wr)
    case atStart => exact ⟨rfl, rfl, rfl⟩
    case round =>
      obtain ⟨rfl, rfl, rfl⟩ := hrel
      go_wp2_with fail
      go_ret
      exact ⟨rfl, by simpa [marks] using H.out, Chg.refl _ _⟩
  obtain ⟨g, cap, rfl, h1, h2, h3, h4, _⟩ := h.at h0
  unfold maxLen at h2
  have H := Lib.hid h
  clear h
  go_enter Try.func34, Try.ntmps34
  go_wp2_with fail
  go_loopg [1, 5] l.length (fun k x y wr => ∃ j : Nat, x = .int .i64 (1 + 2 * (j : Int)) ∧ y = .int .i64 j ∧ j + k = l.length ∧ Own 29 wr B (.slice (some ⟨g, 0, none⟩) l.length cap) (marks j ++ l.drop j) ∧ Chg (.slice (some ⟨g, 0, none⟩) l.length cap) w wr)
  case atStart => exact ⟨0, rfl, rfl, by omega, by simpa [marks] using H.out, Chg.refl _ _⟩
  case round =>
    obtain ⟨j, rfl, rfl, hk, ho, hc⟩ := hrel
    have K := Lib.hid hk; have O := Lib.hid ho; have C := Lib.hid hc
    have hjl : j ≤ l.length := by omega
    clear hk ho hc
    by_cases hlt : j < l.length
    · have hlen : j < (marks j ++ l.drop j).length := by rw [List.length_append, marks_length, List.length_drop]; omega
      obtain ⟨g', cap', e', z1, z2, z3, z4, hp, hs⟩ := O.out.set2 j hlen (1 + 2 * (j : Int), 2 + 2 * (j : Int))
      simp only [Value.slice.injEq, Option.some.injEq, Addr.mk.injEq, and_true] at e'
      obtain ⟨rfl, z5, z6⟩ := e'
      clear z1 z2 z3 z4 z5 z6
      rw [mark_next hlt] at hs
      obtain ⟨q, t1, t2, t3, t4⟩ : ∃ q : Pc, wr.cell? ⟨g, j * 2, none⟩ = some (.int .i64 q.1) ∧ wr.cell? ⟨g, j * 2 + 1, none⟩ = some (.int .i64 q.2) ∧ wr.frozen? ⟨g, j * 2, none⟩ = false ∧ wr.frozen? ⟨g, j * 2 + 1, none⟩ = false := ⟨_, hp.top, hp.bot, hp.f0, hp.f1⟩
      have e2 : (2 : Int) + 2 * (j : Int) = 1 + 2 * (j : Int) + 1 := by omega
      rw [e2] at hs
      have HS := Lib.hid hs
      have C2 := Lib.hid ((C.out.set rfl (j * 2) (.int .i64 (1 + 2 * (j : Int)))).set rfl (j * 2 + 1) (.int .i64 (1 + 2 * (j : Int) + 1)))
      clear hp hs hlen e2
      go_wp2_with fail
      go_roundg (gk - 1)
      case measure => have := K.out; omega
      case rel => exact ⟨j + 1, by first | go_num | (congr 1; push_cast; omega), by go_num, by have := K.out; omega, HS.out, C2.out⟩
    · go_wp2_with fail
      go_ret
      have hj : j = l.length := by omega
      refine ⟨by rw [hj]; rfl, ?_, C.out⟩
      have := O.out
      rw [List.drop_of_length_le (by omega), hj] at this
      simpa using this

set_option maxHeartbeats 800000 in
theorem held_any {w : World} {B : Nat} {v : Value} {n : Nat} (h : Own 29 w B v (marks n)) (hl : n ≤ 1048576) :
    Calls Try.prog 35 #[v, .int .i64 1] w fun e w' => e = .returned (.int .i64 (1 + 2 * (n : Int))) ∧ w = w' := by
  obtain ⟨a, n', c, rfl, hn, hc1, hc2, hlie⟩ := h.row
  rw [marks_length] at hn
  subst hn
  have HLI := Lib.hid hlie
  clear h hlie
  unfold maxLen at hc2
  go_enter Try.func35, Try.ntmps35
  go_wp2_with fail
  go_loopg [1, 5] n (fun k x y wr => ∃ j : Nat, x = .int .i64 (1 + 2 * (j : Int)) ∧ y = .int .i64 j ∧ j + k = n ∧ w = wr)
  case atStart => exact ⟨0, rfl, rfl, by omega, rfl⟩
  case round =>
    obtain ⟨j, rfl, rfl, hk, rfl⟩ := hrel
    have K := Lib.hid hk
    have hjl : j ≤ n := by omega
    clear hk
    by_cases hlt : j < n
    · obtain ⟨g, o, rfl, c1, c2⟩ := lies_cell HLI.out j (by rw [marks_length]; exact hlt)
      rw [marks_get] at c1 c2
      have f1 : ((1 + 2 * (j : Int)) != (1 + 2 * (j : Int))) = false := by simp
      have e2 : (2 : Int) + 2 * (j : Int) = 1 + 2 * (j : Int) + 1 := by omega
      rw [e2] at c2
      have f2 : ((1 + 2 * (j : Int) + 1) != (1 + 2 * (j : Int) + 1)) = false := by simp
      clear e2
      go_wp2_with fail
      go_roundg (gk - 1)
      case measure => have := K.out; omega
      case rel => exact ⟨j + 1, by first | go_num | (congr 1; push_cast; omega), by go_num, by have := K.out; omega, rfl⟩
    · go_wp2_with fail
      go_ret
      have hj : j = n := by omega
      exact ⟨by rw [hj]; rfl, rfl⟩
end Go.Proofs.Ythpfehjjaamkkac
