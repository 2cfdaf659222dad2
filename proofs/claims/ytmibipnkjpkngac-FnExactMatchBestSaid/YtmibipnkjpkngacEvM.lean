/- The exact laws' marks on lists of events: a slice is written over, from any number on. -/
import Derived.Test.YtmibipnkjpkngacEvP
import Derived.Test.YtmibipnkjpkngacIntM
namespace Go.Proofs.Ytmibipnkjpkngac
open Go.RowKit

def marks (z : Int) (n : Nat) : List Pc := (List.range n).map fun (i : Nat) => ((z + 2 * (i : Int), z + 1 + 2 * (i : Int)) : Pc)
theorem marks_length (z : Int) (n : Nat) : (marks z n).length = n := by simp [marks]
theorem mark_next {z : Int} {l : List Pc} {j : Nat} (hj : j < l.length) : (marks z j ++ l.drop j).set j (z + 2 * (j : Int), z + 1 + 2 * (j : Int)) = marks z (j + 1) ++ l.drop (j + 1) := by
  rw [List.set_append_right _ _ (by rw [marks_length]; omega), marks_length, Nat.sub_self, List.drop_eq_getElem_cons hj, List.set_cons_zero]
  simp [marks, List.range_succ]
theorem Own.lies {T : TypeId} {w : World} {B : Nat} {v : Value} {l : List Pc} (h : Own T w B v l) : In B w.heap.size v := h.lt
theorem Own.chg {T : TypeId} {w w' : World} {B : Nat} {v u : Value} {l : List Pc} (h : Own T w B v l) (k : Chg u w w') (hne : ∀ b, v.ownBlock = some b → u.ownBlock ≠ some b) : Own T w' B v l :=
  h.same fun b hb => k.block b (hne b hb)
def MarkedBy (z : Int) (w : World) (B : Nat) (v : Value) (n : Nat) (e : Ending) (w' : World) : Prop := e = .returned (.int .i64 (z + 2 * (n : Int))) ∧ Own 40 w' B v (marks z n) ∧ Chg v w w'

set_option maxHeartbeats 800000 in
theorem markE_any {z : Int} {w : World} {B : Nat} {v : Value} {l : List Pc} (h : Own 40 w B v l) (hl : l.length ≤ 1048576) (hz0 : 0 ≤ z) (hz1 : z ≤ 1000000000) :
    Calls Try.prog 18 #[v, .int .i64 z] w fun e w' => MarkedBy z w B v l.length e w' := by
  by_cases h0 : 0 < l.length
  rotate_left
  · have hl0 : l = [] := List.eq_nil_of_length_eq_zero (by omega)
    subst hl0
    have H := Lib.hid h
    obtain ⟨a, n, c, rfl, hn, _, _, _⟩ := h.row
    simp only [List.length_nil] at hn h0 hl ⊢
    subst hn
    clear h
    go_enter Try.func18, Try.ntmps18
    go_wp2_with fail
    go_loopg [1, 5] 0 (fun k x y wr => x = .int .i64 z ∧ y = .int .i64 0 ∧ w = wr)
    case atStart => exact ⟨rfl, rfl, rfl⟩
    case round =>
      obtain ⟨rfl, rfl, rfl⟩ := hrel
      go_wp2_with fail
      go_ret
      exact ⟨by show Ending.returned (.int .i64 z) = _; congr 2; simp, by simpa [marks] using H.out, Chg.refl _ _⟩
  obtain ⟨g, cap, rfl, h1, h2, h3, h4, _⟩ := h.at h0
  unfold maxLen at h2
  have H := Lib.hid h
  clear h
  go_enter Try.func18, Try.ntmps18
  go_wp2_with fail
  go_loopg [1, 5] l.length (fun k x y wr => ∃ j : Nat, x = .int .i64 (z + 2 * (j : Int)) ∧ y = .int .i64 j ∧ j + k = l.length ∧ Own 40 wr B (.slice (some ⟨g, 0, none⟩) l.length cap) (marks z j ++ l.drop j) ∧ Chg (.slice (some ⟨g, 0, none⟩) l.length cap) w wr)
  case atStart => exact ⟨0, by simp, rfl, by omega, by simpa [marks] using H.out, Chg.refl _ _⟩
  case round =>
    obtain ⟨j, rfl, rfl, hk, ho, hc⟩ := hrel
    have K := Lib.hid hk; have O := Lib.hid ho; have C := Lib.hid hc
    have hjl : j ≤ l.length := by omega
    clear hk ho hc
    by_cases hlt : j < l.length
    · have hlen : j < (marks z j ++ l.drop j).length := by rw [List.length_append, marks_length, List.length_drop]; omega
      obtain ⟨g', cap', e', z1, z2, z3, z4, hp, hs⟩ := O.out.set2 j hlen (z + 2 * (j : Int), z + 1 + 2 * (j : Int))
      simp only [Value.slice.injEq, Option.some.injEq, Addr.mk.injEq, and_true] at e'
      obtain ⟨rfl, z5, z6⟩ := e'
      clear z1 z2 z3 z4 z5 z6
      rw [mark_next hlt] at hs
      obtain ⟨q, t1, t2, t3, t4⟩ : ∃ q : Pc, wr.cell? ⟨g, j * 2, none⟩ = some (.int .i64 q.1) ∧ wr.cell? ⟨g, j * 2 + 1, none⟩ = some (.int .i64 q.2) ∧ wr.frozen? ⟨g, j * 2, none⟩ = false ∧ wr.frozen? ⟨g, j * 2 + 1, none⟩ = false := ⟨_, hp.top, hp.bot, hp.f0, hp.f1⟩
      have w8 : IntKind.i64.wrap (z + 2 * (j : Int) + 1) = z + 2 * (j : Int) + 1 := IntWalk.i64_in _ (by omega)
      have w9 : IntKind.i64.wrap (z + 2 * (j : Int) + 1 + 1) = z + 2 * ((j + 1 : Nat) : Int) := by rw [show z + 2 * (j : Int) + 1 + 1 = z + 2 * ((j + 1 : Nat) : Int) by omega]; exact IntWalk.i64_in _ (by omega)
      have e2 : z + 1 + 2 * (j : Int) = z + 2 * (j : Int) + 1 := by omega
      rw [e2] at hs
      have HS := Lib.hid hs
      have C2 := Lib.hid ((C.out.set rfl (j * 2) (.int .i64 (z + 2 * (j : Int)))).set rfl (j * 2 + 1) (.int .i64 (z + 2 * (j : Int) + 1)))
      clear hp hs hlen e2
      go_wp2_with fail
      go_roundg (gk - 1)
      case measure => have := K.out; omega
      case rel => exact ⟨j + 1, by first | rfl | (rw [w9]) | go_num | (congr 1; push_cast; omega), by go_num, by have := K.out; omega, HS.out, C2.out⟩
    · go_wp2_with fail
      go_ret
      have hj : j = l.length := by omega
      refine ⟨by rw [hj]; rfl, ?_, C.out⟩
      have := O.out
      rw [List.drop_of_length_le (by omega), hj] at this
      simpa using this
end Go.Proofs.Ytmibipnkjpkngac
