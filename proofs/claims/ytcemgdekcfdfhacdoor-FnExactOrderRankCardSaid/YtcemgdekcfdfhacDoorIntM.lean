/- The exact laws' marks: a slice of integers is written over, and read again. -/
import Derived.Test.YtcemgdekcfdfhacDoorIntE
namespace Go.Proofs.YtcemgdekcfdfhacDoor
open Go.RowKit

def imarks (k : Int) (n : Nat) : List Int := (List.range n).map fun (i : Nat) => k + (i : Int)
theorem imarks_length (k : Int) (n : Nat) : (imarks k n).length = n := by simp [imarks]
theorem imarks_get (k : Int) (n i : Nat) (h : i < (imarks k n).length) : (imarks k n)[i] = k + (i : Int) := by simp [imarks]
theorem imark_next {k : Int} {l : List Int} {j : Nat} (hj : j < l.length) : (imarks k j ++ l.drop j).set j (k + (j : Int)) = imarks k (j + 1) ++ l.drop (j + 1) := by
  rw [List.set_append_right _ _ (by rw [imarks_length]; omega), imarks_length, Nat.sub_self, List.drop_eq_getElem_cons hj, List.set_cons_zero]
  simp [imarks, List.range_succ]
/-- Nothing has turned but the block of the value v. -/
structure Chg (v : Value) (w w' : World) : Prop where
  os : w'.os = w.os
  tape : w'.tape = w.tape
  output : w'.output = w.output
  size : w'.heap.size = w.heap.size
  block : ∀ k, v.ownBlock ≠ some k → w'.heap[k]? = w.heap[k]?
theorem Chg.refl (v : Value) (w : World) : Chg v w w := ⟨rfl, rfl, rfl, rfl, fun _ _ => rfl⟩
theorem Chg.set {v : Value} {w w' : World} (h : Chg v w w') {g : Nat} (hg : v.ownBlock = some g) (o : Nat) (u : Value) : Chg v w (w'.setCell ⟨g, o, none⟩ u) :=
  ⟨h.os, h.tape, h.output, by simpa [World.setCell] using h.size, fun k hk => (Below.heap_setCell _ _ _ _ (fun e => hk (by rw [hg, e]))).trans (h.block k hk)⟩
theorem Chg.below {v : Value} {w w' : World} {B : Nat} (h : Chg v w w') (hB : ∀ k, v.ownBlock = some k → B ≤ k) : Below B w w' :=
  ⟨h.os, h.tape, h.output, by rw [h.size]; exact Nat.le_refl _, fun k hk => h.block k (fun e => by have := hB k e; omega)⟩
/-- Where a slice lies. -/
def In (L U : Nat) (v : Value) : Prop := ∀ k, v.ownBlock = some k → L ≤ k ∧ k < U
theorem IOwn.chg {w w' : World} {B : Nat} {v u : Value} {l : List Int} (h : IOwn w B v l) (k : Chg u w w') (hne : ∀ b, v.ownBlock = some b → u.ownBlock ≠ some b) : IOwn w' B v l :=
  h.same fun b hb => k.block b (hne b hb)
theorem in_apart {L U L' U' : Nat} {v u : Value} (h : In L U v) (k : In L' U' u) (hd : U ≤ L' ∨ U' ≤ L) : ∀ b, v.ownBlock = some b → u.ownBlock ≠ some b := fun b h1 h2 => by
  have a := h b h1; have c := k b h2; omega
theorem IOwn.lies {w : World} {B : Nat} {v : Value} {l : List Int} (h : IOwn w B v l) : In B w.heap.size v := h.lt
def IMarked (k : Int) (w : World) (B : Nat) (v : Value) (n : Nat) (e : Ending) (w' : World) : Prop := e = .returned (.int .i64 (k + (n : Int))) ∧ IOwn w' B v (imarks k n) ∧ Chg v w w'
set_option maxHeartbeats 800000 in
theorem markIntS_any {w : World} {B : Nat} {v : Value} {l : List Int} {k0 : Int} (h : IOwn w B v l) (hl : l.length ≤ 1048576) (h0k : 0 ≤ k0) (h1k : k0 ≤ 1000000000) :
    Calls Tryd.prog 8 #[v, .int .i64 k0] w fun e w' => IMarked k0 w B v l.length e w' := by
  by_cases h0 : 0 < l.length
  rotate_left
  · have hl0 : l = [] := List.eq_nil_of_length_eq_zero (by omega)
    subst hl0
    have H := Lib.hid h
    obtain ⟨a, n, c, rfl, hn, _, _, _⟩ := h.row
    simp only [List.length_nil] at hn h0 hl ⊢
    subst hn
    clear h
    go_enter Tryd.func8, Tryd.ntmps8
    go_wp2_with fail
    go_loopg [1, 5] 0 (fun k x y wr => x = .int .i64 k0 ∧ y = .int .i64 0 ∧ w = wr)
    case atStart => exact ⟨rfl, rfl, rfl⟩
    case round =>
      obtain ⟨rfl, rfl, rfl⟩ := hrel
      go_wp2_with fail
      go_ret
      exact ⟨by simp, by simpa [imarks] using H.out, Chg.refl _ _⟩
  obtain ⟨g, cap, rfl, h1, h2, h3, h4, _⟩ := h.at h0
  unfold maxLen at h2
  have H := Lib.hid h
  clear h
  go_enter Tryd.func8, Tryd.ntmps8
  go_wp2_with fail
  go_loopg [1, 5] l.length (fun k x y wr => ∃ j : Nat, x = .int .i64 (k0 + (j : Int)) ∧ y = .int .i64 j ∧ j + k = l.length ∧ IOwn wr B (.slice (some ⟨g, 0, none⟩) l.length cap) (imarks k0 j ++ l.drop j) ∧ Chg (.slice (some ⟨g, 0, none⟩) l.length cap) w wr)
  case atStart => exact ⟨0, by simp, rfl, by omega, by simpa [imarks] using H.out, Chg.refl _ _⟩
  case round =>
    obtain ⟨j, rfl, rfl, hk, ho, hc⟩ := hrel
    have K := Lib.hid hk; have O := Lib.hid ho; have C := Lib.hid hc
    have hjl : j ≤ l.length := by omega
    clear hk ho hc
    by_cases hlt : j < l.length
    · have hlen : j < (imarks k0 j ++ l.drop j).length := by rw [List.length_append, imarks_length, List.length_drop]; omega
      obtain ⟨g', cap', e', z1, z2, z3, z4, hp⟩ := O.out.at (by omega)
      simp only [Value.slice.injEq, Option.some.injEq, Addr.mk.injEq, and_true] at e'
      obtain ⟨rfl, z5, z6⟩ := e'
      have hs := (hp j hlen).set (k0 + (j : Int))
      rw [imark_next hlt] at hs
      obtain ⟨q, t1, t3⟩ : ∃ q : Int, wr.cell? ⟨g, j, none⟩ = some (.int .i64 q) ∧ wr.frozen? ⟨g, j, none⟩ = false := ⟨_, (hp j hlen).cell, (hp j hlen).froz⟩
      have HS := Lib.hid hs
      have C2 := Lib.hid (C.out.set rfl j (.int .i64 (k0 + (j : Int))))
      have e2 : IntKind.i64.wrap (k0 + (j : Int) + 1) = k0 + (j : Int) + 1 := IntWalk.i64_in _ (by omega)
      have e3 : IntKind.i64.wrap (k0 + (j : Int)) = k0 + (j : Int) := IntWalk.i64_in _ (by omega)
      clear z1 z2 z3 z4 z5 z6 hp hs hlen
      go_wp2_with fail
      go_roundg (gk - 1)
      case measure => have := K.out; omega
      case rel => exact ⟨j + 1, by first | go_num | (congr 1; push_cast; omega), by go_num, by have := K.out; omega, HS.out, C2.out⟩
    · go_wp2_with fail
      go_ret
      have hj : j = l.length := by omega
      refine ⟨by rw [hj]; rfl, ?_, C.out⟩
      have := O.out
      rw [List.drop_of_length_le (by omega), hj] at this
      simpa using this
set_option maxHeartbeats 800000 in
theorem heldIntS_any {w : World} {B : Nat} {v : Value} {n : Nat} {k0 : Int} (h : IOwn w B v (imarks k0 n)) (hl : n ≤ 1048576) (h0k : 0 ≤ k0) (h1k : k0 ≤ 1000000000) :
    Calls Tryd.prog 9 #[v, .int .i64 k0] w fun e w' => e = .returned (.int .i64 (k0 + (n : Int))) ∧ w = w' := by
  obtain ⟨a, n', c, rfl, hn, hc1, hc2, hlie⟩ := h.row
  rw [imarks_length] at hn
  subst hn
  have HLI := Lib.hid hlie
  clear h hlie
  unfold maxLen at hc2
  go_enter Tryd.func9, Tryd.ntmps9
  go_wp2_with fail
  go_loopg [1, 5] n (fun k x y wr => ∃ j : Nat, x = .int .i64 (k0 + (j : Int)) ∧ y = .int .i64 j ∧ j + k = n ∧ w = wr)
  case atStart => exact ⟨0, by simp, rfl, by omega, rfl⟩
  case round =>
    obtain ⟨j, rfl, rfl, hk, rfl⟩ := hrel
    have K := Lib.hid hk
    have hjl : j ≤ n := by omega
    clear hk
    by_cases hlt : j < n
    · obtain ⟨g, o, rfl, c1⟩ := ilies_cell HLI.out j (by rw [imarks_length]; exact hlt)
      rw [imarks_get] at c1
      have f1 : ((k0 + (j : Int)) != (k0 + (j : Int))) = false := by simp
      have e2 : IntKind.i64.wrap (k0 + (j : Int) + 1) = k0 + (j : Int) + 1 := IntWalk.i64_in _ (by omega)
      have e3 : IntKind.i64.wrap (k0 + (j : Int)) = k0 + (j : Int) := IntWalk.i64_in _ (by omega)
      go_wp2_with fail
      go_roundg (gk - 1)
      case measure => have := K.out; omega
      case rel => exact ⟨j + 1, by first | go_num | (congr 1; push_cast; omega), by go_num, by have := K.out; omega, rfl⟩
    · go_wp2_with fail
      go_ret
      have hj : j = n := by omega
      exact ⟨by rw [hj]; rfl, rfl⟩
end Go.Proofs.YtcemgdekcfdfhacDoor
