/- slices.Backward over a list of windows, by its contract (XIter). -/
import Derived.Test.YtanfalkpmmkklaaDoorWinB
import Derived.Test.YtanfalkpmmkklaaDoorIter
namespace Go.Proofs.YtanfalkpmmkklaaDoor
open Go Go.RowKit Go.Shelf
attribute [local go_sem] Oper.semAt_some

/-- A place and its pair, as they are handed over. -/
abbrev encB (x : Nat × Pc) : Array Value := #[.int .i64 x.1, .agg #[.int .i64 x.2.1, .int .i64 x.2.2]]
def backL (s : List Pc) : List (Nat × Pc) := (List.range s.length).map fun k => (s.length - 1 - k, gW s (s.length - 1 - k))
theorem backL_length (s : List Pc) : (backL s).length = s.length := by simp [backL]
theorem backL_get {s : List Pc} {k : Nat} (hk : k < (backL s).length) : (backL s)[k] = (s.length - 1 - k, gW s (s.length - 1 - k)) := by simp [backL]
set_option maxRecDepth 100000 in
set_option maxHeartbeats 2000000 in
theorem back1 {G : Nat → Prop} (l Bs g o cap : Nat) (xs : List Pc) (hlen : xs.length ≤ 1100000) (hg : G g) (hB : G Bs) (W : World) (hBs : W.cell? ⟨Bs, 0, none⟩ = some (.slice (some ⟨g, o, none⟩) xs.length cap))
    (hL : Lies W (some ⟨g, o, none⟩) xs) (J : Nat → Nat → World → Prop) (Jx : Nat → World → Prop)
    (hY : ∀ (M k : Nat) (hk : k < (backL xs).length) (W1 : World), M ≤ W1.heap.size → J M k W1 → YieldAt Fence.wide 9 Tryd.prog l (encB (backL xs)[k]) W1 fun e W' =>
      Kept W.heap.size M G W1 W' ∧ ((e = .returned (.bool true) ∧ J M (k + 1) W') ∨ (e = .returned (.bool false) ∧ Jx M W')))
    (h0 : ∀ M, W.heap.size ≤ M → J M 0 W) :
    CallsIn Fence.wide 9 Tryd.prog 48 #[.func (.yield l) #[] #[], .pointer (some ⟨Bs, 0, none⟩)] W fun e W' => (∃ v, e = .returned v) ∧ ∃ M, M ≤ W'.heap.size ∧ (J M (backL xs).length W' ∨ Jx M W') := by
  have bl := backL_length xs
  have w1 : IntKind.i64.wrap ((xs.length : Int) - 1) = (xs.length : Int) - 1 := IntWalk.i64_in _ (by omega)
  refine callsIn_of_wp Tryd.func48 rfl trivial ?_ rfl
  simp only [Tryd.ntmps48, List.size_toArray, List.length_cons, List.length_nil, Nat.reduceAdd, Nat.reduceSub, Array.replicate_succ, Array.replicate_zero, List.push_toArray, List.append_toArray, List.nil_append, List.cons_append]
  gi_wp2
  gi_loopw [3] (fun i wr => ∃ (k q : Nat) (x : Int), q + k = xs.length ∧ x = (q : Int) - 1 ∧ i = .int .i64 x ∧ J W.heap.size k wr ∧ Kept 0 0 G W wr)
    (fun i _ => (intOf i + 1).toNat)
  case atStart => exact ⟨0, xs.length, (xs.length : Int) - 1, rfl, rfl, rfl, h0 _ (Nat.le_refl _), Kept.refl _ _ _ _⟩
  case round =>
    obtain ⟨k, q, x, hq, hx, rfl, hJs, hK⟩ := hrel
    cases q with
    | succ q =>
      obtain rfl : x = (q : Int) := by omega
      clear hx
      have hk : k < (backL xs).length := by omega
      have hlt : q < xs.length := by omega
      have hc := hL.all q hlt
      have c1 : wr.cell? ⟨g, o + q * 2, none⟩ = some (.int .i64 xs[q].1) := (hK.cell (p := ⟨g, o + q * 2, none⟩) (.inl hg)).trans hc.1
      have c2 : wr.cell? ⟨g, o + q * 2 + 1, none⟩ = some (.int .i64 xs[q].2) := (hK.cell (p := ⟨g, o + q * 2 + 1, none⟩) (.inl hg)).trans hc.2
      have c0 : wr.cell? ⟨Bs, 0, none⟩ = some (.slice (some ⟨g, o, none⟩) xs.length cap) := (hK.cell (p := ⟨Bs, 0, none⟩) (.inl hB)).trans hBs
      have i0 : (0 : Int) ≤ (q : Int) := by omega
      have i1 : (q : Int) < (xs.length : Int) := by omega
      have w2 : IntKind.i64.wrap ((q : Int) - 1) = (q : Int) - 1 := IntWalk.i64_in _ (by omega)
      obtain ⟨fn, tmps, assign, body, hy, hR⟩ := hY W.heap.size k hk _ hK.size hJs
      rw [backL_get, show xs.length - 1 - k = q by omega, gW_get hlt] at hy
      dsimp only [encB] at hy
      gi_wp2
      refine (round_any hR).mono ?_
      rintro e W3 ⟨hk3, ⟨rfl, hJ3⟩ | ⟨rfl, hJx3⟩⟩
      · gi_wp2
        go_roundw
        case rel => exact ⟨k + 1, q, (q : Int) - 1, by omega, rfl, by first | rfl | (rw [w2]), hJ3, hK.trans hk3.low⟩
        case measure => simp [intOf]; try omega
      · gi_wp2
        refine bodyPost_ret (results_none rfl _ _ _) rfl ?_
        exact ⟨⟨_, rfl⟩, _, Nat.le_trans hK.size hk3.size, .inr hJx3⟩
    | zero =>
      have hx0 : ¬ (0 : Int) ≤ x := by omega
      clear hx
      obtain rfl : k = xs.length := by omega
      gi_wp2
      go_end0
      exact ⟨⟨_, rfl⟩, _, hK.size, .inl (by first | exact hJs | (rw [bl]; exact hJs))⟩
set_option maxRecDepth 100000 in
theorem back1_none (l Bs cap : Nat) (a : Option Addr) (W : World) (hBs : W.cell? ⟨Bs, 0, none⟩ = some (.slice a 0 cap)) (J : Nat → Nat → World → Prop) (Jx : Nat → World → Prop)
    (h0 : ∀ M, W.heap.size ≤ M → J M 0 W) :
    CallsIn Fence.wide 9 Tryd.prog 48 #[.func (.yield l) #[] #[], .pointer (some ⟨Bs, 0, none⟩)] W fun e W' => (∃ v, e = .returned v) ∧ ∃ M, M ≤ W'.heap.size ∧ (J M 0 W' ∨ Jx M W') := by
  have w1 : IntKind.i64.wrap ((0 : Int) - 1) = -1 := IntWalk.i64_in _ (by omega)
  refine callsIn_of_wp Tryd.func48 rfl trivial ?_ rfl
  simp only [Tryd.ntmps48, List.size_toArray, List.length_cons, List.length_nil, Nat.reduceAdd, Nat.reduceSub, Array.replicate_succ, Array.replicate_zero, List.push_toArray, List.append_toArray, List.nil_append, List.cons_append]
  gi_wp2
  gi_loopw [3] (fun i wr => ∃ x : Int, x < 0 ∧ i = .int .i64 x ∧ wr = W) (fun _ _ => 0)
  case atStart => exact ⟨-1, by omega, rfl, rfl⟩
  case round =>
    obtain ⟨x, hx, rfl, rfl⟩ := hrel
    have hx0 : ¬ (0 : Int) ≤ x := by omega
    clear hx
    gi_wp2
    go_end0
    exact ⟨⟨_, rfl⟩, _, Nat.le_refl _, .inl (h0 _ (Nat.le_refl _))⟩
/-- The block of a slice's cells. -/
def InG (G : Nat → Prop) (v : Value) : Prop := ∀ g o n c, v = .slice (some ⟨g, o, none⟩) n c → G g
theorem seq_back {G : Nat → Prop} (Bs : Nat) (sv : Value) (xs : List Pc) (w : World) (hlen : xs.length ≤ 1100000) (hBs : w.cell? ⟨Bs, 0, none⟩ = some sv) (hrow : Row w sv xs) (hB : G Bs) (hG : 0 < xs.length → InG G sv) :
    Seq Tryd.prog G 48 #[.pointer (some ⟨Bs, 0, none⟩)] encB (backL xs) w := by
  intro l J Jx W hW _ _ hY h0
  have hc := (hW.cell (p := ⟨Bs, 0, none⟩) (cell_below hBs)).trans hBs
  obtain ⟨a, c, rfl, _, _, h3⟩ := (hrow.grow hW).parts
  rcases Nat.eq_zero_or_pos xs.length with h | h
  · rw [backL_length, h]
    rw [h] at hc
    exact back1_none l Bs c a W hc J Jx h0
  · obtain ⟨g, o, rfl⟩ := h3.at h
    exact back1 l Bs g o c xs hlen (hG h g o _ _ rfl) hB W hc h3 J Jx hY h0
/-- slices.Backward: the slice is boxed. -/
theorem backward_any (v : Value) (l : List Pc) (w : World) (hv : Row w v l) : Calls Tryd.prog 42 #[v] w fun e w' =>
    e = .returned (.func (.func 48) #[] #[.pointer (some ⟨w.heap.size, 0, none⟩)]) ∧ w'.cell? ⟨w.heap.size, 0, none⟩ = some v ∧ w'.heap.size = w.heap.size + 1 ∧ Below w.heap.size w w' := by
  obtain ⟨a, c, rfl, _⟩ := hv.parts
  go_enter Tryd.func42, Tryd.ntmps42
  go_wp2
  go_ret
  exact ⟨rfl, by rw [World.cell?_alloc_new]; rfl, by simp, (Below.refl _ _).alloc (Nat.le_refl _) _⟩
end Go.Proofs.YtanfalkpmmkklaaDoor
