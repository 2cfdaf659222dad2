/- The iterators of the program: over a list of layers, over those that a function lets by, over two lists. -/
import Derived.Test.YtbjeedeapioljacLay
import Derived.Test.YtbjeedeapioljacIter
import Derived.Test.YtbjeedeapioljacLayer
namespace Go.Proofs.Ytbjeedeapioljac
open Go Go.RowKit Go.Shelf
attribute [local go_sem] Oper.semAt_some
/-- A layer as it is handed over. -/
abbrev encL (x : Ly) : Array Value := #[.agg #[.int .i64 x.1, .bool x.2]]
theorem layT : LayT 62 23 := ⟨by kernel_rfl, by kernel_rfl⟩
set_option maxRecDepth 100000 in
set_option maxHeartbeats 2000000 in
theorem values1 {G : Nat → Prop} (l Bs g o cap : Nat) (xs : List Ly) (hlen : xs.length ≤ 1100000) (hg : G g) (W : World) (hGW : ∀ j, G j → j < W.heap.size) (hBs : W.cell? ⟨Bs, 0, none⟩ = some (.slice (some ⟨g, o, none⟩) xs.length cap))
    (hL : LLies W (some ⟨g, o, none⟩) xs) (J : Nat → Nat → World → Prop) (Jx : Nat → World → Prop) (hJ : ∀ M k, Stable W.heap.size M (J M k))
    (hY : ∀ (M k : Nat) (hk : k < xs.length) (W1 : World), M ≤ W1.heap.size → J M k W1 → YieldAt Fence.wide 9 Try.prog l (encL xs[k]) W1 fun e W' =>
      Kept W.heap.size M G W1 W' ∧ ((e = .returned (.bool true) ∧ J M (k + 1) W') ∨ (e = .returned (.bool false) ∧ Jx M W')))
    (h0 : ∀ M, W.heap.size ≤ M → J M 0 W) :
    CallsIn Fence.wide 9 Try.prog 55 #[.func (.yield l) #[] #[], .pointer (some ⟨Bs, 0, none⟩)] W fun e W' => (∃ v, e = .returned v) ∧ ∃ M, M ≤ W'.heap.size ∧ (J M xs.length W' ∨ Jx M W') := by
  refine callsIn_of_wp Try.func55 rfl trivial ?_ rfl
  simp only [Try.ntmps55, List.size_toArray, List.length_cons, List.length_nil, Nat.reduceAdd, Nat.reduceSub, Array.replicate_succ, Array.replicate_zero, List.push_toArray, List.append_toArray, List.nil_append, List.cons_append]
  gi_wp2
  gi_loopw [7] (fun i wr => ∃ k : Nat, k ≤ xs.length ∧ i = .int .i64 k ∧ J W.heap.size k wr ∧ Kept 0 0 G W wr)
    (fun i _ => xs.length - (intOf i).toNat)
  case atStart => exact ⟨0, Nat.zero_le _, rfl, h0 _ (Nat.le_refl _), Kept.refl _ _ _ _⟩
  case round =>
    obtain ⟨k, hk, rfl, hJs, hK⟩ := hrel
    by_cases hlt : k < xs.length
    · have hc := hL.all k hlt
      have c1 : wr.cell? ⟨g, o + k * 2, none⟩ = some (.int .i64 xs[k].1) := (hK.cell (p := ⟨g, o + k * 2, none⟩) (.inl hg)).trans hc.1
      have c2 : wr.cell? ⟨g, o + k * 2 + 1, none⟩ = some (.bool xs[k].2) := (hK.cell (p := ⟨g, o + k * 2 + 1, none⟩) (.inl hg)).trans hc.2
      have hn : Below wr.heap.size wr (wr.alloc (.cells #[.int .i64 xs[k].1, .bool xs[k].2] 62)) := (Below.refl _ wr).alloc (Nat.le_refl _) _
      have hnk : Kept 0 0 G W (wr.alloc (.cells #[.int .i64 xs[k].1, .bool xs[k].2] 62)) := hK.trans ⟨rfl, rfl, rfl, hn.size, fun j hj => hn.block j (by have := hK.size; have := hGW j (hj.resolve_right (by omega)); omega)⟩
      obtain ⟨fn, tmps, assign, body, hy, hR⟩ := hY W.heap.size k hlt _ hnk.size (hJ _ _ _ _ hJs (Step.new hn))
      dsimp only [encL] at hy
      gi_wp2
      refine (round_any hR).mono ?_
      rintro e W3 ⟨hk3, ⟨rfl, hJ3⟩ | ⟨rfl, hJx3⟩⟩
      · gi_wp2
        go_roundw
        case rel => exact ⟨k + 1, by omega, by simp, hJ3, hnk.trans hk3.low⟩
        case measure => simp [intOf]; omega
      · gi_wp2
        refine bodyPost_ret (results_none rfl _ _ _) rfl ?_
        exact ⟨⟨_, rfl⟩, _, Nat.le_trans hnk.size hk3.size, .inr hJx3⟩
    · obtain rfl : k = xs.length := by omega
      gi_wp2
      go_end0
      exact ⟨⟨_, rfl⟩, _, hK.size, .inl hJs⟩
theorem values1_none (l Bs cap : Nat) (a : Option Addr) (W : World) (hBs : W.cell? ⟨Bs, 0, none⟩ = some (.slice a 0 cap)) (J : Nat → Nat → World → Prop) (Jx : Nat → World → Prop)
    (h0 : ∀ M, W.heap.size ≤ M → J M 0 W) :
    CallsIn Fence.wide 9 Try.prog 55 #[.func (.yield l) #[] #[], .pointer (some ⟨Bs, 0, none⟩)] W fun e W' => (∃ v, e = .returned v) ∧ ∃ M, M ≤ W'.heap.size ∧ (J M 0 W' ∨ Jx M W') := by
  refine callsIn_of_wp Try.func55 rfl trivial ?_ rfl
  simp only [Try.ntmps55, List.size_toArray, List.length_cons, List.length_nil, Nat.reduceAdd, Nat.reduceSub, Array.replicate_succ, Array.replicate_zero, List.push_toArray, List.append_toArray, List.nil_append, List.cons_append]
  gi_wp2
  gi_loopw [7] (fun i wr => i = .int .i64 0 ∧ wr = W) (fun _ _ => 0)
  case atStart => exact ⟨rfl, rfl⟩
  case round =>
    obtain ⟨rfl, rfl⟩ := hrel
    gi_wp2
    go_end0
    exact ⟨⟨_, rfl⟩, _, Nat.le_refl _, .inl (h0 _ (Nat.le_refl _))⟩
/-- The block of a slice's cells. -/
def InG (G : Nat → Prop) (v : Value) : Prop := ∀ g o n c, v = .slice (some ⟨g, o, none⟩) n c → G g
theorem inG_row {w : World} {v : Value} {l : List Ly} (h : LRow w v l) (h0 : 0 < l.length) : InG (fun j => j < w.heap.size) v := by
  obtain ⟨a, c, rfl, _, _, hl⟩ := h.parts
  obtain ⟨g, o, rfl, c1, _⟩ := llies_cell hl 0 h0
  intro g' o' n' c' e
  simp only [Value.slice.injEq, Option.some.injEq, Addr.mk.injEq, and_true] at e
  obtain ⟨⟨rfl, rfl⟩, _⟩ := e
  exact cell_below c1
theorem seq_values {G : Nat → Prop} (Bs : Nat) (sv : Value) (xs : List Ly) (w : World) (hlen : xs.length ≤ 1100000) (hBs : w.cell? ⟨Bs, 0, none⟩ = some sv) (hrow : LRow w sv xs) (hG : 0 < xs.length → InG G sv) (hGw : ∀ j, G j → j < w.heap.size) :
    Seq Try.prog G 55 #[.pointer (some ⟨Bs, 0, none⟩)] encL xs w := by
  intro l J Jx W hW hJ hJx hY h0
  have hc := (hW.cell (p := ⟨Bs, 0, none⟩) (cell_below hBs)).trans hBs
  obtain ⟨a, c, rfl, _, _, h3⟩ := (hrow.grow hW).parts
  rcases Nat.eq_zero_or_pos xs.length with h | h
  · rw [h] at hc ⊢
    exact values1_none l Bs c a W hc J Jx h0
  · obtain ⟨g, o, rfl⟩ := h3.at h
    exact values1 l Bs g o c xs hlen (hG h g o _ _ rfl) W (fun j hj => by have := hGw j hj; have := hW.size; omega) hc h3 J Jx hJ hY h0
/-- slices.Values: the slice is boxed. -/
theorem values_any (v : Value) (l : List Ly) (w : World) (hv : LRow w v l) : Calls Try.prog 50 #[v] w fun e w' =>
    e = .returned (.func (.func 55) #[] #[.pointer (some ⟨w.heap.size, 0, none⟩)]) ∧ w'.cell? ⟨w.heap.size, 0, none⟩ = some v ∧ w'.heap.size = w.heap.size + 1 ∧ Below w.heap.size w w' := by
  obtain ⟨a, c, rfl, _⟩ := hv.parts
  go_enter Try.func50, Try.ntmps50
  go_wp2
  go_ret
  exact ⟨rfl, by rw [World.cell?_alloc_new]; rfl, by simp, (Below.refl _ _).alloc (Nat.le_refl _) _⟩
/-- What a function that lets layers by answers, while the blocks of G lie as in w. -/
def Lets (kf : Nat) (kc : Array Value) (p : Ly → Bool) (G : Nat → Prop) (w : World) : Prop := ∀ (W : World) (x : Ly), Kept 0 0 G w W → Calls Try.prog kf (#[.agg #[.int .i64 x.1, .bool x.2]] ++ kc) W fun e w' => Val W (.bool (p x)) e w'
set_option maxRecDepth 100000 in
set_option maxHeartbeats 2000000 in
theorem where1 {G G' : Nat → Prop} (l B1 B2 gf kf : Nat) (lb kc : Array Value) (p : Ly → Bool) (xs : List Ly) (w0 : World) (hseq : Seq Try.prog G gf lb encL xs w0) (eg : ∀ args w, (callFunc gf args).run Try.prog w = .ok (.enter gf args) w) (ek : ∀ args w, (callFunc kf args).run Try.prog w = .ok (.enter kf args) w)
    (hk : Lets kf kc p G' w0) (hGG : ∀ j, G j → G' j) (hG2 : G' B2) (hG' : ∀ j, G' j → j < w0.heap.size) (W : World) (hW : Below w0.heap.size w0 W) (h1 : W.cell? ⟨B1, 0, none⟩ = some (.func (.func gf) #[] lb)) (h2 : W.cell? ⟨B2, 0, none⟩ = some (.func (.func kf) #[] kc))
    (J : Nat → Nat → World → Prop) (Jx : Nat → World → Prop) (hJ : ∀ M k, Stable W.heap.size M (J M k)) (hJx : ∀ M, Stable W.heap.size M (Jx M))
    (hY : ∀ (M k : Nat) (hk : k < (xs.filter p).length) (W1 : World), M ≤ W1.heap.size → J M k W1 → YieldAt Fence.wide 9 Try.prog l (encL (xs.filter p)[k]) W1 fun e W' =>
      Kept W.heap.size M G' W1 W' ∧ ((e = .returned (.bool true) ∧ J M (k + 1) W') ∨ (e = .returned (.bool false) ∧ Jx M W')))
    (h0 : ∀ M, W.heap.size ≤ M → J M 0 W) :
    CallsIn Fence.wide 9 Try.prog 54 #[.func (.yield l) #[] #[], .pointer (some ⟨B1, 0, none⟩), .pointer (some ⟨B2, 0, none⟩)] W fun e W' => (∃ v, e = .returned v) ∧ ∃ M, M ≤ W'.heap.size ∧ (J M (xs.filter p).length W' ∨ Jx M W') := by
  refine callsIn_of_wp_marks Try.func54 rfl trivial ?_ rfl
  simp only [Try.ntmps54, List.size_toArray, List.length_cons, List.length_nil, Nat.reduceAdd, Nat.reduceSub, Array.replicate_succ, Array.replicate_zero, List.push_toArray, List.append_toArray, List.nil_append, List.cons_append]
  obtain ⟨w1, hw1⟩ : ∃ w1, W.alloc (.cells #[.func (.yield l) #[] #[]] 72) = w1 := ⟨_, rfl⟩
  have hb1 : Below W.heap.size W w1 := by rw [← hw1]; exact (Below.refl _ W).alloc (Nat.le_refl _) _
  have hs1 : w1.heap.size = W.heap.size + 1 := by rw [← hw1]; simp
  have hy1 : w1.heap[W.heap.size]? = some (.cells #[.func (.yield l) #[] #[]] 72 (0, 0)) := by rw [← hw1]; exact World.alloc_heap_new _ _
  have c1 : w1.cell? ⟨B1, 0, none⟩ = some (.func (.func gf) #[] lb) := (hb1.cell (p := ⟨B1, 0, none⟩) (cell_below h1)).trans h1
  have c2 : w1.cell? ⟨B2, 0, none⟩ = some (.func (.func kf) #[] kc) := (hb1.cell (p := ⟨B2, 0, none⟩) (cell_below h2)).trans h2
  have hG1 : ∀ j, G' j → j < W.heap.size := fun j hj => by have := hG' j hj; have := hW.size; omega
  gi_wp2_with (rw [hw1])
  refine range_law (w0 := w0) rfl eg hseq (hW.trans (hb1.mono hW.size)) (fun _ => rfl) (fun j hj => by have := hG1 j (hGG j hj); omega)
    (fun M j wr => (J M ((xs.take j).countP p) wr ∧ wr.heap[W.heap.size]? = some (.cells #[.func (.yield l) #[] #[]] 72 (0, 0))) ∧ Kept 0 0 G' w1 wr) Jx
    (fun M j => (((hJ M _).less (by omega)).and (stable_obj _ _ _ _ (by omega))).and (stable_keep fun j hj => by have := hG1 j hj; omega)) (fun M => (hJx M).less (by omega))
    (fun M hM => ⟨⟨hJ M 0 _ _ (h0 M (by omega)) (Step.new hb1), hy1⟩, Kept.refl _ _ _ _⟩) ?round ?done ?stop
  case round =>
    rintro M j hj wr hM hMW ⟨⟨hJ', hyb⟩, hK⟩
    gi_wp2
    refine ⟨(Below.refl _ _).alloc (Nat.le_refl _) _, fun W₂ ht ⟨⟨hJ2, hyb2⟩, hK2⟩ => ?_⟩
    have x1 : W₂.cell? ⟨wr.heap.size, 0, none⟩ = some (.int .i64 xs[j].1) := (ht.cell (by simp; omega)).trans (by rw [World.cell?_alloc_new]; rfl)
    have x2 : W₂.cell? ⟨wr.heap.size, 1, none⟩ = some (.bool xs[j].2) := (ht.cell (by simp; omega)).trans (by rw [World.cell?_alloc_new]; rfl)
    have y1 : W₂.cell? ⟨W.heap.size, 0, none⟩ = some (.func (.yield l) #[] #[]) := by simp [World.cell?, hyb2]
    have k2 : W₂.cell? ⟨B2, 0, none⟩ = some (.func (.func kf) #[] kc) := (hK2.cell (.inl hG2)).trans c2
    have hk0 : Kept 0 0 G' w0 W₂ := Kept.trans ⟨hW.os, hW.tape, hW.output, hW.size, fun j hj => hW.block j (hG' j (hj.resolve_right (by omega)))⟩ (Kept.trans ⟨hb1.os, hb1.tape, hb1.output, hb1.size, fun j hj => hb1.block j (hG1 j (hj.resolve_right (by omega)))⟩ hK2)
    have hsW : W₂.heap.size = wr.heap.size + 1 := by rw [ht.size]; simp
    have hstep := cnt_step p xs j hj
    gi_wp2_with fail
    refine ⟨trivial, ?_⟩
    refine (call_in (hk W₂ xs[j] hk0)).mono ?_
    rintro e W3 ⟨rfl, hb3⟩
    have kp3 : Kept W.heap.size M G' W₂ W3 := Kept.new hb3 (by omega) (fun j hj => by have := hG1 j hj; omega)
    have y3 : W3.cell? ⟨W.heap.size, 0, none⟩ = some (.func (.yield l) #[] #[]) := (hb3.cell (p := ⟨W.heap.size, 0, none⟩) (by simp; omega)).trans y1
    have z1 : W3.cell? ⟨wr.heap.size, 0, none⟩ = some (.int .i64 xs[j].1) := (hb3.cell (p := ⟨wr.heap.size, 0, none⟩) (by simp; omega)).trans x1
    have z2 : W3.cell? ⟨wr.heap.size, 1, none⟩ = some (.bool xs[j].2) := (hb3.cell (p := ⟨wr.heap.size, 1, none⟩) (by simp; omega)).trans x2
    have hyb3 : W3.heap[W.heap.size]? = some (.cells #[.func (.yield l) #[] #[]] 72 (0, 0)) := (hb3.block _ (by omega)).trans hyb2
    have hJ3 : J M ((xs.take j).countP p) W3 := hJ M _ _ _ hJ2 (Step.new hb3)
    have hK3 := hK2.trans kp3.low
    cases hp : p xs[j]
    · rw [hp] at hstep
      gi_wp2
      all_goals refine ⟨fun _ h => (by cases h), ?_⟩
      all_goals gi_wp2
      all_goals exact ⟨kp3.less (Nat.le_of_lt (by omega)) (fun _ h => .inl (hGG _ h)), ⟨by rw [hstep]; exact hJ3, hyb3⟩, hK3⟩
    · rw [hp] at hstep
      obtain ⟨hlt, he⟩ := filter_get p xs j hj hp
      obtain ⟨fn, tmps, assign, body, hy, hR⟩ := hY M _ hlt W3 (by have := hb3.size; omega) hJ3
      rw [he] at hy
      dsimp only [encL] at hy
      gi_wp2
      refine (round_in hR).mono ?_
      rintro e W4 ⟨hk4, ⟨rfl, hJ4⟩ | ⟨rfl, hJx4⟩⟩
      · gi_wp2
        refine ⟨(kp3.trans hk4).less (by omega) (fun _ h => .inl (hGG _ h)), ⟨by rw [hstep]; exact hJ4, (hk4.block _ (.inr ⟨Nat.le_refl _, by omega⟩)).trans hyb3⟩, hK3.trans hk4.low⟩
      · gi_wp2
        exact ⟨(kp3.trans hk4).less (by omega) (fun _ h => .inl (hGG _ h)), hJx4⟩
  case done =>
    rintro M wr hM hMW ⟨⟨hJ', hyb⟩, hK⟩ hD
    rw [count_all] at hJ'
    gi_wp2
    refine ⟨by simp, .inl ⟨_, _, rfl, run_takeDeferred hD, ?_⟩⟩
    refine ⟨_, results_none rfl _ _ _, ⟨_, rfl⟩, M, by simpa using hMW, .inl (hJ M _ _ _ hJ' ((turned_put _ _ _).step (by omega) (by omega)))⟩
  case stop =>
    rintro M wr hM hMW hJ' hD
    gi_wp2
    refine ⟨by simp, .inl ⟨_, _, rfl, run_takeDeferred hD, ?_⟩⟩
    refine ⟨_, results_none rfl _ _ _, ⟨_, rfl⟩, M, by simpa using hMW, .inr (hJx M _ _ hJ' ((turned_put _ _ _).step (by omega) (by omega)))⟩
/-- The blocks that an iterator leans on: those of the caller's arguments, and those made since A. -/
def Gd (n A : Nat) (w : World) (j : Nat) : Prop := j < n ∨ (A ≤ j ∧ j < w.heap.size)
theorem Gd.grow {n A : Nat} {w w' : World} (h : w.heap.size ≤ w'.heap.size) {j : Nat} : Gd n A w j → Gd n A w' j
  | .inl k => .inl k
  | .inr k => .inr ⟨k.1, Nat.lt_of_lt_of_le k.2 h⟩
theorem Gd.lt {n A : Nat} {w : World} (h : n ≤ w.heap.size) {j : Nat} : Gd n A w j → j < w.heap.size
  | .inl k => Nat.lt_of_lt_of_le k h
  | .inr k => k.2
/-- An iterator over the layers xs. -/
def Src (n A : Nat) (w : World) (v : Value) (xs : List Ly) : Prop :=
  ∃ g lb, v = .func (.func g) #[] lb ∧ (∀ args w, (callFunc g args).run Try.prog w = .ok (.enter g args) w) ∧ Seq Try.prog (Gd n A w) g lb encL xs w
theorem Src.grow {n A : Nat} {w w' : World} {v : Value} {xs : List Ly} (h : Src n A w v xs) (hb : Below w.heap.size w w') : Src n A w' v xs := by
  obtain ⟨g, lb, rfl, e, hs⟩ := h
  exact ⟨g, lb, rfl, e, hs.later hb fun j hj => hj.grow hb.size⟩
theorem where_seq {n A : Nat} {gf kf B1 B2 : Nat} {lb kc : Array Value} {p : Ly → Bool} {xs : List Ly} {w w0 : World} (hseq : Seq Try.prog (Gd n A w0) gf lb encL xs w0) (eg : ∀ args w, (callFunc gf args).run Try.prog w = .ok (.enter gf args) w) (ek : ∀ args w, (callFunc kf args).run Try.prog w = .ok (.enter kf args) w)
    (hk : Lets kf kc p (Gd n A w) w) (hb : Below w0.heap.size w0 w) (hn : n ≤ w.heap.size) (h2 : A ≤ B2) (h2' : B2 < w.heap.size) (c1 : w.cell? ⟨B1, 0, none⟩ = some (.func (.func gf) #[] lb)) (c2 : w.cell? ⟨B2, 0, none⟩ = some (.func (.func kf) #[] kc)) :
    Seq Try.prog (Gd n A w) 54 #[.pointer (some ⟨B1, 0, none⟩), .pointer (some ⟨B2, 0, none⟩)] encL (xs.filter p) w := by
  intro l J Jx W hW hJ hJx hY h0
  exact where1 (G := Gd n A w) (G' := Gd n A w) l B1 B2 gf kf lb kc p xs w (hseq.later hb fun j hj => hj.grow hb.size) eg ek hk (fun _ h => h) (.inr ⟨h2, h2'⟩) (fun j hj => hj.lt hn) W hW
    ((hW.cell (p := ⟨B1, 0, none⟩) (cell_below c1)).trans c1) ((hW.cell (p := ⟨B2, 0, none⟩) (cell_below c2)).trans c2) J Jx hJ hJx hY h0
set_option maxHeartbeats 800000 in
/-- layersWhere: both are boxed. -/
theorem where_any {n A : Nat} {kf : Nat} {kc : Array Value} {p : Ly → Bool} {xs : List Ly} {v : Value} (w : World) (hv : Src n A w v xs) (ek : ∀ args w, (callFunc kf args).run Try.prog w = .ok (.enter kf args) w)
    (hk : ∀ w', Below w.heap.size w w' → Lets kf kc p (Gd n A w') w') (hn : n ≤ w.heap.size) (hA : A ≤ w.heap.size) :
    Calls Try.prog 48 #[v, .func (.func kf) #[] kc] w fun e w' => ∃ u, e = .returned u ∧ Src n A w' u (xs.filter p) ∧ Below w.heap.size w w' := by
  obtain ⟨g, lb, rfl, eg, hseq⟩ := hv
  have HS := Lib.hid hseq; have HK := Lib.hid hk; have EK := Lib.hid ek; have EG := Lib.hid eg
  clear hseq hk ek eg
  go_enter Try.func48, Try.ntmps48
  go_wp2
  go_ret
  have hb : Below w.heap.size w ((w.alloc (.cells #[.func (.func g) #[] lb] 54)).alloc (.cells #[.func (.func kf) #[] kc] 72)) := ((Below.refl _ w).alloc (Nat.le_refl _) _).alloc (by simp) _
  refine ⟨_, rfl, ⟨_, _, rfl, enters_of Try.func54 (by kernel_rfl) rfl, where_seq HS.out EG.out EK.out (HK.out _ hb) hb (by simp; omega) (by omega) (by simp) ?_ ?_⟩, hb⟩
  · rw [World.cell?_alloc_past _ _ _ (by simp), World.cell?_alloc_new]; rfl
  · rw [show w.heap.size + 1 = (w.alloc (.cells #[.func (.func g) #[] lb] 54)).heap.size by simp, World.cell?_alloc_new]; rfl
theorem sure1 (x : Ly) (w : World) : Calls Try.prog 51 #[.agg #[.int .i64 x.1, .bool x.2]] w fun e w' => Val w (.bool x.2) e w' := by
  go_enter Try.func51, Try.ntmps51
  go_wp2
  go_ret
  exact ⟨rfl, (Below.refl _ _).alloc (Nat.le_refl _) _⟩
theorem sure_any {n A : Nat} {xs : List Ly} {v : Value} (w : World) (hv : Src n A w v xs) (hn : n ≤ w.heap.size) (hA : A ≤ w.heap.size) :
    Calls Try.prog 40 #[v] w fun e w' => ∃ u, e = .returned u ∧ Src n A w' u (xs.filter (·.2)) ∧ Below w.heap.size w w' := by
  have HV := Lib.hid hv
  obtain ⟨g, lb, rfl, _⟩ := hv
  go_enter Try.func40, Try.ntmps40
  go_wp2_with fail
  refine (where_any w HV.out (kf := 51) (kc := #[]) (p := (·.2)) (enters_of Try.func51 (by kernel_rfl) rfl) (fun w' _ W x _ => sure1 x W) hn hA).mono ?_
  rintro e w1 ⟨u, rfl, h1, h2⟩
  have H1 := Lib.hid h1
  obtain ⟨g', lb', rfl, _⟩ := h1
  go_wp2_with fail
  go_ret
  exact ⟨_, rfl, H1.out, h2⟩
theorem between1 (t b : Int) (Bt Bb : Nat) (x : Ly) (w : World) (h1 : w.cell? ⟨Bt, 0, none⟩ = some (.int .i64 t)) (h2 : w.cell? ⟨Bb, 0, none⟩ = some (.int .i64 b)) :
    Calls Try.prog 49 #[.agg #[.int .i64 x.1, .bool x.2], .pointer (some ⟨Bt, 0, none⟩), .pointer (some ⟨Bb, 0, none⟩)] w fun e w' => Val w (.bool (inS t b x)) e w' := by
  have l1 := cell_below h1; have l2 := cell_below h2
  have hb : Below w.heap.size w (w.alloc (.cells #[.int .i64 x.1, .bool x.2] 62)) := (Below.refl _ w).alloc (Nat.le_refl _) _
  have k1 : (w.alloc (.cells #[.int .i64 x.1, .bool x.2] 62)).cell? ⟨Bt, 0, none⟩ = some (.int .i64 t) := (hb.cell (p := ⟨Bt, 0, none⟩) l1).trans h1
  have k2 : (w.alloc (.cells #[.int .i64 x.1, .bool x.2] 62)).cell? ⟨Bb, 0, none⟩ = some (.int .i64 b) := (hb.cell (p := ⟨Bb, 0, none⟩) l2).trans h2
  by_cases q : t ≤ x.1
  · have q1 : decide (t ≤ x.1) = true := by simpa using q
    have R : Hid (inS t b x = decide (x.1 < b)) := Lib.hid (by rw [inS, q1, Bool.true_and])
    go_enter Try.func49, Try.ntmps49
    go_wp2
    go_ret
    exact ⟨by rw [R.out]; rfl, hb⟩
  · have q1 : decide (t ≤ x.1) = false := by simpa using q
    have R : Hid (inS t b x = false) := Lib.hid (by rw [inS, q1]; rfl)
    go_enter Try.func49, Try.ntmps49
    go_wp2
    go_ret
    exact ⟨by rw [R.out]; rfl, hb⟩
theorem between_any {n A : Nat} {xs : List Ly} {v : Value} (t b : Int) (w : World) (hv : Src n A w v xs) (hn : n ≤ w.heap.size) (hA : A ≤ w.heap.size) :
    Calls Try.prog 37 #[v, .int .i64 t, .int .i64 b] w fun e w' => ∃ u, e = .returned u ∧ Src n A w' u (xs.filter (inS t b)) ∧ Below w.heap.size w w' := by
  have HV := Lib.hid hv
  obtain ⟨g, lb, rfl, _⟩ := hv
  obtain ⟨w1, hw1⟩ : ∃ w1, (w.alloc (.cells #[.int .i64 t] 3)).alloc (.cells #[.int .i64 b] 3) = w1 := ⟨_, rfl⟩
  have hb : Below w.heap.size w w1 := by rw [← hw1]; exact ((Below.refl _ w).alloc (Nat.le_refl _) _).alloc (by simp) _
  have hs : w1.heap.size = w.heap.size + 2 := by rw [← hw1]; simp
  have c1 : w1.cell? ⟨w.heap.size, 0, none⟩ = some (.int .i64 t) := by rw [← hw1, World.cell?_alloc_past _ _ _ (by simp), World.cell?_alloc_new]; rfl
  have c2 : w1.cell? ⟨w.heap.size + 1, 0, none⟩ = some (.int .i64 b) := by rw [← hw1, show w.heap.size + 1 = (w.alloc (.cells #[.int .i64 t] 3)).heap.size by simp, World.cell?_alloc_new]; rfl
  have L : Hid (∀ w', Below w1.heap.size w1 w' → Lets 49 #[.pointer (some ⟨w.heap.size, 0, none⟩), .pointer (some ⟨w.heap.size + 1, 0, none⟩)] (inS t b) (Gd n A w') w') := Lib.hid (fun w' hb' W x hK => by
    have hz := hb'.size
    refine between1 t b _ _ x W ?_ ?_
    · exact (hK.cell (p := ⟨w.heap.size, 0, none⟩) (.inl (.inr ⟨hA, by simp; omega⟩))).trans ((hb'.cell (p := ⟨w.heap.size, 0, none⟩) (by simp; omega)).trans c1)
    · exact (hK.cell (p := ⟨w.heap.size + 1, 0, none⟩) (.inl (.inr ⟨by simp; omega, by simp; omega⟩))).trans ((hb'.cell (p := ⟨w.heap.size + 1, 0, none⟩) (by simp; omega)).trans c2))
  have HB := Lib.hid hb
  clear hb c1 c2
  go_enter Try.func37, Try.ntmps37
  go_wp2_with (first | rw [hw1] | fail)
  refine (where_any w1 (HV.out.grow HB.out) (kf := 49) (p := inS t b) (enters_of Try.func49 (by kernel_rfl) rfl) L.out (by omega) (by omega)).mono ?_
  rintro e w2 ⟨u, rfl, h1, h2⟩
  have H1 := Lib.hid h1
  obtain ⟨g', lb', rfl, _⟩ := h1
  go_wp2_with fail
  go_ret
  exact ⟨_, rfl, H1.out, HB.out.trans (h2.mono HB.out.size)⟩
end Go.Proofs.Ytbjeedeapioljac
