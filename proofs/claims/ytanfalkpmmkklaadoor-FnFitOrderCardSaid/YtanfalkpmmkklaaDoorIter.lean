/- A range over a function, where iterators range over iterators: what an iterator may lean on (Kept), what it may turn (Step), its contract (Seq), the statement's law (range_law), a function's last step (leave_marked). No program in it. -/
import Derived.Test.YtanfalkpmmkklaaDoorRows
import Derived.RangeFuncNested
import Derived.RangeFuncBound
import Derived.RangeFuncCalls
import Derived.RangeFuncLeaves
import Derived.Shelf.Abstract
import Derived.Shelf.RegionOpen
import Derived.WalkKit
import Derived.OwnWalkIn
import Derived.TacticsInMore
import Derived.LoopNIn
import Derived.LoopIn
namespace Go.Proofs.YtanfalkpmmkklaaDoor
open Go Go.RowKit

/-- What a round leaves as it was: the blocks of G, and those from lo on and below M. -/
structure Kept (lo M : Nat) (G : Nat → Prop) (W W' : World) : Prop where
  os : W'.os = W.os
  tape : W'.tape = W.tape
  output : W'.output = W.output
  size : W.heap.size ≤ W'.heap.size
  block : ∀ j, G j ∨ (lo ≤ j ∧ j < M) → W'.heap[j]? = W.heap[j]?
theorem Kept.refl (lo M : Nat) (G : Nat → Prop) (W : World) : Kept lo M G W W := ⟨rfl, rfl, rfl, Nat.le_refl _, fun _ _ => rfl⟩
theorem Kept.trans {lo M : Nat} {G : Nat → Prop} {A B C : World} (h : Kept lo M G A B) (k : Kept lo M G B C) : Kept lo M G A C :=
  ⟨k.os.trans h.os, k.tape.trans h.tape, k.output.trans h.output, Nat.le_trans h.size k.size, fun j hj => (k.block j hj).trans (h.block j hj)⟩
theorem Kept.less {lo lo' M : Nat} {G G' : Nat → Prop} {A B : World} (h : Kept lo M G A B) (hl : lo ≤ lo') (hG : ∀ j, G' j → G j ∨ (lo ≤ j ∧ j < M)) : Kept lo' M G' A B :=
  ⟨h.os, h.tape, h.output, h.size, fun j hj => h.block j (by
    rcases hj with hj | ⟨h1, h2⟩
    · exact hG j hj
    · exact .inr ⟨Nat.le_trans hl h1, h2⟩)⟩
/-- Of G alone. -/
theorem Kept.low {lo M : Nat} {G : Nat → Prop} {A B : World} (h : Kept lo M G A B) : Kept 0 0 G A B := ⟨h.os, h.tape, h.output, h.size, fun j hj => h.block j (.inl (hj.resolve_right (by omega)))⟩
/-- New memory alone. -/
theorem Kept.new {lo M : Nat} {G : Nat → Prop} {A B : World} (h : Below A.heap.size A B) (hM : M ≤ A.heap.size) (hG : ∀ j, G j → j < A.heap.size) : Kept lo M G A B :=
  ⟨h.os, h.tape, h.output, h.size, fun j hj => h.block j (by
    rcases hj with hj | ⟨_, h2⟩
    · exact hG j hj
    · omega)⟩
theorem Kept.grown {lo M : Nat} {G : Nat → Prop} {A B : World} {row : Option Nat} (h : A.grownBy B row) (hG : ∀ j, G j → j < A.heap.size) (hM : M ≤ A.heap.size) (hr : ∀ k, row = some k → ¬ G k ∧ ¬ (lo ≤ k ∧ k < M)) : Kept lo M G A B :=
  ⟨h.os, h.tape, h.output, h.size, fun j hj => h.block j (by
    rcases hj with hj | ⟨_, h2⟩
    · exact hG j hj
    · omega) (fun e => by
    rcases hj with hj | hj
    · exact (hr j e.symm).1 hj
    · exact (hr j e.symm).2 hj)⟩
/-- What an iterator may turn: the blocks from lo on and below M; what is new. -/
structure Step (lo M : Nat) (W W' : World) : Prop where
  os : W'.os = W.os
  tape : W'.tape = W.tape
  output : W'.output = W.output
  size : W.heap.size ≤ W'.heap.size
  block : ∀ j, j < W.heap.size → j < lo ∨ M ≤ j → W'.heap[j]? = W.heap[j]?
theorem Step.new {lo M : Nat} {A B : World} (h : Below A.heap.size A B) : Step lo M A B := ⟨h.os, h.tape, h.output, h.size, fun j hj _ => h.block j hj⟩
def Stable (lo M : Nat) (p : World → Prop) : Prop := ∀ (A B : World), p A → Step lo M A B → p B
theorem Stable.less {lo lo' M : Nat} {p : World → Prop} (h : Stable lo M p) (k : lo ≤ lo') : Stable lo' M p := fun A B ha hs =>
  h A B ha ⟨hs.os, hs.tape, hs.output, hs.size, fun j h1 h2 => hs.block j h1 (by omega)⟩
theorem Stable.and {lo M : Nat} {p q : World → Prop} (h : Stable lo M p) (k : Stable lo M q) : Stable lo M (fun W => p W ∧ q W) := fun A B ha hs => ⟨h A B ha.1 hs, k A B ha.2 hs⟩
theorem stable_pure (lo M : Nat) (p : Prop) : Stable lo M (fun _ => p) := fun _ _ h _ => h
theorem stable_obj (lo M b : Nat) (o : Obj) (h : b < lo) : Stable lo M (fun W => W.heap[b]? = some o) := fun _ _ ha hs =>
  (hs.block b (Array.getElem?_eq_some_iff.1 ha).1 (.inl h)).trans ha
theorem stable_below {lo M n : Nat} {w : World} (h : n ≤ lo) (hn : n ≤ w.heap.size) : Stable lo M (fun W => Below n w W) := fun A B ha hs =>
  ⟨hs.os.trans ha.os, hs.tape.trans ha.tape, hs.output.trans ha.output, Nat.le_trans ha.size hs.size, fun k hk => (hs.block k (Nat.lt_of_lt_of_le hk (Nat.le_trans hn ha.size)) (.inl (by omega))).trans (ha.block k hk)⟩
/-- A block that lies where a Step turns nothing. -/
theorem stable_keep {lo M : Nat} {w : World} {G : Nat → Prop} (hG : ∀ j, G j → j < lo ∧ j < w.heap.size) : Stable lo M (fun W => Kept 0 0 G w W) := fun A B ha hs =>
  ⟨hs.os.trans ha.os, hs.tape.trans ha.tape, hs.output.trans ha.output, Nat.le_trans ha.size hs.size, fun k hk => by
    have hk' : G k := hk.resolve_right (by omega)
    exact (hs.block k (Nat.lt_of_lt_of_le (hG k hk').2 ha.size) (.inl (hG k hk').1)).trans (ha.block k hk)⟩
/-- One block has turned. -/
structure Turned (l : Nat) (W W' : World) : Prop where
  os : W'.os = W.os
  tape : W'.tape = W.tape
  output : W'.output = W.output
  size : W'.heap.size = W.heap.size
  block : ∀ j, j ≠ l → W'.heap[j]? = W.heap[j]?
theorem turned_put (W : World) (l : Nat) (o : Obj) : Turned l W (W.putObj l o) := ⟨rfl, rfl, rfl, by simp, fun _ h => World.putObj_heap_other h⟩
theorem turned_set (W : World) (b i : Nat) (v : Value) : Turned b W (W.setCell ⟨b, i, none⟩ v) := ⟨rfl, rfl, rfl, by simp [World.setCell], fun j h => Below.heap_setCell W _ v j h⟩
theorem Turned.step {l lo M : Nat} {W W' : World} (h : Turned l W W') (h1 : lo ≤ l) (h2 : l < M) : Step lo M W W' := ⟨h.os, h.tape, h.output, Nat.le_of_eq h.size.symm, fun j _ hj => h.block j (by omega)⟩
theorem Turned.keep {l lo M : Nat} {G : Nat → Prop} {W W' : World} (h : Turned l W W') (h1 : l < lo) (hG : ¬ G l) : Kept lo M G W W' := ⟨h.os, h.tape, h.output, Nat.le_of_eq h.size.symm, fun j hj => h.block j (by
  rintro rfl
  rcases hj with hj | ⟨hj, _⟩
  · exact hG hj
  · omega)⟩
theorem Turned.below {l n : Nat} {w W W' : World} (h : Turned l W W') (k : Below n w W) (hn : n ≤ l) : Below n w W' := ⟨h.os.trans k.os, h.tape.trans k.tape, h.output.trans k.output, by rw [h.size]; exact k.size, fun j hj => (h.block j (by omega)).trans (k.block j hj)⟩
theorem Turned.cell {l : Nat} {W W' : World} (h : Turned l W W') {p : Addr} (hp : p.block ≠ l) : W'.cell? p = W.cell? p := World.cell?_of_block (w := W) (h.block p.block hp)
theorem Kept.cell {lo M : Nat} {G : Nat → Prop} {W W' : World} (h : Kept lo M G W W') {p : Addr} (hp : G p.block ∨ (lo ≤ p.block ∧ p.block < M)) : W'.cell? p = W.cell? p := World.cell?_of_block (w := W) (h.block p.block hp)
theorem Step.cell {lo M : Nat} {W W' : World} (h : Step lo M W W') {p : Addr} (hp : p.block < W.heap.size) (hq : p.block < lo ∨ M ≤ p.block) : W'.cell? p = W.cell? p := World.cell?_of_block (w := W) (h.block p.block hp hq)
theorem yieldAt_any {P : Program} {l m m' : Nat} {args : Array Value} {W : World} {R : Ending → World → Prop} (h : YieldAt Fence.wide m P l args W R) : YieldAt Fence.wide m' P l args W R := by
  obtain ⟨fn, tmps, assign, body, hy, hR⟩ := h
  exact ⟨fn, tmps, assign, body, hy, hR.1, fun c cs _ => hR.2 c cs (room_wide _)⟩

theorem round_any {P : Program} {m m' l : Nat} {f : FuncId} {tmps : Array Value} {assign body : Code} {w : World} {R : Ending → World → Prop} (h : RoundIn Fence.wide m P l f tmps assign body w R) : RoundIn Fence.wide m' P l f tmps assign body w R :=
  ⟨h.1, fun c cs _ => h.2 c cs (room_wide _)⟩
theorem round_in {P : Program} {m m' l l' : Nat} {f : FuncId} {tmps : Array Value} {assign body : Code} {w : World} {R : Ending → World → Prop} (h : RoundIn Fence.wide m P l f tmps assign body w R) : RoundIn (Fence.wide.inRound l') m' P l f tmps assign body w R :=
  round_any h
theorem call_in {P : Program} {m l' : Nat} {f : FuncId} {args : Array Value} {w : World} {R : Ending → World → Prop} (h : Calls P f args w R) : CallsIn (Fence.wide.inRound l') m P f args w R :=
  CallsIn.inRound l' (callsIn_wide.2 h)
theorem call_wide {P : Program} {m : Nat} {f : FuncId} {args : Array Value} {w : World} {R : Ending → World → Prop} (h : Calls P f args w R) : CallsIn Fence.wide m P f args w R := callsIn_wide.2 h
/-- THE CONTRACT OF AN ITERATOR, made in w: called in a later world W with a loop's yield, it hands the loop the xs, one by one, until the loop says 'no more'. J M k: k of them have come; M: from where on memory is not the iterator's. -/
def Seq {α : Type} (P : Program) (G : Nat → Prop) (g : Nat) (lb : Array Value) (enc : α → Array Value) (xs : List α) (w : World) : Prop :=
  ∀ (l : Nat) (J : Nat → Nat → World → Prop) (Jx : Nat → World → Prop) (W : World), Below w.heap.size w W →
    (∀ M k, Stable W.heap.size M (J M k)) → (∀ M, Stable W.heap.size M (Jx M)) →
    (∀ (M k : Nat) (hk : k < xs.length) (W1 : World), M ≤ W1.heap.size → J M k W1 → YieldAt Fence.wide 9 P l (enc xs[k]) W1 fun e W' =>
      Kept W.heap.size M G W1 W' ∧ ((e = .returned (.bool true) ∧ J M (k + 1) W') ∨ (e = .returned (.bool false) ∧ Jx M W'))) →
    (∀ M, W.heap.size ≤ M → J M 0 W) →
    CallsIn Fence.wide 9 P g (#[.func (.yield l) #[] #[]] ++ lb) W fun e W' => (∃ v, e = .returned v) ∧ ∃ M, M ≤ W'.heap.size ∧ (J M xs.length W' ∨ Jx M W')
theorem Seq.later {α : Type} {P : Program} {G G' : Nat → Prop} {g : Nat} {lb : Array Value} {enc : α → Array Value} {xs : List α} {w w' : World} (h : Seq P G g lb enc xs w) (hb : Below w.heap.size w w') (hG : ∀ j, G j → G' j) : Seq P G' g lb enc xs w' :=
  fun l J Jx W hW hJ hJx hY h0 => h l J Jx W (hb.trans (hW.mono hb.size)) hJ hJx (fun M k hk W1 hM hj => by
    obtain ⟨fn, tmps, assign, body, hy, hR⟩ := hY M k hk W1 hM hj
    exact ⟨fn, tmps, assign, body, hy, hR.mono fun e W' ⟨k1, k2⟩ => ⟨k1.less (Nat.le_refl _) (fun j hj => .inl (hG j hj)), k2⟩⟩) h0

/-- How a round may be left. -/
def roundTo {α : Type} (lo M : Nat) (G : Nat → Prop) (I : Nat → Nat → World → Prop) (Ix : Nat → World → Prop) (_ : α) (k : Nat) (W : World) : Exit → Act → World → Prop
  | .normal, _, W' => Kept lo M G W W' ∧ I M (k + 1) W'
  | .ret, _, W' => Kept lo M G W W' ∧ Ix M W'
  | .exit _, _, _ => False
  | .goto _, _, _ => False
  | .panic _, _, _ => False
  | .outgrown, _, _ => False

/-- **THE STATEMENT 'for x := range g { body }'.** -/
theorem range_law {P : Program} {α : Type} {G : Nat → Prop} {enc : α → Array Value} {xs : List α} {g : Operand} {ps : Array Tmp} {assign body : Code} {Q : Exit → Act → World → Prop} {a : Act} {w w0 : World}
    {gf : Nat} {lb : Array Value} (hg : a.eval g = .func (.func gf) #[] lb) (eg : ∀ args w, (callFunc gf args).run P w = .ok (.enter gf args) w) (hseq : Seq P G gf lb enc xs w0) (hb0 : Below w0.heap.size w0 w) (hps : ∀ x, (enc x).size = ps.size) (hG : ∀ k, G k → k < w.heap.size)
    (I : Nat → Nat → World → Prop) (Ix : Nat → World → Prop) (hI : ∀ M k, Stable w.heap.size M (I M k)) (hIx : ∀ M, Stable w.heap.size M (Ix M)) (h0 : ∀ M, w.heap.size ≤ M → I M 0 w)
    (hround : ∀ (M k : Nat) (hk : k < xs.length) (W : World), w.heap.size + 2 ≤ M → M ≤ W.heap.size → I M k W →
      assign.wpIn (Fence.wide.inRound (w.heap.size + 1)) 7 P (Exit.then (fun a₁ W₁ => Below W.heap.size W W₁ ∧ ∀ W₂, Turned (w.heap.size + 1) W₁ W₂ → I M k W₂ → body.wpIn (Fence.wide.inRound (w.heap.size + 1)) 7 P (roundTo w.heap.size M G I Ix xs[k] k W₂) a₁ W₂) (fun _ _ _ => False))
        { tmps := (ps.zip (enc xs[k])).foldl (fun t (p, v) => t.setIfInBounds p v) a.tmps, defers := [] } W)
    (hdone : ∀ (M : Nat) (W : World), w.heap.size + 2 ≤ M → M ≤ W.heap.size → I M xs.length W → W.heap[w.heap.size]? = some (.deferred (some [])) → Q .normal { a with defers := { target := .collected w.heap.size, args := #[] } :: a.defers } W)
    (hstop : ∀ (M : Nat) (W : World), w.heap.size + 2 ≤ M → M ≤ W.heap.size → Ix M W → W.heap[w.heap.size]? = some (.deferred (some [])) → Code.ret.wpIn Fence.wide 9 P Q { a with defers := { target := .collected w.heap.size, args := #[] } :: a.defers } W) :
    (Code.rangeFunc g ps assign body).wpIn Fence.wide 9 P Q a w := by
  refine wpIn_rangeFunc ?_
  intro fn hfn
  obtain ⟨rec, hrec⟩ : ∃ rec : LoopState → Option Code → Loop, rec = fun st pe => { state := st, pending := pe, fn, tmps := a.tmps, params := ps, assign, body, defers := w.heap.size } := ⟨_, rfl⟩
  obtain ⟨W1, hW1⟩ : ∃ W1, (w.alloc (.deferred (some []))).alloc (.loop (rec .ready none)) = W1 := ⟨_, rfl⟩
  have hs1 : W1.heap.size = w.heap.size + 2 := by rw [← hW1]; simp
  have hb1 : Below w.heap.size w W1 := by rw [← hW1]; exact ((Below.refl _ w).alloc (Nat.le_refl _) _).alloc (by simp) _
  have hL1 : W1.heap[w.heap.size + 1]? = some (.loop (rec .ready none)) := by
    rw [← hW1]; have := World.alloc_heap_new (w.alloc (.deferred (some []))) (.loop (rec .ready none)); rwa [World.size_alloc] at this
  have hK1 : W1.heap[w.heap.size]? = some (.deferred (some [])) := by
    rw [← hW1]; exact (Below.heap_alloc _ _ _ (by simp)).trans (World.alloc_heap_new w _)
  refine ⟨w.heap.size + 1, [{ target := .collected w.heap.size, args := #[] }], W1, { target := .fn (.func gf) lb, args := #[.func (.yield (w.heap.size + 1)) #[] #[]] }, W1, gf,
    #[.func (.yield (w.heap.size + 1)) #[] #[]] ++ lb, W1, ?_, ?_, fun _ _ => trivial, ?_, fun h => by simp [Fence.wide] at h, ?_⟩
  · rw [← hW1, hrec]; exact run_enterLoop_outer _ _ _ _ _
  · simp only [resolve, hg]
    simp [go_sem]
  · simp [invoke, go_sem, eg]
  · refine callsIn_wide.2 ((callsIn_wide (n := 9)).1 (hseq (w.heap.size + 1)
      (fun M k W => w.heap.size + 2 ≤ M ∧ (I M k W ∧ (W.heap[w.heap.size + 1]? = some (.loop (rec .ready none)) ∧ W.heap[w.heap.size]? = some (.deferred (some [])))))
      (fun M W => w.heap.size + 2 ≤ M ∧ (Ix M W ∧ (W.heap[w.heap.size + 1]? = some (.loop (rec .done (some .ret))) ∧ W.heap[w.heap.size]? = some (.deferred (some [])))))
      W1 (hb0.trans (hb1.mono hb0.size))
      (fun M k => (stable_pure _ _ _).and (((hI M k).less (by omega)).and ((stable_obj _ _ _ _ (by omega)).and (stable_obj _ _ _ _ (by omega)))))
      (fun M => (stable_pure _ _ _).and (((hIx M).less (by omega)).and ((stable_obj _ _ _ _ (by omega)).and (stable_obj _ _ _ _ (by omega)))))
      ?_ (fun M hM => ⟨by omega, hI M 0 _ _ (h0 M (by omega)) (Step.new hb1), hL1, hK1⟩) |>.mono ?_))
    · -- one round
      rintro M k hk W hMW ⟨hM, hi, hl, hd⟩
      have hlt : w.heap.size + 1 < W.heap.size := (Array.getElem?_eq_some_iff.1 hl).1
      have hy := run_yield (P := P) (args := enc xs[k]) hl (by rw [hrec]; exact hps _)
      rw [hrec] at hy
      refine yieldAt_any (m := 7) ⟨fn, _, assign, body, hy, roundIn_of_wpIn trivial (wpIn_mono (hround M k hk W hM hMW hi) ?_)⟩
      clear hy
      rintro e a₁ W₁ hp
      cases e with
      | normal =>
        obtain ⟨hnew, hp⟩ := hp
        have hl' : W₁.heap[w.heap.size + 1]? = some (.loop (rec .ready none)) := (hnew.block _ hlt).trans hl
        have hd' : W₁.heap[w.heap.size]? = some (.deferred (some [])) := (hnew.block _ (by omega)).trans hd
        refine ⟨_, run_beginRound hl' (by rw [hrec]), ?_⟩
        have ht := turned_put W₁ (w.heap.size + 1) (.loop { rec .ready none with state := .busy })
        have hi2 : I M k (W₁.putObj (w.heap.size + 1) (.loop { rec .ready none with state := .busy })) := hI M k _ _ (hI M k _ _ hi (Step.new hnew)) (ht.step (by omega) (by omega))
        have hl2 : (W₁.putObj (w.heap.size + 1) (.loop { rec .ready none with state := .busy })).heap[w.heap.size + 1]? = some (.loop { rec .ready none with state := .busy }) := World.putObj_heap_same (Array.getElem?_eq_some_iff.1 hl').1
        have hd2 : (W₁.putObj (w.heap.size + 1) (.loop { rec .ready none with state := .busy })).heap[w.heap.size]? = some (.deferred (some [])) := (World.putObj_heap_other (by omega)).trans hd'
        have hnG : ¬ G (w.heap.size + 1) := fun h => by have := hG _ h; omega
        have kq : Kept W1.heap.size M G W (W₁.putObj (w.heap.size + 1) (.loop { rec .ready none with state := .busy })) :=
          (Kept.new hnew hMW (fun j hj => by have := hG j hj; omega)).trans (ht.keep (by omega) hnG)
        refine wpIn_mono (hp _ ht hi2) ?_
        rintro e3 a3 W3 hq
        have fin : ∀ (jump : Option Code), Kept w.heap.size M G (W₁.putObj (w.heap.size + 1) (.loop { rec .ready none with state := .busy })) W3 →
            (Instr.endRound (w.heap.size + 1) jump).run P W3 = .ok (.bool jump.isNone) (W3.putObj (w.heap.size + 1) (.loop (rec (if jump.isNone then .ready else .done) jump))) ∧
            Kept W1.heap.size M G W (W3.putObj (w.heap.size + 1) (.loop (rec (if jump.isNone then .ready else .done) jump))) ∧
            (W3.putObj (w.heap.size + 1) (.loop (rec (if jump.isNone then .ready else .done) jump))).heap[w.heap.size + 1]? = some (.loop (rec (if jump.isNone then .ready else .done) jump)) ∧
            (W3.putObj (w.heap.size + 1) (.loop (rec (if jump.isNone then .ready else .done) jump))).heap[w.heap.size]? = some (.deferred (some [])) := fun jump hk3 => by
          have hl3 := (hk3.block (w.heap.size + 1) (.inr ⟨by omega, by omega⟩)).trans hl2
          have hd3 := (hk3.block w.heap.size (.inr ⟨by omega, by omega⟩)).trans hd2
          have := run_endRound (P := P) jump hl3
          rw [hrec] at this ⊢
          exact ⟨this, (kq.trans (hk3.less (by omega) (fun j hj => .inl hj))).trans ((turned_put W3 _ _).keep (by omega) hnG), World.putObj_heap_same (Array.getElem?_eq_some_iff.1 hl3).1, (World.putObj_heap_other (by omega)).trans hd3⟩
        cases e3 with
        | normal =>
          obtain ⟨hk3, hi3⟩ := hq
          obtain ⟨hr, hk4, hl4, hd4⟩ := fin none hk3
          exact ⟨_, _, hr, hk4, .inl ⟨rfl, hM, hI M _ _ _ hi3 ((turned_put W3 _ _).step (by omega) (by omega)), hl4, hd4⟩⟩
        | ret =>
          obtain ⟨hk3, hi3⟩ := hq
          obtain ⟨hr, hk4, hl4, hd4⟩ := fin (some .ret) hk3
          exact ⟨_, _, hr, hk4, .inr ⟨rfl, hM, hIx M _ _ hi3 ((turned_put W3 _ _).step (by omega) (by omega)), hl4, hd4⟩⟩
        | exit id => exact hq.elim
        | goto t => exact hq.elim
        | panic ch => exact hq.elim
        | outgrown => exact hq.elim
      | ret => exact hp.elim
      | exit id => exact hp.elim
      | goto t => exact hp.elim
      | panic ch => exact hp.elim
      | outgrown => exact hp.elim
    · -- behind the iterator
      rintro e W2 ⟨⟨v, rfl⟩, M, hMW, (⟨hM, hi, hl, hd⟩ | ⟨hM, hi, hl, hd⟩)⟩
      · refine ⟨none, _, by have := run_endLoop (P := P) hl (by rw [hrec]; simp); rw [hrec] at this; exact this, ?_⟩
        exact hdone M _ hM (by simpa using hMW) (hI M _ _ _ hi ((turned_put W2 _ _).step (by omega) (by omega))) ((World.putObj_heap_other (by omega)).trans hd)
      · refine ⟨some .ret, _, by have := run_endLoop (P := P) hl (by rw [hrec]; simp); rw [hrec] at this; exact this, ?_⟩
        exact hstop M _ hM (by simpa using hMW) (hIx M _ _ hi ((turned_put W2 _ _).step (by omega) (by omega))) ((World.putObj_heap_other (by omega)).trans hd)
end Go.Proofs.YtanfalkpmmkklaaDoor
