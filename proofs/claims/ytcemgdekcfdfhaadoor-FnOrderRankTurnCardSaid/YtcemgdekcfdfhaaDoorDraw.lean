/- Opening a code, and what a draw does to memory: the reader moves on, all else that was there stays. -/
import Derived.Test.YtcemgdekcfdfhaaDoorPick
import Derived.WalkSmall
namespace Go.Proofs.YtcemgdekcfdfhaaDoor
open Go.RowKit

/-- All that was there stays, but for block b. -/
structure Keep (b : Nat) (w w' : World) : Prop where
  os : w'.os = w.os
  tape : w'.tape = w.tape
  output : w'.output = w.output
  size : w.heap.size ≤ w'.heap.size
  block : ∀ k, k < w.heap.size → k ≠ b → w'.heap[k]? = w.heap[k]?

theorem Keep.refl (b : Nat) (w : World) : Keep b w w := ⟨rfl, rfl, rfl, Nat.le_refl _, fun _ _ _ => rfl⟩
theorem Keep.trans {b : Nat} {x y z : World} (h : Keep b x y) (k : Keep b y z) : Keep b x z :=
  ⟨k.os.trans h.os, k.tape.trans h.tape, k.output.trans h.output, Nat.le_trans h.size k.size,
    fun i hi hb => (k.block i (Nat.lt_of_lt_of_le hi h.size) hb).trans (h.block i hi hb)⟩
/-- Behind a call that made its reader itself. -/
theorem Keep.below {B b : Nat} {w w1 w' : World} (h : Below B w w1) (k : Keep b w1 w') (hB : B ≤ b) (hs : B ≤ w1.heap.size) : Below B w w' :=
  h.trans ⟨k.os, k.tape, k.output, k.size, fun i hi => k.block i (by omega) (by omega)⟩
theorem Keep.to {b : Nat} {w w' : World} (k : Keep b w w') (hb : b < w.heap.size) : Below b w w' :=
  ⟨k.os, k.tape, k.output, k.size, fun i hi => k.block i (by omega) (by omega)⟩
theorem Keep.cell {b : Nat} {w w' : World} (k : Keep b w w') {p : Addr} (h : p.block < w.heap.size) (hb : p.block ≠ b) : w'.cell? p = w.cell? p :=
  World.cell?_of_block (w := w) (k.block p.block h hb)
theorem Keep.frozen {b : Nat} {w w' : World} (k : Keep b w w') {p : Addr} (h : p.block < w.heap.size) (hb : p.block ≠ b) : w'.frozen? p = w.frozen? p :=
  World.frozen?_of_block (w := w) (k.block p.block h hb)

theorem Keep.made {b : Nat} {w w' : World} (h : Below w.heap.size w w') : Keep b w w' := ⟨h.os, h.tape, h.output, h.size, fun k hk _ => h.block k hk⟩
theorem Keep.alloc (b : Nat) (w : World) (o : Obj) : Keep b w (w.alloc o) := Keep.made ((Below.refl _ _).alloc (Nat.le_refl _) _)

/-- Block b is a reader that has read at most m bytes. -/
def At (w : World) (b m : Nat) : Prop := ∃ p, p ≤ m ∧ b < w.heap.size ∧ Rd w b p
theorem At.mono {w : World} {b m m' : Nat} (h : At w b m) (k : m ≤ m') : At w b m' := by obtain ⟨p, hp, h⟩ := h; exact ⟨p, by omega, h⟩
theorem At.lt {w : World} {b m : Nat} (h : At w b m) : b < w.heap.size := by obtain ⟨p, _, h, _⟩ := h; exact h
theorem cell_lt {w : World} {a : Addr} {v : Value} (h : w.cell? a = some v) : a.block < w.heap.size := by
  unfold World.cell? at h
  rcases Nat.lt_or_ge a.block w.heap.size with k | k
  · exact k
  · simp [Array.getElem?_eq_none k] at h
/-- The reader stays where it is while only other blocks turn. -/
theorem Rd.stay {w w' : World} {b p : Nat} (h : Rd w b p) (hc : ∀ a : Addr, a.block ≤ b → w'.cell? a = w.cell? a) (hf : ∀ a : Addr, a.block ≤ b → w'.frozen? a = w.frozen? a) : Rd w' b p := by
  obtain ⟨h1, h2, a, len, cap, h3, h4, h5⟩ := h
  refine ⟨(hc _ (Nat.le_refl _)).trans h1, (hf _ (Nat.le_refl _)).trans h2, a, len, cap, (hc _ (Nat.le_refl _)).trans h3, h4, ?_⟩
  rcases h5 with h5 | ⟨x, hx, hb, hz⟩
  · exact .inl h5
  · refine .inr ⟨x, hx, hb, fun i hi => ?_⟩
    obtain ⟨z, hz1, hz2⟩ := hz i hi
    exact ⟨z, (hc _ (by rw [add_block]; omega)).trans hz1, hz2⟩
/-- Behind what leaves the reader and all below it alone. -/
theorem At.below {w w' : World} {b m : Nat} (h : At w b m) (k : Below (b + 1) w w') : At w' b m := by
  obtain ⟨p, hp, hb, h⟩ := h
  exact ⟨p, hp, Nat.lt_of_lt_of_le hb k.size, h.stay (fun a ha => k.cell (by omega)) (fun a ha => k.frozen (by omega))⟩
theorem At.alloc {w : World} {b m : Nat} (h : At w b m) (o : Obj) : At (w.alloc o) b m := h.below ((Below.refl _ _).alloc h.lt _)
theorem At.drew {w : World} {b m : Nat} (h : At w b m) : At w.drew b m := h.below (Below.refl _ _).drew
theorem Keep.drew (b : Nat) (w : World) : Keep b w w.drew := Keep.made (Below.refl _ _).drew
theorem At.next {w : World} {b m p : Nat} (h : Rd w b p) (hb : b < w.heap.size) (hp : p ≤ m) (k : Nat) :
    At ((w.setCell ⟨b, 1, none⟩ (.int .i64 ((p : Int) + 1))).drewN k) b (m + 1) := by
  obtain ⟨h1, h2, a, len, cap, h3, h4, h5⟩ := h
  refine ⟨p + 1, by omega, by simp [World.setCell, World.drewN]; exact hb, ?_, ?_, a, len, cap, ?_, h4, ?_⟩
  · rw [World.cell?_drewN, World.cell?_setCell_same _ _ _ h1]; rfl
  · rw [World.frozen?_drewN, World.frozen?_setCell]; exact h2
  · rw [World.cell?_drewN, World.cell?_setCell_other _ _ _ _ (by simp)]; exact h3
  · rcases h5 with h5 | ⟨x, hx, hb, hz⟩
    · exact .inl h5
    · refine .inr ⟨x, hx, hb, fun i hi => ?_⟩
      obtain ⟨z, hz1, hz2⟩ := hz i hi
      exact ⟨z, by rw [World.cell?_drewN]; exact cell_past _ (by show x.block ≠ b; omega) hz1, hz2⟩

/-- What a call of pick comes to. -/
def Pick (n : Int) (w w' : World) (b m : Nat) (e : Ending) : Prop :=
  ∃ r : Int, e = .returned (.int .i64 r) ∧ 0 ≤ r ∧ (1 ≤ n → r < n) ∧ (n < 1 → r = 0) ∧ At w' b (m + 1) ∧ Keep b w w'

theorem pick_at {w : World} {b m : Nat} (n : Int) (h : At w b m) (hm : m ≤ 1000000) :
    Calls Tryd.prog 22 #[.pointer (some ⟨b, 0, none⟩), .int .i64 n] w fun e w' => Pick n w w' b m e := by
  obtain ⟨p, hp, hb, hr⟩ := h
  refine (pick_any n hr (by omega)).mono fun e w' h => ?_
  obtain ⟨r, he, r0, r1, r2, k, hw⟩ := h
  subst hw
  exact ⟨r, he, r0, r1, r2, At.next hr hb hp k, rfl, rfl, rfl, by simp [World.setCell, World.drewN], fun i _ hi => Below.heap_setCell _ _ _ _ hi⟩

/-- The bytes that came in: none, or a row of bytes. -/
def Bytes (w : World) (a : Option Addr) (len cap : Nat) : Prop :=
  (a = none ∧ len = 0 ∧ cap = 0) ∨ ∃ x, a = some x ∧ len ≤ cap ∧ cap ≤ maxLen ∧ (len = 0 ∨ x.block < w.heap.size) ∧ ∀ i, i < len → ∃ z : Int, w.cell? (x.add i) = some (.int .u8 z) ∧ 0 ≤ z ∧ z ≤ 255

theorem bytes_of {w : World} {a : Option Addr} {len cap : Nat} {zs : List Int}
    (h : (a = none ∧ len = 0 ∧ cap = 0 ∧ zs = []) ∨
      ∃ x, a = some x ∧ len ≤ cap ∧ cap ≤ maxLen ∧ zs.length = cap ∧ (∀ i, i < zs.length → w.cell? (x.add i) = some (.int .u8 (zs.getD i 0))) ∧ ∀ n ∈ zs, (Lit.int .u8 n).wf = true) : Bytes w a len cap := by
  rcases h with ⟨h1, h2, h3, _⟩ | ⟨x, h1, h2, h3, h4, h5, h6⟩
  · exact .inl ⟨h1, h2, h3⟩
  · refine .inr ⟨x, h1, h2, h3, ?_, fun i hi => ⟨zs.getD i 0, h5 i (by omega), ?_⟩⟩
    · by_cases h0 : len = 0
      · exact .inl h0
      · refine .inr ?_
        have := cell_lt (h5 0 (by omega))
        rwa [add_block] at this
    · have hm : zs.getD i 0 ∈ zs := by
        rw [List.getD_eq_getElem?_getD, List.getElem?_eq_getElem (by omega)]; simp
      exact bounds_u8 (h6 _ hm)

theorem bytes_len {w : World} {a : Option Addr} {len cap : Nat} (h : Bytes w a len cap) : len ≤ maxLen := by
  rcases h with ⟨_, h2, _⟩ | ⟨x, _, h2, h3, _⟩
  · subst h2; exact Nat.zero_le _
  · exact Nat.le_trans h2 h3

/-- What l6Open comes to: a new reader at its first byte. -/
def Opened (w w' : World) (e : Ending) : Prop :=
  e = .returned (.pointer (some ⟨w.heap.size, 0, none⟩)) ∧ At w' w.heap.size 0 ∧ Below w.heap.size w w' ∧ w.heap.size + 1 ≤ w'.heap.size

theorem opened_mk {w : World} {a : Option Addr} {len cap : Nat} {t : TypeId} (h : Bytes w a len cap) (l' : Nat) (hl : l' ≤ len) (hl' : l' ≤ 2000) :
    Opened w (w.alloc (.cells #[.slice a l' cap, .int .i64 0] t)) (.returned (.pointer (some ⟨w.heap.size, 0, none⟩))) := by
  refine ⟨rfl, ⟨0, Nat.le_refl _, by simp, ?_, ?_, a, l', cap, ?_, hl', ?_⟩, (Below.refl _ _).alloc (Nat.le_refl _) _, by simp⟩
  · simp
  · simp
  · simp
  · rcases h with ⟨h1, h2, h3⟩ | ⟨x, h1, h2, h3, h4, h5⟩
    · exact .inl (by omega)
    · by_cases h0 : l' = 0
      · exact .inl h0
      · refine .inr ⟨x, h1, by omega, fun i hi => ?_⟩
        obtain ⟨z, hz, hz'⟩ := h5 i (by omega)
        exact ⟨z, by rw [World.cell?_alloc_lt _ _ _ (cell_lt hz)]; exact hz, hz'⟩
theorem open_any {w : World} {a : Option Addr} {len cap : Nat} (h : Bytes w a len cap) :
    Calls Tryd.prog 19 #[.slice a len cap] w fun e w' => Opened w w' e := by
  have hl : len ≤ cap ∧ cap ≤ maxLen := by
    rcases h with ⟨h1, h2, h3⟩ | ⟨x, h1, h2, h3, h4, h5⟩
    · subst h2 h3; exact ⟨Nat.le_refl _, by unfold maxLen; omega⟩
    · exact ⟨h2, h3⟩
  obtain ⟨hc, hm⟩ := hl
  unfold maxLen at hm
  by_cases hd : 2000 < len
  · go_enter Tryd.func19, Tryd.ntmps19
    go_wp2
    go_ret
    exact opened_mk h 2000 (by omega) (by omega)
  · go_enter Tryd.func19, Tryd.ntmps19
    go_wp2
    go_ret
    exact opened_mk h len (by omega) (by omega)
end Go.Proofs.YtcemgdekcfdfhaaDoor
