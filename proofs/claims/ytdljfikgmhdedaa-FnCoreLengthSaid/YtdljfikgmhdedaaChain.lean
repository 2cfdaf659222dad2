/- Linked lists of pieces in memory, and the contracts of the links' methods that only look. -/
import Derived.Test.YtdljfikgmhdedaaCore
import Derived.Test.YtdljfikgmhdedaaRows
import Derived.WalkKit
import Derived.ProofKit
import Derived.OpenShut
import Derived.Below
import Derived.Lib.Hide
import Derived.Deep.QuietTactic
import Derived.BigQuiet
import Derived.Outline
import Derived.Handy
import Derived.WalkSmall
import Derived.Deep.LoopGhost
namespace Go.Proofs.Ytdljfikgmhdedaa
open Go.RowKit

/-- Below all blocks that were there. -/
abbrev Grows (w w' : World) : Prop := Below w.heap.size w w'
theorem Grows.trans {a b c : World} (h : Below a.heap.size a b) (k : Below b.heap.size b c) : Below a.heap.size a c := h.trans (k.mono h.size)

theorem below_drewN {B : Nat} {a w : World} (h : Below B a w) (n : Nat) : Below B a (w.drewN n) := ⟨h.os, h.tape, h.output, h.size, h.block⟩

/-- Where the first of some blocks begins. -/
def adr : List Nat → Option Addr
  | [] => none
  | b :: _ => some ⟨b, 0, none⟩
theorem adr_nil : adr [] = none := rfl
theorem adr_cons (b : Nat) (bs : List Nat) : adr (b :: bs) = some ⟨b, 0, none⟩ := rfl
/-- A pointer to the first of some blocks. -/
abbrev ptrOf (bs : List Nat) : Value := .pointer (adr bs)
/-- Block b is the link of the piece p, with v as its pointer. -/
structure Nd (w : World) (b : Nat) (p : Pc) (v : Value) : Prop where
  top : w.cell? ⟨b, 0, none⟩ = some (.int .i64 p.1)
  bot : w.cell? ⟨b, 1, none⟩ = some (.int .i64 p.2)
  nxt : w.cell? ⟨b, 2, none⟩ = some v
  f1 : w.frozen? ⟨b, 1, none⟩ = false
  f2 : w.frozen? ⟨b, 2, none⟩ = false
/-- The blocks bs, all from B on, are the links of the list. -/
def Chain (w : World) (B : Nat) : List Nat → List Pc → Prop
  | [], l => l = []
  | b :: bs, l => ∃ p r, l = p :: r ∧ B ≤ b ∧ b ∉ bs ∧ Nd w b p (ptrOf bs) ∧ Chain w B bs r

theorem cell_below {w : World} {a : Addr} {v : Value} (h : w.cell? a = some v) : a.block < w.heap.size := by
  unfold World.cell? at h
  rcases Nat.lt_or_ge a.block w.heap.size with k | k
  · exact k
  · simp [Array.getElem?_eq_none k] at h
theorem Nd.lt {w : World} {b : Nat} {p : Pc} {v : Value} (h : Nd w b p v) : b < w.heap.size := cell_below h.top
theorem Nd.same {w w' : World} {b : Nat} {p : Pc} {v : Value} (h : Nd w b p v) (k : w'.heap[b]? = w.heap[b]?) : Nd w' b p v :=
  ⟨(World.cell?_of_block (a := ⟨b, 0, none⟩) k).trans h.top, (World.cell?_of_block (a := ⟨b, 1, none⟩) k).trans h.bot, (World.cell?_of_block (a := ⟨b, 2, none⟩) k).trans h.nxt,
   (World.frozen?_of_block (a := ⟨b, 1, none⟩) k).trans h.f1, (World.frozen?_of_block (a := ⟨b, 2, none⟩) k).trans h.f2⟩
theorem Chain.lt {w : World} {B : Nat} {bs : List Nat} {l : List Pc} (h : Chain w B bs l) : ∀ b ∈ bs, B ≤ b ∧ b < w.heap.size := by
  induction bs generalizing l with
  | nil => intro b hb; simp at hb
  | cons c bs ih =>
    obtain ⟨p, r, rfl, h1, h2, h3, h4⟩ := h
    intro b hb
    rcases List.mem_cons.1 hb with rfl | hb
    · exact ⟨h1, h3.lt⟩
    · exact ih h4 b hb
theorem Chain.same {w w' : World} {B : Nat} {bs : List Nat} {l : List Pc} (h : Chain w B bs l) (k : ∀ b ∈ bs, w'.heap[b]? = w.heap[b]?) : Chain w' B bs l := by
  induction bs generalizing l with
  | nil => exact h
  | cons c bs ih =>
    obtain ⟨p, r, rfl, h1, h2, h3, h4⟩ := h
    exact ⟨p, r, rfl, h1, h2, h3.same (k c (by simp)), ih h4 fun b hb => k b (by simp [hb])⟩
theorem Chain.grow {w w' : World} {B : Nat} {bs : List Nat} {l : List Pc} (h : Chain w B bs l) (k : Below w.heap.size w w') : Chain w' B bs l :=
  h.same fun b hb => k.block b (h.lt b hb).2
theorem Chain.mono {w : World} {B B' : Nat} {bs : List Nat} {l : List Pc} (h : Chain w B bs l) (k : B' ≤ B) : Chain w B' bs l := by
  induction bs generalizing l with
  | nil => exact h
  | cons c bs ih =>
    obtain ⟨p, r, rfl, h1, h2, h3, h4⟩ := h
    exact ⟨p, r, rfl, Nat.le_trans k h1, h2, h3, ih h4⟩
theorem Chain.nil {w : World} {B : Nat} {bs : List Nat} (h : Chain w B bs []) : bs = [] := by
  cases bs with
  | nil => rfl
  | cons b bs => obtain ⟨p, r, e, _⟩ := h; simp at e
theorem Chain.cons {w : World} {B : Nat} {bs : List Nat} {p : Pc} {l : List Pc} (h : Chain w B bs (p :: l)) : ∃ b cs, bs = b :: cs ∧ B ≤ b ∧ b ∉ cs ∧ Nd w b p (ptrOf cs) ∧ Chain w B cs l := by
  cases bs with
  | nil => simp [Chain] at h
  | cons b bs =>
    obtain ⟨q, r, e, h1, h2, h3, h4⟩ := h
    simp only [List.cons.injEq] at e
    obtain ⟨rfl, rfl⟩ := e
    exact ⟨b, bs, rfl, h1, h2, h3, h4⟩
/-- An integer that fits. -/
def I64 (n : Int) : Prop := -9223372036854775808 ≤ n ∧ n ≤ 9223372036854775807
def Wf (l : List Pc) : Prop := ∀ p ∈ l, I64 p.1 ∧ I64 p.2

def fitB (p : Pc) (l : List Pc) : Bool := okP p && above p.2 l
theorem valid_cons (p : Pc) (l : List Pc) : valid (p :: l) = (fitB p l && valid l) := rfl

theorem okP_no {p : Pc} (h : okP p = false) : p.1 < 0 ∨ 30000 < p.2 ∨ p.2 ≤ p.1 := by
  simp only [okP, Bool.and_eq_false_iff, decide_eq_false_iff_not] at h; omega
theorem okP_yes {p : Pc} (h : okP p = true) : 0 ≤ p.1 ∧ p.2 ≤ 30000 ∧ p.1 < p.2 := by
  simp only [okP, Bool.and_eq_true, decide_eq_true_eq] at h; omega

set_option maxHeartbeats 400000 in
theorem fits_bad {w : World} {b : Nat} {p : Pc} {v : Value} (h : Nd w b p v) (hk : okP p = false) :
    Calls Try.prog 49 #[.pointer (some ⟨b, 0, none⟩)] w fun e w' => e = .returned (.bool false) ∧ Below w.heap.size w w' := by
  obtain ⟨t, u⟩ := p
  obtain ⟨h1, h2, h3, h4, h5⟩ := h
  have hb := cell_below h1
  have hk := okP_no hk
  simp only [] at h1 h2 hb hk
  by_cases c1 : t < 0
  · go_enter Try.func49, Try.ntmps49
    go_wp2
    go_ret
    exact ⟨rfl, by go_grown⟩
  · by_cases c2 : 30000 < u
    · go_enter Try.func49, Try.ntmps49
      go_wp2
      go_ret
      exact ⟨rfl, by go_grown⟩
    · have c3 : u ≤ t := by omega
      go_enter Try.func49, Try.ntmps49
      go_wp2
      go_ret
      exact ⟨rfl, by go_grown⟩
theorem fits_last {w : World} {b : Nat} {p : Pc} (h : Nd w b p (.pointer none)) (hk : okP p = true) :
    Calls Try.prog 49 #[.pointer (some ⟨b, 0, none⟩)] w fun e w' => e = .returned (.bool true) ∧ Below w.heap.size w w' := by
  obtain ⟨t, u⟩ := p
  obtain ⟨h1, h2, h3, h4, h5⟩ := h
  have hb := cell_below h1
  obtain ⟨k1, k2, k3⟩ := okP_yes hk
  simp only [] at h1 h2 hb k1 k2 k3
  go_enter Try.func49, Try.ntmps49
  go_wp2
  go_quiet (fail)
  go_wp2
  go_ret
  exact ⟨rfl, below_drewN (by go_grown) _⟩
theorem fits_more {w : World} {b c : Nat} {p q : Pc} {v : Value} (h : Nd w b p (.pointer (some ⟨c, 0, none⟩))) (g : Nd w c q v) (hk : okP p = true) :
    Calls Try.prog 49 #[.pointer (some ⟨b, 0, none⟩)] w fun e w' => e = .returned (.bool (decide (p.2 ≤ q.1))) ∧ Below w.heap.size w w' := by
  obtain ⟨t, u⟩ := p
  obtain ⟨t', u'⟩ := q
  obtain ⟨h1, h2, h3, h4, h5⟩ := h
  obtain ⟨g1, _, _, _, _⟩ := g
  have hb := cell_below h1
  have hc := cell_below g1
  obtain ⟨k1, k2, k3⟩ := okP_yes hk
  simp only [] at h1 h2 hb hc k1 k2 k3 g1
  go_enter Try.func49, Try.ntmps49
  go_wp2
  go_quiet (fail)
  go_wp2
  go_ret
  exact ⟨rfl, below_drewN (by go_grown) _⟩
theorem fits_any {w : World} {B b : Nat} {bs : List Nat} {p : Pc} {l : List Pc} (h : Chain w B (b :: bs) (p :: l)) :
    Calls Try.prog 49 #[.pointer (some ⟨b, 0, none⟩)] w fun e w' => e = .returned (.bool (fitB p l)) ∧ Below w.heap.size w w' := by
  obtain ⟨_, _, e, _, _, h3, h4⟩ := h
  simp only [List.cons.injEq] at e
  obtain ⟨rfl, rfl⟩ := e
  cases hk : okP p
  · simp only [fitB, hk, Bool.false_and]
    exact fits_bad h3 hk
  · simp only [fitB, hk, Bool.true_and]
    cases l with
    | nil => obtain rfl := h4.nil; exact fits_last h3 hk
    | cons q r =>
      obtain ⟨c, cs, rfl, _, _, g, _⟩ := h4.cons
      exact fits_more h3 g hk
/-- The piece touches the next one. -/
def tch (p : Pc) : List Pc → Bool
  | [] => false
  | q :: _ => q.1 == p.2
theorem touches_any {w : World} {B b : Nat} {bs : List Nat} {p : Pc} {l : List Pc} (h : Chain w B (b :: bs) (p :: l)) :
    Calls Try.prog 40 #[.pointer (some ⟨b, 0, none⟩)] w fun e w' => e = .returned (.bool (tch p l)) ∧ Below w.heap.size w w' := by
  obtain ⟨_, _, e, _, _, h3, h4⟩ := h
  simp only [List.cons.injEq] at e
  obtain ⟨rfl, rfl⟩ := e
  obtain ⟨t, u⟩ := p
  obtain ⟨h1, h2, h3, _, _⟩ := h3
  have hb := cell_below h1
  cases l with
  | nil =>
    obtain rfl := h4.nil
    simp only [ptrOf, adr, tch] at h1 h2 h3 hb ⊢
    clear h4
    go_enter Try.func40, Try.ntmps40
    go_wp2
    go_quiet (fail)
    go_wp2
    go_ret
    exact ⟨rfl, below_drewN (by go_grown) _⟩
  | cons q r =>
    obtain ⟨c, cs, rfl, _, _, g, _⟩ := h4.cons
    obtain ⟨t', u'⟩ := q
    obtain ⟨g1, _, _, _, _⟩ := g
    have hc := cell_below g1
    simp only [ptrOf, adr, tch] at h1 h2 h3 g1 hb hc ⊢
    clear h4
    go_enter Try.func40, Try.ntmps40
    go_wp2
    go_quiet (fail)
    go_wp2
    go_ret
    exact ⟨rfl, below_drewN (by go_grown) _⟩

/-- Where the piece with the depth d begins. -/
def sfx (d : Int) : List Pc → List Nat → List Nat
  | p :: l, b :: bs => if p.1 ≤ d ∧ d < p.2 then b :: bs else sfx d l bs
  | _, _ => []
theorem sfx_le (d : Int) (l : List Pc) (bs : List Nat) (h : bs.length = l.length) : sfx d l bs = if ix d l < 0 then [] else bs.drop (ix d l).toNat := by
  induction l generalizing bs with
  | nil => cases bs <;> rfl
  | cons p l ih =>
    cases bs with
    | nil => simp at h
    | cons b bs =>
      have hi := ih bs (by simpa using h)
      simp only [sfx]
      rcases ix_cases d p l with c | c | c
      · rw [if_pos ⟨c.1, c.2.1⟩, c.2.2]; rfl
      · rw [if_neg c.1, hi, c.2.2, if_pos c.2.1]; rfl
      · rw [if_neg c.1, hi, c.2.2, if_neg (by omega), if_neg (by omega), show (ix d l + 1).toNat = (ix d l).toNat + 1 by omega]; rfl
/-- What find comes to. -/
def Found (d : Int) (bs : List Nat) (l : List Pc) (e : Ending) : Prop := e = .returned (.tuple #[ptrOf (sfx d l bs), .int .i64 (ix d l)])

def Finding (w : World) (B : Nat) (d : Int) (bs : List Nat) (l : List Pc) (cs : List Nat) (r : List Pc) (n : Nat) : Prop :=
  Chain w B cs r ∧ sfx d l bs = sfx d r cs ∧ ix d l = if ix d r < 0 then -1 else (n : Int) + ix d r

set_option maxHeartbeats 400000 in
theorem find_any (d : Int) {w : World} {B : Nat} {bs : List Nat} {l : List Pc} (h : Chain w B bs l) (hl : l.length ≤ 1000) :
    Calls Try.prog 42 #[ptrOf bs, .int .i64 d] w fun e w' => Found d bs l e ∧ w = w' := by
  go_enter Try.func42, Try.ntmps42
  go_wp2
  go_loopg [0, 6] l.length (fun k v i wr => w = wr ∧ ∃ (cs : List Nat) (r : List Pc) (n : Nat), v = ptrOf cs ∧ i = .int .i64 n ∧ r.length = k ∧ n + k ≤ 1000 ∧ Finding w B d bs l cs r n)
  case atStart => exact ⟨rfl, bs, l, 0, rfl, rfl, rfl, by omega, h, rfl, by have := ix_range d l; split <;> omega⟩
  case round =>
    obtain ⟨rfl, cs, r, n, rfl, rfl, hk, hn, hc, hs, hi⟩ := hrel
    have A : Aside (sfx d l bs = sfx d r cs ∧ ix d l = (if ix d r < 0 then -1 else (n : Int) + ix d r)) := ⟨hs, hi⟩
    cases r with
    | nil =>
      obtain rfl := hc.nil
      simp only [ptrOf, adr]
      clear hs hi hk
      go_wp2
      go_ret2
      obtain ⟨hs, hi⟩ := A.out
      exact ⟨by rw [Found, hs, hi]; rfl, rfl⟩
    | cons p r =>
      obtain ⟨c, cs, rfl, _, _, ⟨g1, g2, g3, _, _⟩, hc'⟩ := hc.cons
      have hb := cell_below g1
      simp only [List.length_cons] at hk
      have hkk : n + r.length ≤ 999 := by omega
      have hk' : r.length < gk := by omega
      have A2 : Aside (Chain w B cs r) := hc'
      clear hs hi hc hc' hk hn
      simp only [ptrOf, adr]
      by_cases k1 : p.1 ≤ d
      · by_cases k2 : d < p.2
        · go_wp2
          go_ret2
          obtain ⟨hs, hi⟩ := A.out
          refine ⟨?_, rfl⟩
          have e1 : ix d (p :: r) = 0 := by have := ix_cases d p r; omega
          rw [Found, hs, hi, e1]
          simp [sfx, k1, k2, ptrOf, adr]
        · go_wp2
          obtain ⟨hs, hi⟩ := A.out
          go_roundg r.length
          case measure => omega
          case rel =>
            refine ⟨rfl, cs, r, n + 1, rfl, by go_num, rfl, by omega, A2.out, ?_, ?_⟩
            · rw [hs]; simp only [sfx]; rw [if_neg (by omega)]
            · rw [hi]; have := ix_cases d p r; split <;> split <;> omega
      · go_wp2
        obtain ⟨hs, hi⟩ := A.out
        go_roundg r.length
        case measure => omega
        case rel =>
          refine ⟨rfl, cs, r, n + 1, rfl, by go_num, rfl, by omega, A2.out, ?_, ?_⟩
          · rw [hs]; simp only [sfx]; rw [if_neg (by omega)]
          · rw [hi]; have := ix_cases d p r; split <;> split <;> omega
end Go.Proofs.Ytdljfikgmhdedaa
