/- The contracts of the program's functions on events: the most pairs, the number of matchings, the best one. -/
import Derived.Test.YthhdpjkmjebjhabEventJ
import Derived.Test.YthhdpjkmjebjhabGrw
namespace Go.Proofs.Ythhdpjkmjebjhab
open Go.RowKit

theorem found_is {tol n m k : Int} {s t : List Int} {i f : Nat} (h : foundV tol s t i f n m k) : n = cf tol s t i f ∧ m = mf tol s t i f := ⟨h.1, h.2.1⟩
/-- A list that is built up: the empty literal in block g, or in a block made since B. -/
def LstE (w : World) (g B : Nat) (v : Value) (l : List Int) : Prop := (l = [] ∧ v = .slice (some ⟨g, 0, none⟩) 0 0 ∧ CB 3 w g []) ∨ IOwn w B v l
theorem LstE.turn {w w' : World} {g B b : Nat} {v : Value} {l : List Int} (h : LstE w g B v l) (k : Turn b w w') (hb : b < B) (hg : g ≠ b) : LstE w' g B v l := by
  rcases h with ⟨h1, h2, h3⟩ | h
  · exact .inl ⟨h1, h2, k.cb h3 hg⟩
  · refine .inr (h.same fun c hc => k.block c (h.lt c hc).2 ?_)
    have := (h.lt c hc).1; omega
theorem LstE.grw {w : World} {g B : Nat} {v : Value} {l : List Int} (h : LstE w g B v l) : Grw w B v l := by
  rcases h with ⟨h1, h2, _⟩ | h
  · exact .inl ⟨h1, _, h2⟩
  · exact .inr h
theorem LstE.own {w : World} {g B C : Nat} {v : Value} {l : List Int} (h : LstE w g B v l) (hg : C ≤ g) (hB : C ≤ B) : IOwn w C v l := by
  rcases h with ⟨rfl, rfl, h3⟩ | h
  · exact iown_block (L := []) rfl h3 hg (by unfold maxLen; simp)
  · exact h.mono hB
/-- The state of the loop: wS is the world at its start, g the match's first block, behind it what is left. -/
structure BestAt (w : World) (mb : Nat) (tol : Int) (s t : List Int) (m4 : List Value) (gm B : Nat) (wr : World) (j f : Nat) (x : Value) (L : List Int) : Prop where
  lo : w.heap.size ≤ mb
  mid : mb < gm
  sz : gm + 1 + 1 + 1 = B
  big : B ≤ wr.heap.size
  mt : CB MR wr gm m4
  lf : CB EL wr (gm + 1 + 1) [.int .i64 (j : Int), .int .i64 (f : Int)]
  me : Memo Try.prog EL wr mb (FoundG tol s t)
  li : LstE wr (gm + 1) B x L
  bl : Below w.heap.size w wr
theorem BestAt.find {w wr wx : World} {mb gm B j f : Nat} {tol : Int} {s t : List Int} {m4 : List Value} {x : Value} {L : List Int} (h : BestAt w mb tol s t m4 gm B wr j f x L) (k : Turn mb wr wx) (hm : Memo Try.prog EL wx mb (FoundG tol s t)) : BestAt w mb tol s t m4 gm B wx j f x L :=
  have h1 := h.lo; have h2 := h.mid; have h3 := h.sz
  ⟨h1, h2, h3, Nat.le_trans h.big k.size, k.cb h.mt (by omega), k.cb h.lf (by omega), hm, h.li.turn k (by omega) (by omega), h.bl.trans (k.below h1 h.bl.size)⟩
theorem BestAt.more {w wr wx : World} {mb gm B j f : Nat} {tol : Int} {s t : List Int} {m4 : List Value} {x x' : Value} {L L' : List Int} (h : BestAt w mb tol s t m4 gm B wr j f x L) (k : Below B wr wx) (hx : IOwn wx B x' L') : BestAt w mb tol s t m4 gm B wx j f x' L' :=
  have h1 := h.lo; have h2 := h.mid; have h3 := h.sz
  ⟨h1, h2, h3, Nat.le_trans h.big k.size, h.mt.same (k.block _ (by omega)), h.lf.same (k.block _ (by omega)), h.me.grow k (by omega), .inr hx, h.bl.trans (k.mono (by omega))⟩
theorem BestAt.fst {w wr : World} {mb gm B j f : Nat} {tol : Int} {s t : List Int} {m4 : List Value} {x : Value} {L : List Int} (h : BestAt w mb tol s t m4 gm B wr j f x L) (j' : Nat) :
    BestAt w mb tol s t m4 gm B (wr.setCell ⟨gm + 1 + 1, 0, none⟩ (.int .i64 (j' : Int))) j' f x L :=
  have h1 := h.lo; have h2 := h.mid; have h3 := h.sz
  have k := (Turn.refl (gm + 1 + 1) wr).set 0 (.int .i64 (j' : Int)) (.inl rfl)
  ⟨h1, h2, h3, Nat.le_trans h.big k.size, k.cb h.mt (by omega), h.lf.set 0 _, h.me.same (k.block mb h.me.lt (by omega)), h.li.turn k (by omega) (by omega), h.bl.trans (k.below (by omega) h.bl.size)⟩
theorem BestAt.snd {w wr : World} {mb gm B j f : Nat} {tol : Int} {s t : List Int} {m4 : List Value} {x : Value} {L : List Int} (h : BestAt w mb tol s t m4 gm B wr j f x L) (f' : Nat) :
    BestAt w mb tol s t m4 gm B (wr.setCell ⟨gm + 1 + 1, 1, none⟩ (.int .i64 (f' : Int))) j f' x L :=
  have h1 := h.lo; have h2 := h.mid; have h3 := h.sz
  have k := (Turn.refl (gm + 1 + 1) wr).set 1 (.int .i64 (f' : Int)) (.inl rfl)
  ⟨h1, h2, h3, Nat.le_trans h.big k.size, k.cb h.mt (by omega), h.lf.set 1 _, h.me.same (k.block mb h.me.lt (by omega)), h.li.turn k (by omega) (by omega), h.bl.trans (k.below (by omega) h.bl.size)⟩
end Go.Proofs.Ythhdpjkmjebjhab
