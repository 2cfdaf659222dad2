/- The contracts of CoreJoin and CoreGaps. -/
import Derived.Test.YtdljfikgmhdedaaImpl
import Derived.Deep.RegionHeld3
import Derived.Deep.AppendLies
namespace Go.Proofs.Ytdljfikgmhdedaa
open Go.RowKit

theorem jn_stop {p : Pc} {r : List Pc} (h : tch p r = false) : jn p r = p :: join r := by
  cases r with
  | nil => rfl
  | cons q r =>
    simp only [tch, beq_eq_false_iff_ne, ne_eq] at h
    simp only [jn, join]
    rw [if_neg (fun e => h e.symm)]
theorem jn_go {p q : Pc} {r : List Pc} (h : tch p (q :: r) = true) : jn p (q :: r) = jn (p.1, q.2) r := by
  simp only [tch, beq_iff_eq] at h
  simp only [jn]
  rw [if_pos h.symm]
theorem adr_mid (ms : List Nat) (b : Nat) (cs ds : List Nat) : adr (ms ++ b :: cs) = adr (ms ++ b :: ds) := by cases ms <;> rfl

/-- The outer loop: m is joined, in the links ms; r is left, in the links cs. -/
def Joining (w : World) (bs : List Nat) (l : List Pc) (cs : List Nat) (r : List Pc) (wr : World) : Prop :=
  ∃ (ms : List Nat) (m : List Pc), ms.length = m.length ∧ adr (ms ++ cs) = adr bs ∧ Chain wr w.heap.size (ms ++ cs) (m ++ r) ∧ join l = m ++ join r ∧ (m ++ r).length ≤ l.length ∧ Below w.heap.size w wr
/-- The inner loop: the link at hand holds p. -/
def Touching (w : World) (bs : List Nat) (l : List Pc) (b : Nat) (cs : List Nat) (p : Pc) (r : List Pc) (wr : World) : Prop :=
  ∃ (ms : List Nat) (m : List Pc), ms.length = m.length ∧ adr (ms ++ b :: cs) = adr bs ∧ Chain wr w.heap.size (ms ++ b :: cs) (m ++ p :: r) ∧ join l = m ++ jn p r ∧ (m ++ p :: r).length ≤ l.length ∧ Below w.heap.size w wr

theorem Touching.chain {w wr : World} {bs : List Nat} {l : List Pc} {b : Nat} {cs : List Nat} {p : Pc} {r : List Pc} (h : Touching w bs l b cs p r wr) : Chain wr w.heap.size (b :: cs) (p :: r) := by
  obtain ⟨ms, m, h1, _, h3, _⟩ := h
  exact (Chain.mid h1 h3).1
theorem Touching.grow {w wr w' : World} {bs : List Nat} {l : List Pc} {b : Nat} {cs : List Nat} {p : Pc} {r : List Pc} (h : Touching w bs l b cs p r wr) (k : Below wr.heap.size wr w') : Touching w bs l b cs p r w' := by
  obtain ⟨ms, m, h1, h2, h3, h4, h5, h6⟩ := h
  exact ⟨ms, m, h1, h2, h3.grow k, h4, h5, h6.trans (k.mono h6.size)⟩
theorem Touching.next {w wr : World} {bs : List Nat} {l : List Pc} {b : Nat} {cs : List Nat} {p : Pc} {r : List Pc} (h : Touching w bs l b cs p r wr) (k : tch p r = false) : Joining w bs l cs r wr := by
  obtain ⟨ms, m, h1, h2, h3, h4, h5, h6⟩ := h
  exact ⟨ms ++ [b], m ++ [p], by simp [h1], by rw [← h2]; simp, by simpa using h3, by rw [h4, jn_stop k]; simp, by simpa using h5, h6⟩
theorem Touching.join {w wr w' : World} {bs : List Nat} {l : List Pc} {b c : Nat} {cs : List Nat} {p q : Pc} {r : List Pc} (h : Touching w bs l b (c :: cs) p (q :: r) wr) (k : tch p (q :: r) = true)
    (hb : But b wr w') (hn : Nd w' b (p.1, q.2) (ptrOf cs)) : Touching w bs l b cs (p.1, q.2) r w' := by
  have hch := h.chain
  obtain ⟨ms, m, h1, h2, h3, h4, h5, h6⟩ := h
  exact ⟨ms, m, h1, (adr_mid ms b cs (c :: cs)).trans h2, join_chain h1 h3 hb hn, by rw [h4, jn_go k], by simp at h5 ⊢; omega, But.below h6 hb (hch.lt b (by simp)).1 h6.size⟩
theorem Joining.touch {w wr : World} {bs : List Nat} {l : List Pc} {cs : List Nat} {p : Pc} {r : List Pc} (h : Joining w bs l cs (p :: r) wr) : ∃ b ds, cs = b :: ds ∧ Touching w bs l b ds p r wr := by
  obtain ⟨ms, m, h1, h2, h3, h4, h5, h6⟩ := h
  obtain ⟨b, ds, rfl, _⟩ := (Chain.mid h1 h3).1.cons
  exact ⟨b, ds, rfl, ms, m, h1, h2, h3, h4, h5, h6⟩
theorem Joining.nil {w wr : World} {bs : List Nat} {l : List Pc} {cs : List Nat} (h : Joining w bs l cs [] wr) : cs = [] := by
  obtain ⟨ms, m, h1, h2, h3, h4, h5, h6⟩ := h
  exact (Chain.mid h1 h3).1.nil
theorem Joining.done {w wr : World} {bs : List Nat} {l : List Pc} (h : Joining w bs l [] [] wr) : ∃ ms, adr ms = adr bs ∧ Chain wr w.heap.size ms (join l) ∧ Below w.heap.size w wr := by
  obtain ⟨ms, m, h1, h2, h3, h4, h5, h6⟩ := h
  exact ⟨ms, by simpa using h2, by rw [h4]; simpa [Go.Proofs.Ytdljfikgmhdedaa.join] using h3, h6⟩

set_option maxHeartbeats 800000 in
theorem implCoreJoin_any {w : World} {v : Value} {l : List Pc} (h : Row w v l) :
    Calls Try.prog 26 #[v] w fun e w' => LstB w (joinOf l) e w' := by
  have L := Lib.hid (linksOf_any h)
  obtain ⟨a, n, c, rfl, _, _, _, _⟩ := h
  go_enter Try.func26, Try.ntmps26
  go_wp2_with fail
  refine L.out.mono ?_
  rintro e w1 hl
  rcases hl.split with ⟨hv, bs, rfl, hc, hb⟩ | ⟨hv, rfl, hb⟩
  rotate_left
  · have HV := Lib.hid hv
    have B1 := Lib.hid hb
    clear hv hl hb
    go_wp2_with fail
    go_ret2
    rw [joinOf, if_neg (by rw [HV.out]; simp)]
    exact ⟨_, rfl, own_new B1.out.size, B1.out.alloc B1.out.size _⟩
  · have HV := Lib.hid hv
    have C := Lib.hid hc
    have B1 := Lib.hid hb
    clear hv hl hc hb
    go_wp2_with fail
    go_loopg [6] l.length (fun k y wr => ∃ (cs : List Nat) (r : List Pc), y = ptrOf cs ∧ r.length ≤ k ∧ Joining w bs l cs r wr)
    case atStart => exact ⟨bs, l, rfl, Nat.le_refl _, [], [], rfl, rfl, C.out, rfl, Nat.le_refl _, B1.out⟩
    case round =>
      obtain ⟨cs, r, rfl, hk, hj⟩ := hrel
      cases r with
      | nil =>
        obtain rfl := hj.nil
        have J := Lib.hid hj
        clear hj hk
        simp only [ptrOf, adr_nil]
        go_wp2_with fail
        obtain ⟨ms, hm, hch, hbel⟩ := J.out.done
        have HM := Lib.hid hm; have C2 := Lib.hid hch; have B2 := Lib.hid hbel
        clear hm hch hbel
        rw [← HM.out]
        refine (pieces_any C2.out (by have := join_length_le l; have := isCore_iff.1 HV.out; omega)).mono ?_
        rintro e w3 ⟨v, rfl, ho, hb3⟩
        have O := Lib.hid ho; have B3 := Lib.hid (B2.out.trans (hb3.mono B2.out.size))
        clear ho hb3
        go_wp2_with fail
        go_ret2
        rw [joinOf, if_pos HV.out]
        exact ⟨v, rfl, O.out.mono B2.out.size, B3.out⟩
      | cons p r =>
        obtain ⟨b, ds, rfl, ht⟩ := hj.touch
        have T := Lib.hid ht
        simp only [List.length_cons] at hk
        have K1 : Hid (r.length + 1 ≤ gk) := Lib.hid hk
        clear hj ht hk
        simp only [ptrOf, adr_cons]
        obtain ⟨wo, rfl⟩ : ∃ wo : World, wo = wr := ⟨_, rfl⟩
        go_wp2_with fail
        go_loopg [] r.length (fun k wr => ∃ (cs : List Nat) (p' : Pc) (r' : List Pc), r'.length = k ∧ r'.length ≤ r.length ∧ Touching w bs l b cs p' r' wr)
        case atStart => exact ⟨ds, p, r, rfl, Nat.le_refl _, T.out⟩
        case round =>
          obtain ⟨cs, p', r', hk, hle, ht⟩ := hrel
          have T2 := Lib.hid ht
          have K2 := Lib.hid hk
          have K3 := Lib.hid hle
          clear ht hk hle
          cases hq : tch p' r'
          · have Q := Lib.hid hq
            clear hq
            go_wp2_with fail
            have hto := touches_any T2.out.chain
            rw [Q.out] at hto
            refine hto.mono ?_
            rintro e w2 ⟨rfl, b2⟩
            have T3 := Lib.hid (T2.out.grow b2)
            clear hto b2
            obtain ⟨_, _, e, _, _, hn, _⟩ := T3.out.chain
            simp only [List.cons.injEq] at e
            obtain ⟨rfl, rfl⟩ := e
            have g3 := hn.nxt
            clear hn
            go_wp2_with fail
            go_roundg r'.length
            case measure => have := K1.out; have := K3.out; omega
            case rel => exact ⟨cs, r', rfl, Nat.le_refl _, T3.out.next Q.out⟩
          · have Q := Lib.hid hq
            cases r' with
            | nil => simp [tch] at hq
            | cons q r2 =>
              clear hq
              go_wp2_with fail
              have hto := touches_any T2.out.chain
              rw [Q.out] at hto
              refine hto.mono ?_
              rintro e w2 ⟨rfl, b2⟩
              have T3 := Lib.hid (T2.out.grow b2)
              clear hto b2
              obtain ⟨_, _, e, _, _, hn, hch⟩ := T3.out.chain
              simp only [List.cons.injEq] at e
              obtain ⟨rfl, rfl⟩ := e
              obtain ⟨c2, cs2, rfl, _, _, hn2, _⟩ := hch.cons
              have N1 := Lib.hid hn; have N2 := Lib.hid hn2
              clear hn hn2 hch
              go_wp2_with fail
              refine (joinBelow_any N1.out N2.out).mono ?_
              rintro e w3 ⟨rfl, n3, k3⟩
              have T4 := Lib.hid (T3.out.join Q.out k3 n3)
              clear n3 k3
              go_wp2_with fail
              go_roundg r2.length
              case measure => have := K2.out; simp at this; omega
              case rel => exact ⟨cs2, _, r2, rfl, by have := K3.out; simp at this; omega, T4.out⟩
/-- The loop of CoreGaps. -/
def Gapping (w w1 : World) (l : List Pc) (cs : List Nat) (r m : List Pc) (v : Value) (wr : World) : Prop :=
  gaps l = m ++ gaps r ∧ Chain w1 (w.heap.size + 1) cs r ∧ V 0 r ∧ Below w.heap.size w wr ∧ But w.heap.size w1 wr ∧ m.length + r.length ≤ 20 ∧ Own wr w.heap.size v m ∧ (∀ g, v.ownBlock = some g → g = w.heap.size ∨ w1.heap.size ≤ g)

theorem Gapping.grow {w w1 wr w2 : World} {l : List Pc} {cs : List Nat} {r m : List Pc} {v : Value} (h : Gapping w w1 l cs r m v wr) (k : Below wr.heap.size wr w2) : Gapping w w1 l cs r m v w2 := by
  obtain ⟨g1, g2, g3, g4, g5, g6, g7, g8⟩ := h
  exact ⟨g1, g2, g3, g4.trans (k.mono g4.size), g5.trans (But.grow k), g6, Own.grow g7 k, g8⟩

theorem Gapping.step {w w1 w2 w3 : World} {l : List Pc} {b c : Nat} {cs : List Nat} {p q : Pc} {r m : List Pc} {v : Value} {gg cap : Nat} {o : Obj} (h : Gapping w w1 l (b :: c :: cs) (p :: q :: r) m v w2)
    (hpq : p.2 ≤ q.1) (hq : tch p (q :: r) = false) (ho : w3.ownsRow w.heap.size 27 2 (.slice (some ⟨gg, 0, none⟩) (m.length + 1) cap) (m.length + 1) (cells2 m ++ [.int .i64 p.2, .int .i64 q.1]))
    (hg : (w2.alloc o).drew.grownBy w3 v.ownBlock) (hat : v.ownBlock = some gg ∨ gg = w2.heap.size + 1) :
    Gapping w w1 l (c :: cs) (q :: r) (m ++ [(p.2, q.1)]) (.slice (some ⟨gg, 0, none⟩) (m.length + 1) cap) w3 := by
  obtain ⟨g1, g2, g3, g4, g5, g6, g7, g8⟩ := h
  have hne : p.2 ≠ q.1 := by simp [tch] at hq; exact fun e => hq e.symm
  obtain ⟨_, _, e, _, _, _, hch⟩ := g2
  simp only [List.cons.injEq] at e
  obtain ⟨rfl, rfl⟩ := e
  have hs2 := g5.size
  have hs3 := hg.size
  simp only [World.size_drew, World.size_alloc] at hs3
  refine ⟨by rw [g1]; simp only [gaps, gp]; rw [if_pos (by omega)]; simp, hch, g3.2.2.2.mono (by have := g3.1; have := g3.2.1; omega), ?_, ?_, by simp at g6 ⊢; omega, ?_, ?_⟩
  · exact (g4.alloc g4.size _).drew.grown hg (by have := g4.size; simp; omega) (fun k hk => (Own.lt g7 k hk).1)
  · refine ⟨hg.os.trans g5.os, hg.tape.trans g5.tape, hg.output.trans g5.output, by omega, fun k hk hne => ?_⟩
    rw [hg.block k (by simp; omega) (fun e => by rcases g8 k e.symm with h | h <;> omega)]
    exact (Below.heap_alloc w2 o k (by omega)).trans (g5.block k hk hne)
  · show w3.ownsRow _ _ 2 _ (m ++ [(p.2, q.1)]).length (cells2 (m ++ [(p.2, q.1)]))
    rw [cells2_append, List.length_append]
    exact ho
  · intro g hgg
    simp only [Value.ownBlock, Option.some.injEq] at hgg
    subst hgg
    rcases hat with h | h
    · exact g8 _ h
    · exact .inr (by omega)

set_option maxHeartbeats 800000 in
theorem implCoreGaps_any {w : World} {v : Value} {l : List Pc} (h : Row w v l) :
    Calls Try.prog 18 #[v] w fun e w' => Lst w (gapsOf l) e w' := by
  have L := Lib.hid (linksOf_any (h.grow ((Below.refl _ _).alloc (Nat.le_refl _) (.cells #[] 27))))
  have O := Lib.hid (own_new (w := w) (B := w.heap.size) (Nat.le_refl _))
  obtain ⟨a, n, c, rfl, _, _, _, _⟩ := h
  go_enter Try.func18, Try.ntmps18
  go_wp2_with fail
  refine L.out.mono ?_
  rintro e w1 hl
  rcases hl.split with ⟨hv, bs, rfl, hc, hb⟩ | ⟨hv, rfl, hb⟩
  rotate_left
  · have HV := Lib.hid hv
    have B1 := Lib.hid hb
    clear hv hl hb
    go_wp2_with fail
    go_loopg [3, 6] 0 (fun k x y wr => x = .slice (some ⟨w.heap.size, 0, none⟩) 0 0 ∧ y = ptrOf [] ∧ w1 = wr)
    case atStart => exact ⟨rfl, rfl, rfl⟩
    case round =>
      obtain ⟨rfl, rfl, rfl⟩ := hrel
      simp only [ptrOf, adr_nil]
      go_wp2_with fail
      go_ret
      refine ⟨_, rfl, by rw [gapsOf, if_neg (by rw [HV.out]; simp)]; exact (show Own w1 w.heap.size (.slice (some ⟨w.heap.size, 0, none⟩) 0 0) [] from O.out.grow B1.out), ((Below.refl _ _).alloc (Nat.le_refl _) _).trans (B1.out.mono (by simp))⟩
  · have HV := Lib.hid hv
    have C := Lib.hid hc
    have B1 := Lib.hid hb
    clear hv hl hc hb
    have hcore := isCore_iff.1 HV.out
    have H0 := Lib.hid hcore
    clear hcore
    go_wp2_with fail
    go_loopg [3, 6] l.length (fun k x y wr => ∃ (cs : List Nat) (r m : List Pc), y = ptrOf cs ∧ r.length = k ∧ Gapping w w1 l cs r m x wr)
    case atStart => exact ⟨bs, l, [], rfl, rfl, rfl, by simpa using C.out, H0.out.2, ((Below.refl _ _).alloc (Nat.le_refl _) _).trans (B1.out.mono (by simp)), But.refl _ _, by have := H0.out.1; simpa using this, O.out.grow B1.out, fun g hg => .inl (by simpa [Value.ownBlock] using hg.symm)⟩
    case round =>
      obtain ⟨cs, r, m, rfl, hk, hg⟩ := hrel
      have G := Lib.hid hg
      cases r with
      | nil =>
        obtain rfl := hg.2.1.nil
        clear hg hk
        simp only [ptrOf, adr_nil]
        go_wp2_with fail
        go_ret
        obtain ⟨g1, _, _, g4, _, _, g7, _⟩ := G.out
        exact ⟨u3, rfl, by rw [gapsOf, if_pos HV.out, g1]; simpa [gaps] using g7, g4⟩
      | cons p r =>
        obtain ⟨b, ds, rfl, hb1, hb2, hn, hch⟩ := hg.2.1.cons
        have hne : b ≠ w.heap.size := by omega
        have hbut := hg.2.2.2.2.1
        have hn' := hn.same (hbut.block b hn.lt hne)
        have k2 := hn'.bot; have k3 := hn'.nxt
        have CH : Hid (Chain wr (w.heap.size + 1) (b :: ds) (p :: r)) := Lib.hid (hg.2.1.same fun a ha => hbut.block a (hg.2.1.lt a ha).2 (by have := (hg.2.1.lt a ha).1; omega))
        have CH2 := Lib.hid hch
        have K1 := Lib.hid hk
        clear hk
        cases r with
        | nil =>
          obtain rfl := hch.nil
          clear hg hbut hn hch hn'
          simp only [ptrOf, adr_nil] at k3
          simp only [ptrOf, adr_cons]
          go_wp2_with fail
          go_roundg 0
          case measure => have := K1.out; simp at this; omega
          case rel =>
            obtain ⟨g1, g2, g3, g4, g5, g6, g7, g8⟩ := G.out
            exact ⟨[], [], m, rfl, rfl, by rw [g1]; rfl, CH2.out, trivial, g4, g5, by simp at g6 ⊢; omega, g7, g8⟩
        | cons q r =>
          obtain ⟨c2, es, rfl, hc1, hc2, hm, _⟩ := hch.cons
          have hne2 : c2 ≠ w.heap.size := by omega
          have j1 := (hm.same (hbut.block c2 hm.lt hne2)).top
          have hpq : p.2 ≤ q.1 := hg.2.2.1.2.2.2.1
          clear hg hbut hn hch hn' hm
          simp only [ptrOf, adr_cons] at k3
          simp only [ptrOf, adr_cons]
          cases hq : tch p (q :: r)
          · have Q := Lib.hid hq
            clear hq
            go_wp2_with (go_at_call 40; have hto := touches_any CH.out; rw [Q.out] at hto; refine hto.mono ?_; rintro e w2 ⟨rfl, b2⟩; have B2 := Lib.hid b2; have e1 := (b2.cell (cell_below k2)).trans k2; have e2 := (b2.cell (cell_below k3)).trans k3; have e3 := (b2.cell (cell_below j1)).trans j1; clear hto b2 k2 k3 j1)
            obtain ⟨i0, hi0, hz0, hz1, hz2⟩ := info_parts info_piece
            have G2 := Lib.hid (G.out.grow B2.out)
            have hown : Own w2 w.heap.size u3 m := G2.out.2.2.2.2.2.2.1
            have hw2 : w.heap.size ≤ w2.heap.size := G2.out.2.2.2.1.size
            have hml : m.length ≤ 20 := by have := G2.out.2.2.2.2.2.1; omega
            have hb3 : b < w2.heap.size := cell_below e1
            have hc3 : c2 < w2.heap.size := cell_below e3
            have hnb : u3.ownBlock ≠ some b := fun e => by rcases G2.out.2.2.2.2.2.2.2 b e with h | h; · omega
                                                           · have := (G2.out.2.1.lt b (by simp)).2; omega
            have hnc : u3.ownBlock ≠ some c2 := fun e => by rcases G2.out.2.2.2.2.2.2.2 c2 e with h | h; · omega
                                                            · have := (G2.out.2.1.lt c2 (by simp)).2; omega
            go_region_held3 (fun w' => w'.cell? ⟨b, 1, none⟩ = some (.int .i64 p.2) ∧ w'.cell? ⟨b, 2, none⟩ = some (.pointer (some ⟨c2, 0, none⟩)) ∧ w'.cell? ⟨c2, 0, none⟩ = some (.int .i64 q.1))
              (first
                | go_keep
                | (go_split_ands
                   refine ⟨?_, ?_, ?_⟩
                   · (rw [hgrow.cell_far _ (by simp; omega) (Ne.symm hnb)]; assumption)
                   · (rw [hgrow.cell_far _ (by simp; omega) (Ne.symm hnb)]; assumption)
                   · (rw [hgrow.cell_far _ (by simp; omega) (Ne.symm hnc)]; assumption)))
              ((refine step_append_lies _ (by rfl) _ _ _ (by rfl) w.heap.size 27 i0 (.agg #[.int .i64 0, .int .i64 0]) 2 16 Try.underlying23 hi0 hz0 hz1 hz2 rfl (by omega) u3 m.length (cells2 m) (by rfl) ((hown.alloc _).drew)
                  ⟨w2.heap.size, 0, none⟩ 1 1 [.int .i64 p.2, .int .i64 q.1] (by rfl) (by rfl) (World.news_of_block (cs := #[.int .i64 p.2, .int .i64 q.1]) (t := 27) (fr := (0, 0)) (heap_alloc_new w2 _)) (by simp [Value.oneCell'])
                  (by omega) (by unfold maxLen; omega) (by omega) (by simp; omega) (w2.heap.size + 1) (by simp) ?_; intro gg cap w3 hown1 hgrow hat hlt))
            obtain ⟨_, e5, _⟩ := ‹w3.cell? ⟨b, 1, none⟩ = some (.int .i64 p.2) ∧ _ ∧ _›
            have G3 := Lib.hid (G2.out.step hpq Q.out hown1 hgrow hat)
            clear hown1 hgrow hat hown e1 e2 e3
            go_wp2_with fail
            go_roundg (r.length + 1)
            case measure => have := K1.out; simp at this; omega
            case rel => exact ⟨c2 :: es, q :: r, m ++ [(p.2, q.1)], rfl, rfl, G3.out⟩
          · have Q := Lib.hid hq
            clear hq
            go_wp2_with (go_at_call 40; have hto := touches_any CH.out; rw [Q.out] at hto; refine hto.mono ?_; rintro e w2 ⟨rfl, b2⟩; have B2 := Lib.hid b2; have e1 := (b2.cell (cell_below k2)).trans k2; have e2 := (b2.cell (cell_below k3)).trans k3; have e3 := (b2.cell (cell_below j1)).trans j1; clear hto b2 k2 k3 j1)
            go_roundg (r.length + 1)
            case measure => have := K1.out; simp at this; omega
            case rel =>
              refine ⟨c2 :: es, q :: r, m, rfl, rfl, ?_⟩
              obtain ⟨g1, g2, g3, g4, g5, g6, g7, g8⟩ := G.out.grow B2.out
              have hq : p.2 = q.1 := by have := Q.out; simp [tch] at this; exact this.symm
              exact ⟨by rw [g1]; simp only [gaps, gp]; rw [if_neg (by omega)], CH2.out, g3.2.2.2.mono (by have := g3.1; have := g3.2.1; omega), g4, g5, by simp at g6 ⊢; omega, g7, g8⟩
end Go.Proofs.Ytdljfikgmhdedaa
