/- The contracts of the program's functions on events: the most pairs, the number of matchings, the best one. -/
import Derived.Test.YtmibipnkjpkngaaEventJ
import Derived.Test.YtmibipnkjpkngaaGrw
namespace Go.Proofs.Ytmibipnkjpkngaa
open Go.RowKit

theorem field_most (n m k : Int) (w : World) : (Instr.field MT (foV n m k) 1).run Try.prog w = .ok (.int .i64 m) w := by rfl
theorem field_count (n m k : Int) (w : World) : (Instr.field MT (foV n m k) 0).run Try.prog w = .ok (.int .i64 n) w := by rfl
theorem field_part (n m k : Int) (w : World) : (Instr.field MT (foV n m k) 2).run Try.prog w = .ok (.int .i64 k) w := by rfl
theorem found_is {tol n m k : Int} {s t : List Int} {i f : Nat} (h : foundV tol s t i f n m k) : n = cf tol s t i f ∧ m = mf tol s t i f := ⟨h.1, h.2.1⟩
set_option maxHeartbeats 1600000 in
theorem implMost_any {w : World} {v u : Value} {a b : List Ev} (tol : Int) (h : Row w v a) (k : Row w u b) :
    Calls Try.prog 22 #[v, u, .int .i64 tol] w fun e w' => Val w (.int .i64 (mostB a b tol)) e w' := by
  have H := Lib.hid h; have H' := Lib.hid k
  obtain ⟨pa, ca, rfl, ha1, ha2⟩ := h.len
  obtain ⟨pb, cb, rfl, hb1, hb2⟩ := k.len
  clear h k ha1 ha2 hb1 hb2
  cases hs : argsOk a b tol
  · have HS := Lib.hid hs
    have R := Lib.hid (mostB_no hs)
    clear hs
    go_enter Try.func22, Try.ntmps22
    go_wp2_with fail
    refine (matcher_is H.out H'.out HS.out).mono ?_
    rintro e w1 ⟨mb, rfl, s1, m1, b1⟩
    have B1 := Lib.hid (b1.alloc b1.size (.cells #[.slice pa a.length ca, .slice pb b.length cb, .int .i64 tol, .map (some mb)] MR))
    clear m1 b1
    go_wp2_with fail
    go_ret
    exact ⟨by rw [R.out]; rfl, B1.out⟩
  have HS := Lib.hid hs
  have R : Hid (mostB a b tol = mf tol (sizes a) (sizes b) 0 0) := Lib.hid (mostB_yes hs)
  obtain ⟨va, vb, vt⟩ := argsOk_iff.1 hs
  have ht := tolOk_iff.1 vt
  have VA := Lib.hid va; have VB := Lib.hid vb
  clear hs va vb vt
  go_enter Try.func22, Try.ntmps22
  go_wp2_with fail
  refine (matcher_is H.out H'.out HS.out).mono ?_
  rintro e w1 ⟨mb, rfl, s1, m1, b1⟩
  have B1 := Lib.hid (b1.alloc b1.size (.cells #[.slice pa a.length ca, .slice pb b.length cb, .int .i64 tol, .map (some mb)] MR))
  have M1 := Lib.hid (m1.grow ((Below.refl w1.heap.size w1).alloc (Nat.le_refl _) (.cells #[.slice pa a.length ca, .slice pb b.length cb, .int .i64 tol, .map (some mb)] MR)) m1.lt)
  clear m1 b1
  go_wp2_with fail
  refine (find_rec H.out H'.out VA.out VB.out ht s1 a.length _ 0 0 (by omega) (Nat.zero_le _) B1.out M1.out).mono ?_
  rintro e w2 ⟨n, m, q, rfl, hf, hm, htn⟩
  obtain ⟨-, f2⟩ := found_is hf
  have fm := field_most n m q w2
  have B2 := Lib.hid (B1.out.trans (htn.below s1 B1.out.size))
  have F2 := Lib.hid f2
  clear hf hm htn f2
  go_wp2_with fail
  go_ret
  exact ⟨by rw [R.out, ← F2.out]; rfl, B2.out⟩
/-- A list that is built up: the empty literal in block g, or in a block made since B. -/
def LstE (w : World) (g B : Nat) (v : Value) (l : List Int) : Prop := (l = [] ∧ v = .slice (some ⟨g, 0, none⟩) 0 0 ∧ CB 3 w g []) ∨ IOwn w B v l
theorem LstE.turn {w w' : World} {g B b : Nat} {v : Value} {l : List Int} (h : LstE w g B v l) (k : Turn b w w') (hb : b < B) (hg : g ≠ b) : LstE w' g B v l := by
  rcases h with ⟨h1, h2, h3⟩ | h
  · exact .inl ⟨h1, h2, k.cb h3 hg⟩
  · refine .inr (h.same fun c hc => k.block c (h.lt c hc).2 ?_)
    have := (h.lt c hc).1; omega
theorem LstE.grw {w : World} {g B : Nat} {v : Value} {l : List Int} (h : LstE w g B v l) : Grw w B v l := by
  rcases h with ⟨h1, h2, _⟩ | h
  · exact .inl ⟨h1, _, h2⟩
  · exact .inr h
theorem LstE.own {w : World} {g B C : Nat} {v : Value} {l : List Int} (h : LstE w g B v l) (hg : C ≤ g) (hB : C ≤ B) : IOwn w C v l := by
  rcases h with ⟨rfl, rfl, h3⟩ | h
  · exact iown_block (L := []) rfl h3 hg (by unfold maxLen; simp)
  · exact h.mono hB
/-- The state of the loop: wS is the world at its start, g the match's first block, behind it what is left. -/
structure BestAt (w : World) (mb : Nat) (tol : Int) (s t : List Int) (m4 : List Value) (gm B : Nat) (wr : World) (j f : Nat) (x : Value) (L : List Int) : Prop where
  lo : w.heap.size ≤ mb
  mid : mb < gm
  sz : gm + 1 + 1 + 1 = B
  big : B ≤ wr.heap.size
  mt : CB MR wr gm m4
  lf : CB EL wr (gm + 1 + 1) [.int .i64 (j : Int), .int .i64 (f : Int)]
  me : Memo Try.prog EL wr mb (FoundG tol s t)
  li : LstE wr (gm + 1) B x L
  bl : Below w.heap.size w wr
theorem BestAt.find {w wr wx : World} {mb gm B j f : Nat} {tol : Int} {s t : List Int} {m4 : List Value} {x : Value} {L : List Int} (h : BestAt w mb tol s t m4 gm B wr j f x L) (k : Turn mb wr wx) (hm : Memo Try.prog EL wx mb (FoundG tol s t)) : BestAt w mb tol s t m4 gm B wx j f x L :=
  have h1 := h.lo; have h2 := h.mid; have h3 := h.sz
  ⟨h1, h2, h3, Nat.le_trans h.big k.size, k.cb h.mt (by omega), k.cb h.lf (by omega), hm, h.li.turn k (by omega) (by omega), h.bl.trans (k.below h1 h.bl.size)⟩
theorem BestAt.more {w wr wx : World} {mb gm B j f : Nat} {tol : Int} {s t : List Int} {m4 : List Value} {x x' : Value} {L L' : List Int} (h : BestAt w mb tol s t m4 gm B wr j f x L) (k : Below B wr wx) (hx : IOwn wx B x' L') : BestAt w mb tol s t m4 gm B wx j f x' L' :=
  have h1 := h.lo; have h2 := h.mid; have h3 := h.sz
  ⟨h1, h2, h3, Nat.le_trans h.big k.size, h.mt.same (k.block _ (by omega)), h.lf.same (k.block _ (by omega)), h.me.grow k (by omega), .inr hx, h.bl.trans (k.mono (by omega))⟩
theorem BestAt.fst {w wr : World} {mb gm B j f : Nat} {tol : Int} {s t : List Int} {m4 : List Value} {x : Value} {L : List Int} (h : BestAt w mb tol s t m4 gm B wr j f x L) (j' : Nat) :
    BestAt w mb tol s t m4 gm B (wr.setCell ⟨gm + 1 + 1, 0, none⟩ (.int .i64 (j' : Int))) j' f x L :=
  have h1 := h.lo; have h2 := h.mid; have h3 := h.sz
  have k := (Turn.refl (gm + 1 + 1) wr).set 0 (.int .i64 (j' : Int)) (.inl rfl)
  ⟨h1, h2, h3, Nat.le_trans h.big k.size, k.cb h.mt (by omega), h.lf.set 0 _, h.me.same (k.block mb h.me.lt (by omega)), h.li.turn k (by omega) (by omega), h.bl.trans (k.below (by omega) h.bl.size)⟩
theorem BestAt.snd {w wr : World} {mb gm B j f : Nat} {tol : Int} {s t : List Int} {m4 : List Value} {x : Value} {L : List Int} (h : BestAt w mb tol s t m4 gm B wr j f x L) (f' : Nat) :
    BestAt w mb tol s t m4 gm B (wr.setCell ⟨gm + 1 + 1, 1, none⟩ (.int .i64 (f' : Int))) j f' x L :=
  have h1 := h.lo; have h2 := h.mid; have h3 := h.sz
  have k := (Turn.refl (gm + 1 + 1) wr).set 1 (.int .i64 (f' : Int)) (.inl rfl)
  ⟨h1, h2, h3, Nat.le_trans h.big k.size, k.cb h.mt (by omega), h.lf.set 1 _, h.me.same (k.block mb h.me.lt (by omega)), h.li.turn k (by omega) (by omega), h.bl.trans (k.below (by omega) h.bl.size)⟩
set_option maxRecDepth 100000 in
set_option maxHeartbeats 3200000 in
theorem implBest_any {w : World} {v u : Value} {a b : List Ev} (tol : Int) (h : Row w v a) (k : Row w u b) :
    Calls Try.prog 25 #[v, u, .int .i64 tol] w fun e w' => BestE w (bestEB a b tol) e w' := by
  have H := Lib.hid h; have H' := Lib.hid k
  obtain ⟨pa, ca, rfl, ha1, ha2⟩ := h.len
  obtain ⟨pb, cb, rfl, hb1, hb2⟩ := k.len
  clear h k ha1 ha2 hb1 hb2
  cases hs : argsOk a b tol
  · have HS := Lib.hid hs
    have R := Lib.hid (bestEB_no hs)
    clear hs
    go_enter Try.func25, Try.ntmps25
    go_wp2_with fail
    refine (matcher_is H.out H'.out HS.out).mono ?_
    rintro e w1 ⟨mb, rfl, s1, m1, b1⟩
    have B1 := b1.alloc b1.size (.cells #[.slice pa a.length ca, .slice pb b.length cb, .int .i64 tol, .map (some mb)] MR)
    have O1 : Hid (IOwn ((w1.alloc (.cells #[.slice pa a.length ca, .slice pb b.length cb, .int .i64 tol, .map (some mb)] MR)).alloc (.cells #[] 3)) w.heap.size (.slice (some ⟨w1.heap.size + 1, 0, none⟩) 0 0) []) := Lib.hid (by have := iown_new B1.size; simpa using this)
    have B2 := Lib.hid (B1.alloc B1.size (.cells #[] 3))
    clear m1 b1 B1
    go_wp2_with fail
    go_returns
    exact ⟨_, by rw [R.out]; rfl, by rw [R.out]; exact O1.out, B2.out⟩
  have HS := Lib.hid hs
  have R := Lib.hid (bestEB_yes hs)
  obtain ⟨va, vb, vt⟩ := argsOk_iff.1 hs
  have ht := tolOk_iff.1 vt
  have VA := Lib.hid va; have VB := Lib.hid vb
  have n8 := (isEv_iff.1 va).1
  have m8 := (isEv_iff.1 vb).1
  clear hs va vb vt
  go_enter Try.func25, Try.ntmps25
  go_wp2_with fail
  refine (matcher_is H.out H'.out HS.out).mono ?_
  rintro e w1 ⟨mb, rfl, s1, m1, b1⟩
  have S0 : Hid (BestAt w mb tol (sizes a) (sizes b) [.slice pa a.length ca, .slice pb b.length cb, .int .i64 tol, .map (some mb)] w1.heap.size (w1.heap.size + 1 + 1 + 1)
      (((w1.alloc (.cells #[.slice pa a.length ca, .slice pb b.length cb, .int .i64 tol, .map (some mb)] MR)).alloc (.cells #[] 3)).alloc (.cells #[.int .i64 0, .int .i64 0] EL)) 0 0 (.slice (some ⟨w1.heap.size + 1, 0, none⟩) 0 0) []) := Lib.hid (by
    have q1 := (Below.refl w1.heap.size w1).alloc (Nat.le_refl _) (.cells #[.slice pa a.length ca, .slice pb b.length cb, .int .i64 tol, .map (some mb)] MR)
    have q2 := q1.alloc q1.size (.cells #[] 3)
    have q3 := q2.alloc q2.size (.cells #[.int .i64 0, .int .i64 0] EL)
    refine ⟨s1, m1.lt, rfl, by simp, ((cb_new MR w1 _).alloc _).alloc _, ?_, m1.grow q3 m1.lt, .inl ⟨rfl, rfl, CB.alloc (b := w1.heap.size + 1) ?_ _⟩, b1.trans (q3.mono b1.size)⟩
    · have := cb_new EL ((w1.alloc (.cells #[.slice pa a.length ca, .slice pb b.length cb, .int .i64 tol, .map (some mb)] MR)).alloc (.cells #[] 3)) [.int .i64 0, .int .i64 0]
      simpa using this
    · have := cb_new 3 (w1.alloc (.cells #[.slice pa a.length ca, .slice pb b.length cb, .int .i64 tol, .map (some mb)] MR)) []
      simpa using this)
  clear m1 b1
  go_wp2_with fail
  go_loopg [10, 27] a.length (fun k x y wr => ∃ (j f : Nat) (L : List Int), y = .int .i64 (j : Int) ∧ j + k = a.length ∧ f ≤ b.length ∧ L.length = j ∧ bestM tol (sizes a) (sizes b) 0 = L ++ bestM tol ((sizes a).drop j) ((sizes b).drop f) f ∧
    BestAt w mb tol (sizes a) (sizes b) [.slice pa a.length ca, .slice pb b.length cb, .int .i64 tol, .map (some mb)] w1.heap.size (w1.heap.size + 1 + 1 + 1) wr j f x L)
  case atStart => exact ⟨0, 0, [], rfl, by omega, Nat.zero_le _, rfl, rfl, S0.out⟩
  case round =>
    obtain ⟨j, f, L, rfl, hk, hf, hL, hb, hs⟩ := hrel
    have K := Lib.hid hk; have F := Lib.hid hf; have LL := Lib.hid hL; have BB := Lib.hid hb; have S := Lib.hid hs
    have hjl : j ≤ a.length := by omega
    have m0 := hs.mt.cell 0 _ rfl
    have m1 := hs.mt.cell 1 _ rfl
    have m2 := hs.mt.cell 2 _ rfl
    have m3 := hs.mt.cell 3 _ rfl
    have l0 := hs.lf.cell 0 _ rfl
    have l1 := hs.lf.cell 1 _ rfl
    clear hk hf hL hb hs S0
    by_cases hlt : j < a.length
    · have i1 : (j : Int) < (a.length : Int) := by omega
      have wj : IntKind.i64.wrap ((j : Int) + 1) = ((j + 1 : Nat) : Int) := by rw [show (j : Int) + 1 = ((j + 1 : Nat) : Int) by omega]; exact IntWalk.i64_in _ (by omega)
      have hjs : j < (sizes a).length := by rw [sizes_length]; exact hlt
      have step : ∃ (c : Int) (f' : Nat), partI tol (sizes a) (sizes b) j f = c ∧ f' ≤ b.length ∧ bestM tol (sizes a) (sizes b) 0 = (L ++ [c]) ++ bestM tol ((sizes a).drop (j + 1)) ((sizes b).drop f') f' ∧ ((c = -1 ∧ f' = f) ∨ (0 ≤ c ∧ c ≤ 8 ∧ (f' : Int) = c + 1)) := by
        rcases best_step (tol := tol) (s := sizes a) (t := sizes b) (j := j) (f := f) hjs with ⟨p1, p2⟩ | ⟨q, p1, p2, p3, p4⟩
        · exact ⟨-1, f, p1, F.out, by rw [BB.out, p2, List.append_assoc]; rfl, .inl ⟨rfl, rfl⟩⟩
        · rw [sizes_length] at p3
          exact ⟨(q : Int), q + 1, p1, by omega, by rw [BB.out, p4, List.append_assoc]; rfl, .inr ⟨by omega, by omega, by omega⟩⟩
      obtain ⟨c, f', hc, hf', hb', hor⟩ := step
      have HC := Lib.hid hc; have F' := Lib.hid hf'; have BB' := Lib.hid hb'
      clear hc hf' hb'
      go_wp2_with fail
      refine (find_rec H.out H'.out VA.out VB.out ht s1 (a.length - j) _ j f (by omega) F.out S.out.bl S.out.me).mono ?_
      rintro e w5 ⟨n, m, q, rfl, hf5, hm5, ht5⟩
      have S5 := Lib.hid (S.out.find ht5 hm5)
      have hq : q = c := by rw [← HC.out]; exact hf5.2.2 hjs
      subst hq
      have fm := field_part n m q w5
      have N5 := Lib.hid (new_one w5 (.int .i64 q) 3)
      have big := S5.out.big
      have BL := Lib.hid ((Below.refl (w1.heap.size + 1 + 1 + 1) w5).alloc big (.cells #[.int .i64 q] 3))
      have G5 := Lib.hid (S5.out.li.grw.grow ((Below.refl w5.heap.size w5).alloc (Nat.le_refl _) (.cells #[.int .i64 q] 3)))
      have LE := LL.out
      clear hf5 hm5 ht5 m0 m1 m2 m3 l0 l1
      rcases hor with ⟨rfl, rfl⟩ | ⟨c0, c8, cf⟩
      · go_wp2_with (at_builtin; refine grw_append intT rfl _ _ rfl (B := w1.heap.size + 1 + 1 + 1) _ L rfl G5.out ⟨w5.heap.size, 0, none⟩ (-1) rfl N5.out (by omega) (by simp; omega) ?_; intro v8 w8 hown8 hg8; have S8 := Lib.hid (S5.out.more (BL.out.trans hg8) hown8); have l0 := S8.out.lf.cell 0 _ rfl; have g0 := S8.out.lf.froz 0; clear hown8 hg8)
        have S9 := Lib.hid (S8.out.fst (j + 1))
        go_roundg (gk - 1)
        case measure => have := K.out; omega
        case rel => exact ⟨j + 1, f', L ++ [-1], by go_num, by have := K.out; omega, F'.out, by rw [List.length_append, LL.out]; rfl, BB'.out, S9.out⟩
      · have wc : IntKind.i64.wrap (q + 1) = (f' : Int) := by rw [cf]; exact IntWalk.i64_in _ (by omega)
        have nq : ¬ q = -1 := by omega
        go_wp2_with (at_builtin; refine grw_append intT rfl _ _ rfl (B := w1.heap.size + 1 + 1 + 1) _ L rfl G5.out ⟨w5.heap.size, 0, none⟩ q rfl N5.out (by omega) (by simp; omega) ?_; intro v8 w8 hown8 hg8; have S8 := Lib.hid (S5.out.more (BL.out.trans hg8) hown8); have l0 := S8.out.lf.cell 0 _ rfl; have g0 := S8.out.lf.froz 0; have l1 := S8.out.lf.cell 1 _ rfl; have g1 := S8.out.lf.froz 1; clear hown8 hg8)
        have S9 := Lib.hid ((S8.out.fst (j + 1)).snd f')
        go_roundg (gk - 1)
        case measure => have := K.out; omega
        case rel => exact ⟨j + 1, f', L ++ [q], by go_num, by have := K.out; omega, F'.out, by rw [List.length_append, LL.out]; rfl, BB'.out, by have h9 := S9.out; rw [cf] at h9; exact h9⟩
    · have hj : j = a.length := by omega
      have E : Hid (bestM tol (sizes a) (sizes b) 0 = L) := Lib.hid (by
        rw [BB.out, List.drop_eq_nil_of_le (by rw [sizes_length]; omega)]
        simp [bestM])
      have lo := S.out.lo; have mid := S.out.mid
      have O := Lib.hid (S.out.li.own (C := w.heap.size) (by omega) (by omega))
      go_wp2_with fail
      go_returns
      exact ⟨_, by rw [R.out]; rfl, by rw [R.out]; show IOwn _ _ _ (bestM tol (sizes a) (sizes b) 0); rw [E.out]; exact O.out, S.out.bl⟩
end Go.Proofs.Ytmibipnkjpkngaa
