/- Collecting what an iterator hands over; the program's merging of layers. -/
import Derived.Test.YtbjeedeapioljacLayMg
import Derived.Maps.AppendAt
import Derived.Maps.OwnIn
import Derived.RangeFuncBox
namespace Go.Proofs.Ytbjeedeapioljac
open Go Go.RowKit Go.Shelf
attribute [local go_sem] Oper.semAt_some

/-- One layer more behind a slice of the call's own, within a round; where the longer one lies. -/
theorem lappend_in {T S : TypeId} (PT : LayT T S) {F : Fence} {n : Nat} {w : World} {ops : Array Oper} {rest : List Oper} {o : Oper} {a : Act} {Q : Exit → Act → World → Prop} (hgd : o.guard = none) (s x : Operand)
    (ho : o.op = .call { callee := .builtin .append, args := #[s, x], argTypes := #[S, S] }) {B : Nat} (v : Value) (m : LL) (hs : a.eval s = v) (hown : LOwn T w B v m)
    (ad : Addr) (p : Ly) (hx : a.eval x = .slice (some ad) 1 1) (h0 : w.cell? (ad.add 0) = some (.int .i64 p.1)) (h1 : w.cell? (ad.add 1) = some (.bool p.2)) (hm : m.length ≤ 1000000) (hB : B ≤ w.heap.size)
    (h : ∀ v' w', LOwn T w' B v' (m ++ [p]) → w.grownBy w' v.ownBlock → (v'.ownBlock = v.ownBlock ∨ v'.ownBlock = some w.heap.size) → wpListIn F n Try.prog ops Q rest (a.put o.dst v') w') : wpListIn F n Try.prog ops Q (o :: rest) a w := by
  obtain ⟨i0, hi, hz0, hz1, hz2⟩ := info_parts PT.info
  refine wpListIn_append_own_at (w := w) hgd s x S ho B T i0 (.agg #[.int .i64 0, .bool false]) 2 16 PT.slice hi hz0 hz1 hz2 rfl (by decide) v m.length (cellsL m) hs hown
    ad 1 1 (cellsL [p]) hx (by simp [cellsL]) (fun j u hj => by
      match j, hj with
      | 0, hj => cases hj; exact h0
      | 1, hj => cases hj; exact h1) (cellsL_one [p]) (by unfold maxLen; omega) (by omega) hB ?_
  intro v' w' h2 h3 _ h5
  refine h v' w' ?_ h3 h5
  show w'.ownsRow B _ 2 v' (m ++ [p]).length (cellsL (m ++ [p]))
  rw [cellsL_append, List.length_append]
  exact h2
/-- What lies where a Step turns nothing. -/
theorem Step.own {lo M B : Nat} {T : TypeId} {W W' : World} {v : Value} {m : LL} (h : Step lo M W W') (ho : LOwn T W B v m) (hb : ∀ b, v.ownBlock = some b → b < lo ∨ M ≤ b) : LOwn T W' B v m :=
  ho.same fun b hb' => h.block b (ho.lt b hb').2 (hb b hb')
theorem Turned.own {l B : Nat} {T : TypeId} {W W' : World} {v : Value} {m : LL} (h : Turned l W W') (ho : LOwn T W B v m) (hb : v.ownBlock ≠ some l) : LOwn T W' B v m :=
  ho.same fun b hb' => h.block b (fun e => hb (by rw [hb', e]))
set_option maxHeartbeats 800000 in
theorem merged_any {w : World} {va vb : Value} {a b : LL} (ha : LRow w va a) (hb : LRow w vb b) (ha40 : a.length ≤ 40) (hb40 : b.length ≤ 40) :
    Calls Try.prog 46 #[va, vb] w fun e w' => ∃ u, e = .returned u ∧ Src w.heap.size w.heap.size w' u (mg a b) ∧ Below w.heap.size w w' := by
  have HA := Lib.hid ha; have HB := Lib.hid hb
  obtain ⟨aa, ca, rfl, h1, h2, _⟩ := ha.parts
  obtain ⟨ab, cb, rfl, h3, h4, _⟩ := hb.parts
  clear ha hb
  go_enter Try.func46, Try.ntmps46
  go_wp2
  go_ret
  have hbl : Below w.heap.size w ((w.alloc (.cells #[.slice aa a.length ca] 23)).alloc (.cells #[.slice ab b.length cb] 23)) := ((Below.refl _ w).alloc (Nat.le_refl _) _).alloc (by simp) _
  have hsz : ((w.alloc (.cells #[.slice aa a.length ca] 23)).alloc (.cells #[.slice ab b.length cb] 23)).heap.size = w.heap.size + 2 := by simp
  refine ⟨_, rfl, ⟨_, _, rfl, enters_of Try.func53 (by kernel_rfl) rfl, ?_⟩, hbl⟩
  intro l J Jx W hW hJ hJx hY h0
  have hWs := hW.size
  refine merged1 l w.heap.size (w.heap.size + 1) (.slice aa a.length ca) (.slice ab b.length cb) a b ha40 hb40 W (fun j hj => by have := hj.lt (by omega); omega) (.inr ⟨Nat.le_refl _, by omega⟩) (.inr ⟨by omega, by omega⟩) ?_ ?_
    ((HA.out.grow hbl).grow hW) ((HB.out.grow hbl).grow hW) (fun h g o n c e => .inl (inG_row HA.out h g o n c e)) (fun h g o n c e => .inl (inG_row HB.out h g o n c e)) J Jx hJ hY h0
  · rw [hW.cell (p := ⟨w.heap.size, 0, none⟩) (by simp; omega), World.cell?_alloc_past _ _ _ (by simp), World.cell?_alloc_new]; rfl
  · rw [hW.cell (p := ⟨w.heap.size + 1, 0, none⟩) (by simp), show w.heap.size + 1 = (w.alloc (.cells #[.slice aa a.length ca] 23)).heap.size by simp, World.cell?_alloc_new]; rfl
set_option maxRecDepth 100000 in
set_option maxHeartbeats 2000000 in
theorem appendSeq_any {n : Nat} {w : World} {v : Value} {xs : List Ly} (h : Src n n w v xs) (hn : n ≤ w.heap.size) (hlen : xs.length ≤ 1000000) :
    Calls Try.prog 52 #[.slice none 0 0, v] w fun e w' => ∃ u, e = .returned u ∧ LOwn 62 w' w.heap.size u xs ∧ Below w.heap.size w w' := by
  obtain ⟨gf, lb, rfl, eg, hseq⟩ := h
  refine (callsIn_wide (n := 9)).1 ?_
  refine callsIn_of_wp_marks Try.func52 rfl trivial ?_ rfl
  simp only [Try.ntmps52, List.size_toArray, List.length_cons, List.length_nil, Nat.reduceAdd, Nat.reduceSub, Array.replicate_succ, Array.replicate_zero, List.push_toArray, List.append_toArray, List.nil_append, List.cons_append]
  gi_wp2
  obtain ⟨w1, hw1⟩ : ∃ w1, w.alloc (.cells #[.slice none 0 0] 23) = w1 := ⟨_, rfl⟩
  have hb : Below w.heap.size w w1 := by rw [← hw1]; exact (Below.refl _ w).alloc (Nat.le_refl _) _
  have hs : w1.heap.size = w.heap.size + 1 := by rw [← hw1]; simp
  have c1 : Boxed w1 w.heap.size 23 (.slice none 0 0) := by rw [← hw1]; exact World.alloc_heap_new _ _
  rw [hw1]
  refine range_law (w0 := w) rfl eg hseq hb (fun _ => rfl) (fun j hj => by have := hj.lt hn; omega)
    (fun M k wr => (∃ v, Boxed wr w.heap.size 23 v ∧ LOwn 62 wr M v (xs.take k)) ∧ Below w.heap.size w wr) (fun _ _ => False)
    (fun M k => Stable.and (fun A B ⟨v, h1, h2⟩ hs' => ⟨v, (hs'.block _ h1.lt (.inl (by omega))).trans h1, hs'.own h2 (fun b hb => .inr (h2.lt b hb).1)⟩) (stable_below (by omega) (Nat.le_refl _))) (fun M => fun _ _ h _ => h)
    (fun M hM => ⟨⟨_, c1, lown_nil _ _ _⟩, hb⟩) ?round ?done ?stop
  case round =>
    rintro M k hk wr hM hMW ⟨⟨v, hv, ho⟩, hbw⟩
    gi_wp2
    refine ⟨(Below.refl _ _).alloc (Nat.le_refl _) _, fun W₂ ht ⟨⟨u, hu, ho2⟩, hb2⟩ => ?_⟩
    have x1 : W₂.cell? ⟨wr.heap.size, 0, none⟩ = some (.int .i64 xs[k].1) := (ht.cell (by simp; omega)).trans (by rw [World.cell?_alloc_new]; rfl)
    have x2 : W₂.cell? ⟨wr.heap.size, 1, none⟩ = some (.bool xs[k].2) := (ht.cell (by simp; omega)).trans (by rw [World.cell?_alloc_new]; rfl)
    have e1 := Boxed.cell hu
    have f1 := Boxed.frozen hu
    have hsW : W₂.heap.size = wr.heap.size + 1 := by rw [ht.size]; simp
    have hub : some w.heap.size ≠ u.ownBlock := fun e => by have := (ho2.lt _ e.symm).1; omega
    have O2 := Lib.hid ho2; have U2 := Lib.hid hu
    have BA : Hid (Below W₂.heap.size W₂ (W₂.alloc (.cells #[.int .i64 xs[k].1, .bool xs[k].2] 62))) := Lib.hid ((Below.refl _ _).alloc (Nat.le_refl _) _)
    have hkl : (xs.take k).length = k := by simp; omega
    have HKL := Lib.hid hkl; have HS := Lib.hid hsW
    have hMW2 : M ≤ W₂.heap.size := by omega
    clear ho ho2 hu hv hkl hsW
    gi_wp2_with (gi_at_builtin; refine lappend_in layT rfl _ _ rfl (B := M) _ _ rfl (O2.out.grow BA.out) ⟨W₂.heap.size, 0, none⟩ xs[k] rfl (new_two W₂ _ _ _).1 (new_two W₂ _ _ _).2 (by rw [HKL.out]; omega) (by simp; omega) ?_; intro v3 W3 hown3 hg3 hat3; obtain ⟨g3, cap3, rfl⟩ := ownsRow_succ (k := k) (by have q := hown3; unfold LOwn at q; rw [List.length_append, HKL.out] at q; exact q); have bx3 := Boxed.kept (U2.out.alloc _) hg3 hub; have e3 := Boxed.cell bx3; have f3 := Boxed.frozen bx3)
    have eu : ∀ b, u.ownBlock = some b → M ≤ b := fun b hb => (O2.out.lt b hb).1
    have hs2 := HS.out
    have kb := Kept.grown (lo := w1.heap.size) (M := M) (G := Gd n n w) hg3 (fun j hj => by have := hj.lt hn; simp; omega) (by simp; omega) (fun j e => ⟨fun hj => by have := hj.lt hn; have := eu j e; omega, fun hj => by have := eu j e; omega⟩)
    refine ⟨((Kept.new BA.out hMW2 (fun j hj => by have := hj.lt hn; omega)).trans kb).trans ((turned_set _ _ _ _).keep (by omega) (fun hj => by have := hj.lt hn; omega)), ⟨_, Boxed.set _ bx3, ?_⟩, ?_⟩
    · rw [take_one xs k hk]
      exact (turned_set _ _ _ _).own hown3 (fun e => by have := (hown3.lt _ e).1; omega)
    · exact (turned_set _ _ _ _).below ((hb2.alloc (by omega) _).grown hg3 (by simp; omega) (fun j e => by have := eu j e; omega)) (Nat.le_refl _)
  case done =>
    rintro M wr hM hMW ⟨⟨u, hu, ho⟩, hbw⟩ hD
    have bc := Boxed.cell hu
    gi_wp2
    refine ⟨by simp, .inl ⟨_, _, rfl, run_takeDeferred hD, ?_⟩⟩
    refine ⟨_, results_tmp rfl _ _ _, _, rfl, ?_, (turned_put _ _ _).below hbw (by omega)⟩
    rw [List.take_length] at ho
    exact ((turned_put _ _ _).own ho (fun e => by have := (ho.lt _ e).1; omega)).mono (by omega)
  case stop =>
    rintro M wr _ _ h _
    exact h.elim
theorem collect_any {n : Nat} {w : World} {v : Value} {xs : List Ly} (h : Src n n w v xs) (hn : n ≤ w.heap.size) (hlen : xs.length ≤ 1000000) :
    Calls Try.prog 45 #[v] w fun e w' => ∃ u, e = .returned u ∧ LOwn 62 w' w.heap.size u xs ∧ Below w.heap.size w w' := by
  have H := Lib.hid h
  obtain ⟨g, lb, rfl, _⟩ := h
  go_enter Try.func45, Try.ntmps45
  go_wp2_with fail
  refine (appendSeq_any H.out hn hlen).mono ?_
  rintro e w1 ⟨u, rfl, h1, h2⟩
  have H1 := Lib.hid h1; have H2 := Lib.hid h2
  clear h1 h2
  go_wp2_with fail
  go_ret
  exact ⟨_, rfl, H1.out, H2.out⟩
set_option maxHeartbeats 800000 in
theorem implMerge_any {w : World} {va vb : Value} {a b : LL} (ha : LRow w va a) (hb : LRow w vb b) :
    Calls Try.prog 24 #[va, vb] w fun e w' => LLstB 62 w (mgOf a b) e w' := by
  have HA := Lib.hid ha; have HB := Lib.hid hb
  obtain ⟨aa, ca, rfl, h1, h2, _⟩ := ha.parts
  obtain ⟨ab, cb, rfl, h3, h4, _⟩ := hb.parts
  clear ha hb
  cases hv : isLay a
  · have VA := Lib.hid hv
    clear hv
    go_enter Try.func24, Try.ntmps24
    go_wp2_with fail
    refine (implValid_is HA.out VA.out).mono ?_
    rintro e w1 ⟨rfl, b1⟩
    have B1 := Lib.hid b1
    clear b1
    go_wp2_with fail
    go_ret2
    rw [mgOf_a VA.out]
    exact ⟨_, rfl, lown_new _ B1.out.size, B1.out.alloc B1.out.size _⟩
  have VA := Lib.hid hv
  clear hv
  cases hv : isLay b
  · have VB := Lib.hid hv
    clear hv
    go_enter Try.func24, Try.ntmps24
    go_wp2_with fail
    refine (implValid_is HA.out VA.out).mono ?_
    rintro e w1 ⟨rfl, b1⟩
    have B1 := Lib.hid b1
    clear b1
    go_wp2_with fail
    refine (implValid_is (HB.out.grow B1.out) VB.out).mono ?_
    rintro e w2 ⟨rfl, b2⟩
    have B2 := Lib.hid (B1.out.trans (b2.mono B1.out.size))
    clear b2
    go_wp2_with fail
    go_ret2
    rw [mgOf_b VB.out]
    exact ⟨_, rfl, lown_new _ B2.out.size, B2.out.alloc B2.out.size _⟩
  have VB := Lib.hid hv
  have ha40 := lay_len VA.out; have hb40 := lay_len VB.out
  clear hv
  have hm80 : (mg a b).length ≤ 80 := by have := mg_length a b; omega
  go_enter Try.func24, Try.ntmps24
  go_wp2_with fail
  refine (implValid_is HA.out VA.out).mono ?_
  rintro e w1 ⟨rfl, b1⟩
  have B1 := Lib.hid b1
  clear b1
  go_wp2_with fail
  refine (implValid_is (HB.out.grow B1.out) VB.out).mono ?_
  rintro e w2 ⟨rfl, b2⟩
  have B2 := Lib.hid (B1.out.trans (b2.mono B1.out.size))
  have RA := Lib.hid ((HA.out.grow B1.out).grow b2); have RB := Lib.hid ((HB.out.grow B1.out).grow b2)
  clear b2
  go_wp2_with fail
  refine (merged_any RA.out RB.out ha40 hb40).mono ?_
  rintro e w3 ⟨u, rfl, s3, b3⟩
  have S3 := Lib.hid s3; have B23 := Lib.hid b3
  have B3 := Lib.hid (B2.out.trans (b3.mono B2.out.size))
  obtain ⟨g3, lb3, rfl, _⟩ := s3
  clear b3
  go_wp2_with fail
  refine (collect_any S3.out B23.out.size (by omega)).mono ?_
  rintro e w4 ⟨u4, rfl, o4, b4⟩
  have O4 := Lib.hid (o4.mono B3.out.size)
  have B4 := Lib.hid (B3.out.trans (b4.mono B3.out.size))
  have R4 := Lib.hid o4.row
  clear o4 b4
  cases hv : isLay (mg a b)
  · have NO := Lib.hid (mgOf_no hv); have VM := Lib.hid hv
    clear hv
    go_wp2_with fail
    refine (implValid_is R4.out VM.out).mono ?_
    rintro e w5 ⟨rfl, b5⟩
    have B5 := Lib.hid (B4.out.trans (b5.mono B4.out.size))
    clear b5
    go_wp2_with fail
    go_ret2
    rw [NO.out]
    exact ⟨_, rfl, lown_new _ B5.out.size, B5.out.alloc B5.out.size _⟩
  · have YES := Lib.hid (mgOf_yes VA.out VB.out hv); have VM := Lib.hid hv
    clear hv
    go_wp2_with fail
    refine (implValid_is R4.out VM.out).mono ?_
    rintro e w5 ⟨rfl, b5⟩
    have B5 := Lib.hid (B4.out.trans (b5.mono B4.out.size))
    have O5 := Lib.hid (O4.out.grow b5)
    clear b5
    go_wp2_with fail
    go_ret2
    rw [YES.out]
    exact ⟨_, rfl, O5.out, B5.out⟩
end Go.Proofs.Ytbjeedeapioljac
