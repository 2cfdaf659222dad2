/- The contract of the model's CoreCut. -/
import Derived.Test.YtdljfikgmhdedaaSpecJoin
import Derived.Test.YtdljfikgmhdedaaSpecBet
import Derived.BigRegion
namespace Go.Proofs.Ytdljfikgmhdedaa
open Go.RowKit

theorem ct_at {d : Int} {l : List Pc} {k : Nat} (hk : k < l.length) (h : (k : Int) = ix d l) (hd : l[k].1 ≠ d) : ct d l = some (l.take k ++ [(l[k].1, d), (d, l[k].2)] ++ l.drop (k + 1)) := by
  induction l generalizing k with
  | nil => simp at hk
  | cons p l ih =>
    have c := ix_cases d p l
    simp only [ct]
    cases k with
    | zero =>
      rw [if_pos (by have := ix_range d l; omega), if_neg (by simpa using hd)]
      rfl
    | succ k =>
      rw [if_neg (by omega), ih (k := k) (by simpa using hk) (by omega) (by simpa using hd)]
      simp
/-- The news of an append: the cells of a list that lies in memory. -/
theorem lies_news {w : World} {g o : Nat} {ms : List Pc} (h : ∀ i (_ : i < ms.length), w.cell? ⟨g, o + i * 2, none⟩ = some (.int .i64 ms[i].1) ∧ w.cell? ⟨g, o + i * 2 + 1, none⟩ = some (.int .i64 ms[i].2)) :
    ∀ j u, (cells2 ms)[j]? = some u → w.cell? ((⟨g, o, none⟩ : Addr).add j) = some u := by
  intro j u hu
  rw [Addr.add_lit]
  have hj : j < ms.length * 2 := by have := (List.getElem?_eq_some_iff.1 hu).1; rwa [cells2_length] at this
  obtain ⟨c1, c2⟩ := cells2_get ms (j / 2) (by omega)
  obtain ⟨h1, h2⟩ := h (j / 2) (by omega)
  by_cases e : j % 2 = 0
  · rw [show j = j / 2 * 2 by omega] at hu ⊢
    rw [c1] at hu; rw [h1, hu]
  · rw [show j = j / 2 * 2 + 1 by omega] at hu ⊢
    rw [c2] at hu; rw [← Nat.add_assoc, h2, hu]
theorem Lies.all {w : World} {g o : Nat} {ms : List Pc} (h : Lies w (some ⟨g, o, none⟩) ms) : ∀ i (_ : i < ms.length), w.cell? ⟨g, o + i * 2, none⟩ = some (.int .i64 ms[i].1) ∧ w.cell? ⟨g, o + i * 2 + 1, none⟩ = some (.int .i64 ms[i].2) := by
  rcases h with rfl | ⟨g', o', e, hc⟩
  · intro i hi; simp at hi
  · simp only [Option.some.injEq, Addr.mk.injEq, and_true] at e
    obtain ⟨rfl, rfl⟩ := e
    exact hc
theorem Lies.take {w : World} {g o : Nat} {l : List Pc} (h : Lies w (some ⟨g, o, none⟩) l) (k : Nat) : Lies w (some ⟨g, o, none⟩) (l.take k) :=
  .inr ⟨g, o, rfl, fun i hi => by
    rw [List.getElem_take]
    exact h.all i (by simp at hi; omega)⟩
theorem Lies.drop {w : World} {g o : Nat} {l : List Pc} (h : Lies w (some ⟨g, o, none⟩) l) (k : Nat) : Lies w (some ⟨g, o + k * 2, none⟩) (l.drop k) :=
  .inr ⟨g, o + k * 2, rfl, fun i hi => by
    rw [List.getElem_drop]
    have := h.all (k + i) (by simp at hi; omega)
    rwa [Nat.add_mul, ← Nat.add_assoc] at this⟩
theorem cells2_one (l : List Pc) : ∀ u ∈ cells2 l, u.oneCell' = true := by
  induction l with
  | nil => intro u hu; simp [cells2] at hu
  | cons p l ih =>
    intro u hu
    simp only [cells2, List.mem_cons] at hu
    rcases hu with rfl | rfl | hu
    · rfl
    · rfl
    · exact ih u hu
/-- A list more behind a slice of the call's own. -/
theorem append_list {w : World} {ops : Array Oper} {rest : List Oper} {o : Oper} {a : Act} {Q : Exit → Act → World → Prop} (hgd : o.guard = none) (s x : Operand)
    (ho : o.op = .call { callee := .builtin .append, args := #[s, x], argTypes := #[23, 23] }) {B : Nat} (v : Value) (m : List Pc) (hs : a.eval s = v) (hown : Own w B v m)
    (ad : Addr) (n c : Nat) (ms : List Pc) (hx : a.eval x = .slice (some ad) n c) (hn : ms.length = n) (hnews : ∀ j u, (cells2 ms)[j]? = some u → w.cell? (ad.add j) = some u) (hm : m.length + n ≤ 1100000) (hB : B ≤ w.heap.size)
    (h : ∀ v' w', Own w' B v' (m ++ ms) → w.grownBy w' v.ownBlock → wpList Try.prog ops Q rest (a.put o.dst v') w') : wpList Try.prog ops Q (o :: rest) a w := by
  obtain ⟨i0, hi, hz0, hz1, hz2⟩ := info_parts info_piece
  refine wpList_append_own w hgd s x 23 ho B 27 i0 (.agg #[.int .i64 0, .int .i64 0]) 2 16 Try.underlying23 hi hz0 hz1 hz2 rfl (by decide) v m.length (cells2 m) hs hown
    ad n c (cells2 ms) hx (by rw [cells2_length, hn]) hnews (cells2_one ms) (by unfold maxLen; omega) (by omega) hB ?_
  intro v' w' h2 h3 _
  refine h v' w' ?_ h3
  show w'.ownsRow B _ 2 v' (m ++ ms).length (cells2 (m ++ ms))
  rw [cells2_append, List.length_append, hn]
  exact h2

set_option maxHeartbeats 800000 in
theorem specCoreCut_any {w : World} {v : Value} {l : List Pc} (d : Int) (h : Row w v l) :
    Calls Try.prog 31 #[v, .int .i64 d] w fun e w' => LstB w (cutOf d l) e w' := by
  have CH := Lib.hid (specCoreHas_any d h)
  obtain ⟨a, n, c, rfl, hl, h1, h2, hlie⟩ := h
  have hm : n ≤ maxLen := by omega
  unfold maxLen at hm h2
  have no : ∀ w1 : World, Below w.heap.size w w1 → cutOf d l = none →
      LstB w (cutOf d l) (.returned (.tuple #[.slice (some ⟨w1.heap.size, 0, none⟩) 0 0, .bool false])) (w1.alloc (.cells #[] 27)) := fun w1 hb hn => by
    rw [hn]
    exact ⟨_, rfl, own_new hb.size, hb.alloc hb.size _⟩
  have NO := Lib.hid no
  clear no
  by_cases hk : hasOf d l < 0
  · have HN : Hid (cutOf d l = none) := Lib.hid (by
      unfold cutOf
      split
      · rename_i hc
        unfold hasOf at hk
        rw [if_pos hc.1] at hk
        exact ct_none.2 (.inl hk)
      · rfl)
    generalize hasOf d l = x at hk CH
    go_enter Try.func31, Try.ntmps31
    go_wp2_with fail
    refine CH.out.mono ?_
    rintro e w1 ⟨rfl, hb⟩
    have B1 := Lib.hid hb
    clear hb
    go_wp2_with fail
    go_ret2
    exact NO.out w1 B1.out HN.out
  have hcore : isCore l = true := by
    cases hv : isCore l
    · exfalso; apply hk; unfold hasOf; rw [if_neg (by rw [hv]; simp)]; omega
    · rfl
  have hix : hasOf d l = ix d l := if_pos hcore
  have hr := ix_range d l
  obtain ⟨k, hkx⟩ : ∃ k : Nat, ix d l = (k : Int) := ⟨(ix d l).toNat, by omega⟩
  have hkn : k < n := by omega
  have hn20 : n ≤ 20 := by have := isCore_iff.1 hcore; omega
  have HC := Lib.hid hcore; have HX := Lib.hid hkx
  rw [hix, hkx] at CH
  clear hk hcore hix hr hkx
  obtain ⟨g, o, rfl, c1, c2⟩ := lies_cell hlie k (by omega)
  have C1 := Lib.hid c1; have C2 := Lib.hid c2; have HLIE := Lib.hid hlie
  have hgw : g < w.heap.size := cell_below c1
  clear c1 c2 hlie
  by_cases ht : l[k].1 = d
  · have HN : Hid (cutOf d l = none) := Lib.hid (by
      unfold cutOf
      split
      · exact ct_none.2 (.inr ⟨k, by omega, HX.out.symm, ht⟩)
      · rfl)
    have hb : (l[k].1 == d) = true := by simpa using ht
    clear ht
    go_enter Try.func31, Try.ntmps31
    go_wp2_with fail
    refine CH.out.mono ?_
    rintro e w1 ⟨rfl, hb⟩
    have B1 := Lib.hid hb
    have d1 := (hb.cell (cell_below C1.out)).trans C1.out
    clear hb
    go_wp2_with fail
    go_ret2
    exact NO.out w1 B1.out HN.out
  have hb : (l[k].1 == d) = false := by simpa using ht
  have HT := Lib.hid ht
  clear ht
  by_cases h20 : n = 20
  · have HN : Hid (cutOf d l = none) := Lib.hid (if_neg (fun h => by omega))
    subst h20
    go_enter Try.func31, Try.ntmps31
    go_wp2_with fail
    refine CH.out.mono ?_
    rintro e w1 ⟨rfl, hb⟩
    have B1 := Lib.hid hb
    have d1 := (hb.cell (cell_below C1.out)).trans C1.out
    clear hb
    go_wp2_with fail
    go_ret2
    exact NO.out w1 B1.out HN.out
  have hb20 : ((n : Int) == 20) = false := by simp; omega
  obtain ⟨lk, hlk⟩ : ∃ lk, lk = l.take k := ⟨_, rfl⟩
  have RES : Hid (cutOf d l = some (lk ++ [(l[k].1, d), (d, l[k].2)] ++ l.drop (k + 1))) := Lib.hid (by
    unfold cutOf; rw [if_pos ⟨HC.out, by omega⟩, hlk]; exact ct_at (by omega) HX.out.symm HT.out)
  have LK : Hid (Lies w (some ⟨g, o, none⟩) lk) := Lib.hid (by rw [hlk]; exact HLIE.out.take k)
  have HL1 : Hid (lk.length = k) := Lib.hid (by rw [hlk, List.length_take]; omega)
  clear hlk
  have s3 : (0 : Int) ≤ (k : Int) := Int.natCast_nonneg _
  have s4 : (k : Int) < (n : Int) := by omega
  have s5 : (0 : Int) ≤ (k : Int) + 1 := by omega
  have s6 : (k : Int) + 1 ≤ (c : Int) := by omega
  have s7 : ((k : Int) + 1).toNat = k + 1 := by omega
  go_enter Try.func31, Try.ntmps31
  go_wp2_with fail
  refine CH.out.mono ?_
  rintro e w1 ⟨rfl, hb⟩
  have B1 := Lib.hid hb
  have d1 := (hb.cell (cell_below C1.out)).trans C1.out
  clear hb
  have BA := Lib.hid ((Below.refl w1.heap.size w1).alloc (Nat.le_refl _) (.cells #[] 27))
  have OW := Lib.hid (own_new (w := w1) B1.out.size)
  have NEWS := Lib.hid (lies_news (LK.out.grow (B1.out.trans (BA.out.mono B1.out.size))).all)
  have hw1 : w.heap.size ≤ w1.heap.size := B1.out.size
  go_wp2_with (at_builtin; refine append_list rfl _ _ rfl (B := w.heap.size) _ [] rfl OW.out ⟨g, o, none⟩ k _ lk rfl HL1.out NEWS.out (by simp; omega) (by simp; omega) ?_; intro v2 w2 hown2 hg2)
  have BB := Lib.hid ((B1.out.trans (BA.out.mono hw1)).trans (OW.out.below hg2 (by simp; omega)))
  have OW2 : Hid (Own w2 w.heap.size v2 lk) := Lib.hid hown2
  have hw2 : w.heap.size ≤ w2.heap.size := BB.out.size
  have e1 := (BB.out.cell (cell_below C1.out)).trans C1.out
  have e2 := (BB.out.cell (cell_below C2.out)).trans C2.out
  have hgl : g < w2.heap.size := by omega
  have hnb : v2.ownBlock ≠ some g := fun e => by have := (OW2.out.lt g e).1; omega
  clear hown2 hg2 d1
  obtain ⟨i0, hi0, hz0, hz1, hz2⟩ := info_parts info_piece
  go_region_held3 (fun w' => w'.cell? ⟨g, o + k * 2, none⟩ = some (.int .i64 l[k].1) ∧ w'.cell? ⟨g, o + k * 2 + 1, none⟩ = some (.int .i64 l[k].2))
    (first
      | go_keep
      | (go_split_ands
         refine ⟨?_, ?_⟩
         · (rw [hgrow.cell_far _ (by simp; omega) (Ne.symm hnb)]; assumption)
         · (rw [hgrow.cell_far _ (by simp; omega) (Ne.symm hnb)]; assumption)))
    ((refine step_append_lies _ (by rfl) _ _ _ (by rfl) w.heap.size 27 i0 (.agg #[.int .i64 0, .int .i64 0]) 2 16 Try.underlying23 hi0 hz0 hz1 hz2 rfl (by omega) v2 _ _ (by rfl) ((World.ownsRow.alloc OW2.out _).drew)
        ⟨w2.heap.size, 0, none⟩ 2 2 [.int .i64 l[k].1, .int .i64 d, .int .i64 d, .int .i64 l[k].2] (by rfl) (by rfl) (World.news_of_block (cs := #[.int .i64 l[k].1, .int .i64 d, .int .i64 d, .int .i64 l[k].2]) (t := 27) (fr := (0, 0)) (heap_alloc_new w2 _)) (by simp [Value.oneCell'])
        (by omega) (by have := HL1.out; unfold maxLen; simp; omega) (by have := HL1.out; simp; omega) (by simp; omega) (w2.heap.size + 1) (by simp) ?_; intro gg cap w4 hown1 hgrow hat hlt4))
  have OW4 : Hid (Own w4 w.heap.size (.slice (some ⟨gg, 0, none⟩) (lk.length + 2) cap) (lk ++ [(l[k].1, d), (d, l[k].2)])) := Lib.hid (by
    show w4.ownsRow _ _ 2 _ (lk ++ [(l[k].1, d), (d, l[k].2)]).length (cells2 (lk ++ [(l[k].1, d), (d, l[k].2)]))
    rw [cells2_append, show (lk ++ [(l[k].1, d), (d, l[k].2)]).length = lk.length + 2 from by simp]
    exact hown1)
  have B4 := Lib.hid ((BB.out.alloc hw2 _).drew.grown hgrow (by simp; omega) (fun k hk => (OW2.out.lt k hk).1))
  have hw4 : w.heap.size ≤ w4.heap.size := B4.out.size
  clear hown1 hgrow hat hlt4 e1 e2
  generalize Value.slice (some ⟨gg, 0, none⟩) (lk.length + 2) cap = vv at OW4 ⊢
  by_cases hcap : c = k + 1
  · have hnn : n = k + 1 := by omega
    subst hcap hnn
    have DR : Hid (l.drop (k + 1) = []) := Lib.hid (List.drop_of_length_le (by omega))
    go_wp2_with (at_builtin; (refine append_list rfl _ _ rfl (B := w.heap.size) _ _ rfl OW4.out _ _ _ [] rfl rfl (fun j u hu => by simp [cells2] at hu) (by have := HL1.out; simp; omega) hw4 ?_); intro v5 w5 hown5 hg5)
    have OW5 := Lib.hid hown5
    have B5 := Lib.hid (B4.out.trans (OW4.out.below hg5 hw4))
    clear hown5 hg5
    go_wp2_with fail
    go_ret2
    rw [RES.out, DR.out]
    exact ⟨v5, rfl, OW5.out, B5.out⟩
  · have hcap2 : k + 1 < c := by omega
    have NEWS2 := Lib.hid (lies_news ((HLIE.out.grow B4.out).drop (k + 1)).all)
    have HL2 : Hid ((l.drop (k + 1)).length = n - (k + 1)) := Lib.hid (by rw [List.length_drop, hl])
    go_wp2_with (at_builtin; (refine append_list rfl _ _ rfl (B := w.heap.size) _ _ rfl OW4.out ⟨g, o + (k + 1) * 2, none⟩ _ _ (l.drop (k + 1)) rfl HL2.out NEWS2.out (by have := HL1.out; simp; omega) hw4 ?_); intro v5 w5 hown5 hg5)
    have OW5 := Lib.hid hown5
    have B5 := Lib.hid (B4.out.trans (OW4.out.below hg5 hw4))
    clear hown5 hg5
    go_wp2_with fail
    go_ret2
    rw [RES.out]
    exact ⟨v5, rfl, OW5.out, B5.out⟩
end Go.Proofs.Ytdljfikgmhdedaa
