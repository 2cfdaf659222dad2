/- The contract of the model's CoreJoin. -/
import Derived.Test.YtdljfikgmhdedaaSpecGaps
import Derived.BigRegion
namespace Go.Proofs.Ytdljfikgmhdedaa
open Go.RowKit

/-- After j pieces: nothing yet, or a last piece q, not joined with what comes. -/
def JoinTo (l : List Pc) (j : Nat) (m : List Pc) : Prop :=
  (j = 0 ∧ m = []) ∨ ∃ (m0 : List Pc) (q : Pc) (h : j - 1 < l.length), 0 < j ∧ m = m0 ++ [q] ∧ q.2 = l[j - 1].2 ∧ join l = m0 ++ jn q (l.drop j)
theorem JoinTo.first {l : List Pc} (h : 0 < l.length) : JoinTo l 1 [l[0]] := by
  cases l with
  | nil => simp at h
  | cons p r => exact .inr ⟨[], p, by simp, by omega, rfl, rfl, rfl⟩
theorem JoinTo.touch {l m : List Pc} {i : Nat} {q : Pc} (hi : i + 1 < l.length) (h : JoinTo l (i + 1) (m ++ [q])) (ht : l[i].2 = l[i + 1].1) : JoinTo l (i + 2) (m ++ [(q.1, l[i + 1].2)]) := by
  rcases h with h | ⟨m0, q', h1, _, h2, h3, h4⟩
  · omega
  · obtain ⟨rfl, e⟩ := List.append_inj' h2 rfl
    simp only [List.cons.injEq, and_true] at e
    subst e
    refine .inr ⟨m, _, by omega, by omega, rfl, by simp, ?_⟩
    rw [h4, List.drop_eq_getElem_cons hi]
    simp only [jn]
    rw [if_pos (by rw [h3]; simpa using ht)]
theorem JoinTo.apart {l m : List Pc} {i : Nat} (hi : i + 1 < l.length) (h : JoinTo l (i + 1) m) (ht : l[i].2 ≠ l[i + 1].1) : JoinTo l (i + 2) (m ++ [l[i + 1]]) := by
  rcases h with h | ⟨m0, q', h1, _, h2, h3, h4⟩
  · omega
  · subst h2
    refine .inr ⟨m0 ++ [q'], _, by omega, by omega, rfl, by simp, ?_⟩
    rw [h4, List.drop_eq_getElem_cons hi]
    simp only [jn]
    rw [if_neg (by rw [h3]; simpa using ht)]
    simp
theorem JoinTo.done {l m : List Pc} (h : JoinTo l l.length m) : join l = m := by
  rcases h with ⟨h1, rfl⟩ | ⟨m0, q', h1, _, h2, h3, h4⟩
  · rw [List.eq_nil_of_length_eq_zero h1]; rfl
  · rw [h4, List.drop_of_length_le (Nat.le_refl _), h2]; rfl
theorem JoinTo.last {l m : List Pc} {j : Nat} (h : JoinTo l j m) (hj : 0 < j) : ∃ m0 q, m = m0 ++ [q] := by
  rcases h with ⟨h1, rfl⟩ | ⟨m0, q', _, _, h2, _, _⟩
  · omega
  · exact ⟨m0, q', h2⟩

theorem cells2_last (m : List Pc) (q : Pc) (x : Int) : (cells2 (m ++ [q])).set (m.length * 2 + 1) (.int .i64 x) = cells2 (m ++ [(q.1, x)]) := by
  induction m with
  | nil => rfl
  | cons p m ih => simp only [List.cons_append, cells2, List.length_cons, show (m.length + 1) * 2 + 1 = (m.length * 2 + 1) + 1 + 1 by omega, List.set_cons_succ, ih]
/-- The last piece of a slice of the call's own: its cells, and what a store into its Bottom does. -/
theorem Own.last {w : World} {B : Nat} {v : Value} {m : List Pc} {q : Pc} (h : Own w B v (m ++ [q])) :
    ∃ g cap, v = .slice (some ⟨g, 0, none⟩) (m.length + 1) cap ∧ m.length + 1 ≤ cap ∧ B ≤ g ∧ g < w.heap.size ∧ w.cell? ⟨g, m.length * 2 + 1, none⟩ = some (.int .i64 q.2) ∧ w.frozen? ⟨g, m.length * 2 + 1, none⟩ = false ∧
      ∀ x, Own (w.setCell ⟨g, m.length * 2 + 1, none⟩ (.int .i64 x)) B v (m ++ [(q.1, x)]) := by
  have h' := h
  have hlt := h.lt
  rcases h.2 with ⟨_, hn⟩ | ⟨g, cap, cur, rfl, hb, hgg, hn, hm, hs, ht⟩
  · simp at hn
  · simp only [List.length_append, List.length_cons, List.length_nil] at h' hn hm hs ht ⊢
    obtain ⟨_, c2⟩ := cells2_get (m ++ [q]) m.length (by simp)
    have hc := World.ownsRow.cellAt (w := w) (by simpa [Own] using h) (m.length * 2 + 1) (by omega)
    rw [c2] at hc
    refine ⟨g, cap, rfl, hn, hb, (hlt g rfl).2, by simpa using hc, World.ownsRow.frozenAt (w := w) (by simpa [Own] using h) _, fun x => ?_⟩
    have k := (World.ownsRow.stored (w := w) (by simpa [Own] using h) (m.length * 2 + 1) (.int .i64 x)).1
    rw [cells2_last] at k
    show World.ownsRow _ _ _ 2 _ (m ++ [(q.1, x)]).length _
    rw [List.length_append]
    exact k

set_option maxHeartbeats 800000 in
theorem specCoreJoin_any {w : World} {v : Value} {l : List Pc} (h : Row w v l) :
    Calls Try.prog 28 #[v] w fun e w' => LstB w (joinOf l) e w' := by
  have CV := Lib.hid (specCoreValid_any (h.grow ((Below.refl _ _).alloc (Nat.le_refl _) (.cells #[] 27))))
  have O := Lib.hid (own_new (w := w) (B := w.heap.size) (Nat.le_refl _))
  have B0 := Lib.hid ((Below.refl w.heap.size w).alloc (Nat.le_refl _) (.cells #[] 27))
  obtain ⟨a, n, c, rfl, hl, h1, h2, hlie⟩ := h
  have hm : n ≤ maxLen := by omega
  unfold maxLen at hm
  cases hv : isCore l
  · have cv := CV.out
    rw [hv] at cv
    have CV2 := Lib.hid cv
    have RES : Hid (joinOf l = none) := Lib.hid (if_neg (by rw [hv]; simp))
    clear cv hv
    go_enter Try.func28, Try.ntmps28
    go_wp2_with fail
    refine CV2.out.mono ?_
    rintro e w1 ⟨rfl, hb⟩
    have B1 := Lib.hid hb
    clear hb
    go_wp2_with fail
    go_ret2
    rw [RES.out]
    exact ⟨_, rfl, O.out.grow B1.out, B0.out.trans (B1.out.mono (by simp))⟩
  have cv := CV.out
  rw [hv] at cv
  have CV2 := Lib.hid cv
  have RES : Hid (joinOf l = some (join l)) := Lib.hid (if_pos hv)
  have hn20 : n ≤ 20 := by have := isCore_iff.1 hv; omega
  clear cv hv
  go_enter Try.func28, Try.ntmps28
  go_wp2_with fail
  refine CV2.out.mono ?_
  rintro e w1 ⟨rfl, hb⟩
  have B1 := Lib.hid hb
  clear hb
  go_wp2_with fail
  go_loopg [4, 5] n (fun k x y wr => ∃ (j : Nat) (m : List Pc), y = .int .i64 j ∧ j + k = n ∧ m.length ≤ j ∧ JoinTo l j m ∧ Own wr w.heap.size x m ∧ Below w.heap.size w wr)
  case atStart => exact ⟨0, [], rfl, by omega, Nat.zero_le _, .inl ⟨rfl, rfl⟩, O.out.grow B1.out, B0.out.trans (B1.out.mono (by simp))⟩
  case round =>
    obtain ⟨j, m, rfl, hk, hml, hj, ho, hb⟩ := hrel
    have K := Lib.hid hk; have J := Lib.hid hj; have OW := Lib.hid ho; have B2 := Lib.hid hb
    have hjn : j ≤ n := by omega
    have hw2 : w.heap.size ≤ wr.heap.size := hb.size
    clear hk hj ho hb
    by_cases hlt : j < n
    rotate_left
    · go_wp2_with fail
      go_ret2
      refine ⟨u4, by rw [RES.out]; rfl, ?_, B2.out⟩
      rw [RES.out]
      have e : j = l.length := by omega
      have := J.out
      rw [e] at this
      rw [this.done]
      exact OW.out
    obtain ⟨g, o, rfl, c1, c2⟩ := lies_cell hlie j (by omega)
    have C1 := Lib.hid c1; have C2 := Lib.hid c2
    have d1 := (B2.out.cell (cell_below c1)).trans c1
    have d2 := (B2.out.cell (cell_below c2)).trans c2
    have hgw : g < w.heap.size := cell_below c1
    have HLIE := Lib.hid hlie
    obtain ⟨n1, n2⟩ := new_two wr.drew (.int .i64 l[j].1) (.int .i64 l[j].2) 27
    clear hlie c1 c2
    cases j with
    | zero =>
      simp only [Nat.zero_mul, Nat.add_zero] at d1 d2
      have D1 := Lib.hid d1; have D2 := Lib.hid d2
      have hd0 : decide ((0 : Int) < 0) = false := by decide
      clear n1 n2
      go_wp2_with fail
      go_quiet (fail)
      have BD := Lib.hid (below_drewN (Below.refl wr.heap.size wr) nq)
      have e1 := (BD.out.cell (cell_below D1.out)).trans D1.out
      have e2 := (BD.out.cell (cell_below D2.out)).trans D2.out
      have OW2 := Lib.hid (OW.out.grow BD.out)
      have B3 := Lib.hid (below_drewN B2.out nq)
      have hw3 : w.heap.size ≤ (wr.drewN nq).heap.size := hw2
      clear d1 d2
      generalize wr.drewN nq = w3 at e1 e2 OW2 B3 hw3 ⊢
      obtain ⟨n1, n2⟩ := new_two w3 (.int .i64 l[0].1) (.int .i64 l[0].2) 27
      have A4 := Lib.hid n1; have A5 := Lib.hid n2
      clear n1 n2
      have hm0 : Hid (m = []) := Lib.hid (List.eq_nil_of_length_eq_zero (by omega))
      go_wp2_with (at_builtin; refine append_piece rfl _ _ rfl (B := w.heap.size) _ m rfl (OW2.out.grow ((Below.refl _ _).alloc (Nat.le_refl _) _)) ⟨w3.heap.size, 0, none⟩ l[0] rfl A4.out A5.out (by omega) (by simp; omega) ?_; intro v' w4 hown' hg)
      have OW3 := Lib.hid hown'
      have B4 := Lib.hid ((B3.out.alloc hw3 _).trans ((OW2.out.grow ((Below.refl _ _).alloc (Nat.le_refl _) _)).below hg (by simp; omega)))
      clear hown' hg
      go_roundg (gk - 1)
      case measure => have := K.out; omega
      case rel => exact ⟨1, m ++ [l[0]], rfl, by have := K.out; omega, by rw [hm0.out]; simp, by rw [hm0.out]; exact JoinTo.first (by omega), OW3.out, B4.out⟩
    | succ i =>
      obtain ⟨g', o', e, c3, c4⟩ := lies_cell HLIE.out i (by omega)
      simp only [Option.some.injEq, Addr.mk.injEq, and_true] at e
      obtain ⟨rfl, rfl⟩ := e
      have d4 := (B2.out.cell (cell_below c4)).trans c4
      have D1 := Lib.hid d1; have D2 := Lib.hid d2
      have s1 : IntKind.i64.wrap ((i : Int) + 1 - 1) = (i : Int) := by rw [show (i : Int) + 1 - 1 = i by omega]; exact IntWalk.i64_in _ (by omega)
      have s2 : IntKind.i64.wrap (i : Int) = (i : Int) := IntWalk.i64_in _ (by omega)
      have s3 : (0 : Int) ≤ (i : Int) := Int.natCast_nonneg _
      have s4 : (i : Int) < (n : Int) := by omega
      have s5 : (0 : Int) ≤ (i : Int) + 1 := by omega
      have s6 : (i : Int) + 1 < (n : Int) := by omega
      have s7 : ((i : Int) + 1).toNat = i + 1 := by omega
      have s8 : decide ((0 : Int) < (i : Int) + 1) = true := by rw [decide_eq_true_eq]; omega
      obtain ⟨m0, q, hmq⟩ := J.out.last (by omega)
      subst hmq
      obtain ⟨gg, cap, hu, hcap, hgb, hgl, hcell, hfrz, hset⟩ := OW.out.last
      subst hu
      simp only [List.length_append, List.length_cons, List.length_nil] at hml
      clear n1 n2 c3 c4
      by_cases ht : l[i].2 = l[i + 1].1
      · have hb : (l[i].2 == l[i + 1].1) = true := by simpa using ht
        have HT := Lib.hid ht
        have SET := Lib.hid (hset l[i + 1].2)
        have HF := Lib.hid hfrz; have HCE := Lib.hid hcell
        clear ht hset hfrz hcell
        go_wp2_with fail
        go_quiet (fail)
        have e2 : (wr.drewN nq).cell? ⟨g, o + (i + 1) * 2 + 1, none⟩ = some (.int .i64 l[i + 1].2) := D2.out
        have e5 : (wr.drewN nq).cell? ⟨gg, m0.length * 2 + 1, none⟩ = some (.int .i64 q.2) := HCE.out
        have e6 : (wr.drewN nq).frozen? ⟨gg, m0.length * 2 + 1, none⟩ = false := HF.out
        have SET2 : Hid (Own ((wr.drewN nq).setCell ⟨gg, m0.length * 2 + 1, none⟩ (.int .i64 l[i + 1].2)) w.heap.size (.slice (some ⟨gg, 0, none⟩) (m0.length + 1) cap) (m0 ++ [(q.1, l[i + 1].2)])) := Lib.hid (Own.same SET.out fun _ _ => rfl)
        have B3 := Lib.hid (below_drewN B2.out nq)
        clear d1 d2 d4
        generalize wr.drewN nq = w3 at e2 e5 e6 SET2 B3 ⊢
        have t1 : IntKind.i64.wrap ((m0.length : Int) + 1 - 1) = (m0.length : Int) := by rw [show (m0.length : Int) + 1 - 1 = m0.length by omega]; exact IntWalk.i64_in _ (by omega)
        have t2 : IntKind.i64.wrap (m0.length : Int) = (m0.length : Int) := IntWalk.i64_in _ (by omega)
        have t3 : (0 : Int) ≤ (m0.length : Int) := Int.natCast_nonneg _
        go_wp2_with fail
        go_roundg (gk - 1)
        case measure => have := K.out; omega
        case rel => exact ⟨i + 2, m0 ++ [(q.1, l[i + 1].2)], by go_num, by have := K.out; omega, by simp; omega, J.out.touch (by omega) HT.out, SET2.out, B3.out.setCell hgb _⟩
      · have hb : (l[i].2 == l[i + 1].1) = false := by simpa using ht
        have HT := Lib.hid ht
        clear ht hset hfrz hcell
        go_wp2_with fail
        go_quiet (fail)
        have e1 : (wr.drewN nq).cell? ⟨g, o + (i + 1) * 2, none⟩ = some (.int .i64 l[i + 1].1) := D1.out
        have e2 : (wr.drewN nq).cell? ⟨g, o + (i + 1) * 2 + 1, none⟩ = some (.int .i64 l[i + 1].2) := D2.out
        have OW2 := Lib.hid (OW.out.grow (below_drewN (Below.refl wr.heap.size wr) nq))
        have B3 := Lib.hid (below_drewN B2.out nq)
        have hw3 : w.heap.size ≤ (wr.drewN nq).heap.size := hw2
        clear d1 d2 d4
        generalize wr.drewN nq = w3 at e1 e2 OW2 B3 hw3 ⊢
        obtain ⟨n1, n2⟩ := new_two w3 (.int .i64 l[i + 1].1) (.int .i64 l[i + 1].2) 27
        have A4 := Lib.hid n1; have A5 := Lib.hid n2
        clear n1 n2
        go_wp2_with (at_builtin; refine append_piece rfl _ _ rfl (B := w.heap.size) _ (m0 ++ [q]) rfl (OW2.out.grow ((Below.refl _ _).alloc (Nat.le_refl _) _)) ⟨w3.heap.size, 0, none⟩ l[i + 1] rfl A4.out A5.out (by simp; omega) (by simp; omega) ?_; intro v' w4 hown' hg)
        have OW3 := Lib.hid hown'
        have B4 := Lib.hid ((B3.out.alloc hw3 _).trans ((OW2.out.grow ((Below.refl _ _).alloc (Nat.le_refl _) _)).below hg (by simp; omega)))
        clear hown' hg
        go_roundg (gk - 1)
        case measure => have := K.out; omega
        case rel => exact ⟨i + 2, m0 ++ [q] ++ [l[i + 1]], by go_num, by have := K.out; omega, by simp; omega, J.out.apart (by omega) HT.out, OW3.out, B4.out⟩
end Go.Proofs.Ytdljfikgmhdedaa
