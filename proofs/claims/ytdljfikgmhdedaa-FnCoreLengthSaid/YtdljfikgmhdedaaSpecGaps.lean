/- The contract of the model's CoreGaps. -/
import Derived.Test.YtdljfikgmhdedaaSpec
namespace Go.Proofs.Ytdljfikgmhdedaa
open Go.RowKit

theorem own_push {w3 : World} {B gg cap : Nat} {m : List Pc} {x y : Int}
    (h : w3.ownsRow B 27 2 (.slice (some ⟨gg, 0, none⟩) (m.length + 1) cap) (m.length + 1) (cells2 m ++ [.int .i64 x, .int .i64 y])) :
    Own w3 B (.slice (some ⟨gg, 0, none⟩) (m.length + 1) cap) (m ++ [(x, y)]) := by
  show w3.ownsRow _ _ 2 _ (m ++ [(x, y)]).length (cells2 (m ++ [(x, y)]))
  rw [cells2_append, List.length_append]
  exact h
theorem gaps_short {l : List Pc} (h : l.length ≤ 1) : gaps l = [] := by
  match l, h with
  | [], _ => rfl
  | [p], _ => rfl
theorem gaps_one {l : List Pc} (h : 0 < l.length) : gaps l = gp l[0].2 (l.drop 1) := by
  cases l with
  | nil => simp at h
  | cons p r => rfl
theorem gp_at {l : List Pc} {i : Nat} (h : i + 1 < l.length) : gp l[i].2 (l.drop (i + 1)) = (if l[i].2 < l[i + 1].1 then [(l[i].2, l[i + 1].1)] else []) ++ gp l[i + 1].2 (l.drop (i + 2)) := by
  rw [List.drop_eq_getElem_cons h]
  simp only [gp]
  split <;> rfl
/-- After the pieces up to number i (and 1). -/
def GapsTo (l : List Pc) (i : Nat) (m : List Pc) : Prop := ∃ (h : i < l.length), gaps l = m ++ gp l[i].2 (l.drop (i + 1))
theorem GapsTo.yes {l : List Pc} {i : Nat} {m : List Pc} (h : GapsTo l i m) (hi : i + 1 < l.length) (hg : l[i].2 < l[i + 1].1) : GapsTo l (i + 1) (m ++ [(l[i].2, l[i + 1].1)]) := by
  obtain ⟨h0, h1⟩ := h
  exact ⟨hi, by rw [h1, gp_at hi, if_pos hg]; simp⟩
theorem GapsTo.no {l : List Pc} {i : Nat} {m : List Pc} (h : GapsTo l i m) (hi : i + 1 < l.length) (hg : ¬ l[i].2 < l[i + 1].1) : GapsTo l (i + 1) m := by
  obtain ⟨h0, h1⟩ := h
  exact ⟨hi, by rw [h1, gp_at hi, if_neg hg]; simp⟩
theorem GapsTo.done {l : List Pc} {i : Nat} {m : List Pc} (h : GapsTo l i m) (hi : ¬ i + 1 < l.length) : gaps l = m := by
  obtain ⟨h0, h1⟩ := h
  rw [h1, List.drop_of_length_le (by omega)]; simp [gp]

set_option maxHeartbeats 800000 in
theorem specCoreGaps_any {w : World} {v : Value} {l : List Pc} (h : Row w v l) :
    Calls Try.prog 23 #[v] w fun e w' => Lst w (gapsOf l) e w' := by
  have R := Lib.hid (h.grow ((Below.refl _ _).alloc (Nat.le_refl _) (.cells #[] 27)))
  have R0 := Lib.hid h
  have O := Lib.hid (own_new (w := w) (B := w.heap.size) (Nat.le_refl _))
  have B0 := Lib.hid ((Below.refl w.heap.size w).alloc (Nat.le_refl _) (.cells #[] 27))
  obtain ⟨a, n, c, rfl, hl, h1, h2, hlie⟩ := h
  have hm : n ≤ maxLen := by omega
  unfold maxLen at hm
  by_cases hn : n ≤ 1
  · have RES : Hid (gapsOf l = []) := Lib.hid (by unfold gapsOf; split; exact gaps_short (by omega); rfl)
    go_enter Try.func23, Try.ntmps23
    go_wp2_with fail
    go_loopg [3, 4] 0 (fun k x y wr => x = .slice (some ⟨w.heap.size, 0, none⟩) 0 0 ∧ y = .int .i64 1 ∧ w.alloc (.cells #[] 27) = wr)
    case atStart => exact ⟨rfl, rfl, rfl⟩
    case round =>
      obtain ⟨rfl, rfl, rfl⟩ := hrel
      go_wp2_with fail
      go_ret
      exact ⟨_, rfl, by rw [RES.out]; exact O.out, B0.out⟩
  cases hv : isCore l
  · have HV := Lib.hid hv
    have RES : Hid (gapsOf l = []) := Lib.hid (if_neg (by rw [hv]; simp))
    clear hv
    go_enter Try.func23, Try.ntmps23
    go_wp2_with fail
    go_loopg [3, 4] 0 (fun k x y wr => x = .slice (some ⟨w.heap.size, 0, none⟩) 0 0 ∧ y = .int .i64 1 ∧ w.alloc (.cells #[] 27) = wr)
    case atStart => exact ⟨rfl, rfl, rfl⟩
    case round =>
      obtain ⟨rfl, rfl, rfl⟩ := hrel
      have cv := specCoreValid_any R.out
      rw [HV.out] at cv
      have CV2 := Lib.hid cv
      clear cv
      go_wp2_with fail
      refine CV2.out.mono ?_
      rintro e w1 ⟨rfl, hb⟩
      have B1 := Lib.hid hb
      clear hb
      go_wp2_with fail
      go_ret
      exact ⟨_, rfl, by rw [RES.out]; exact O.out.grow B1.out, B0.out.trans (B1.out.mono (by simp))⟩
  · have HV := Lib.hid hv
    have RES : Hid (gapsOf l = gaps l) := Lib.hid (if_pos hv)
    have hn20 : n ≤ 20 := by have := isCore_iff.1 hv; omega
    clear hv
    go_enter Try.func23, Try.ntmps23
    go_wp2_with fail
    go_loopg [3, 4] n (fun k x y wr => ∃ (i : Nat) (m : List Pc), y = .int .i64 ((i : Int) + 1) ∧ i + k = n ∧ m.length ≤ i ∧ GapsTo l i m ∧ Own wr w.heap.size x m ∧ Below w.heap.size w wr)
    case atStart => exact ⟨0, [], rfl, by omega, Nat.zero_le _, ⟨by omega, by rw [gaps_one (by omega)]; rfl⟩, O.out, B0.out⟩
    case round =>
      obtain ⟨i, m, rfl, hk, hml, hg, ho, hb⟩ := hrel
      have K := Lib.hid hk; have G := Lib.hid hg; have OW := Lib.hid ho; have B1 := Lib.hid hb
      have hin : i < n := by obtain ⟨h, _⟩ := hg; omega
      have cv := specCoreValid_any (R0.out.grow hb)
      rw [HV.out] at cv
      have CV2 := Lib.hid cv
      clear cv hk hg ho hb
      by_cases hlt : i + 1 < n
      · obtain ⟨g, o, rfl, c1, c2⟩ := lies_cell hlie i (by omega)
        obtain ⟨g', o', e, c3, c4⟩ := lies_cell hlie (i + 1) (by omega)
        simp only [Option.some.injEq, Addr.mk.injEq, and_true] at e
        obtain ⟨rfl, rfl⟩ := e
        have HL := Lib.hid hlie
        have C2 := Lib.hid c2; have C3 := Lib.hid c3
        have hgw : g < w.heap.size := cell_below c2
        clear hlie c1 c2 c3 c4
        have s1 : IntKind.i64.wrap ((i : Int) + 1 - 1) = (i : Int) := by rw [show (i : Int) + 1 - 1 = i by omega]; exact IntWalk.i64_in _ (by omega)
        have s2 : IntKind.i64.wrap (i : Int) = (i : Int) := IntWalk.i64_in _ (by omega)
        have s3 : (0 : Int) ≤ (i : Int) := Int.natCast_nonneg _
        have s4 : (i : Int) < (n : Int) := by omega
        have s5 : (0 : Int) ≤ (i : Int) + 1 := by omega
        have s6 : (i : Int) + 1 < (n : Int) := by omega
        have s7 : ((i : Int) + 1).toNat = i + 1 := by omega
        go_wp2_with fail
        refine CV2.out.mono ?_
        rintro e w1 ⟨rfl, hb⟩
        have B2 := Lib.hid (B1.out.trans (hb.mono B1.out.size))
        have OW2 := Lib.hid (OW.out.grow hb)
        have d2 := (B2.out.cell (cell_below C2.out)).trans C2.out
        have d3 := (B2.out.cell (cell_below C3.out)).trans C3.out
        clear hb
        by_cases hgap : l[i].2 < l[i + 1].1
        · go_wp2_with fail
          go_quiet (fail)
          go_wp2_with fail
          have b3 := below_drewN (Below.refl w1.heap.size w1) nq
          have B3 := B2.out.trans (b3.mono B2.out.size)
          have hown := OW2.out.grow b3
          have e2 := (b3.cell (cell_below d2)).trans d2
          have e3 := (b3.cell (cell_below d3)).trans d3
          clear b3 d2 d3
          generalize w1.drewN nq = w3 at B3 hown e2 e3 ⊢
          obtain ⟨i0, hi0, hz0, hz1, hz2⟩ := info_parts info_piece
          have BH := Lib.hid B3; have OW3 := Lib.hid hown
          have hml2 : m.length ≤ 20 := by omega
          have hw2 : w.heap.size ≤ w3.heap.size := B3.size
          have hgl : g < w3.heap.size := by omega
          have hnb : u3.ownBlock ≠ some g := fun e => by have := (hown.lt g e).1; omega
          clear B3 hown
          go_region_held3 (fun w' => w'.cell? ⟨g, o + i * 2 + 1, none⟩ = some (.int .i64 l[i].2) ∧ w'.cell? ⟨g, o + (i + 1) * 2, none⟩ = some (.int .i64 l[i + 1].1))
            (first
              | go_keep
              | (go_split_ands
                 refine ⟨?_, ?_⟩
                 · (rw [hgrow.cell_far _ (by simp; omega) (Ne.symm hnb)]; assumption)
                 · (rw [hgrow.cell_far _ (by simp; omega) (Ne.symm hnb)]; assumption)))
            ((refine step_append_lies _ (by rfl) _ _ _ (by rfl) w.heap.size 27 i0 (.agg #[.int .i64 0, .int .i64 0]) 2 16 Try.underlying23 hi0 hz0 hz1 hz2 rfl (by omega) u3 m.length (cells2 m) (by rfl) ((OW3.out.alloc _).drew)
                ⟨w3.heap.size, 0, none⟩ 1 1 [.int .i64 l[i].2, .int .i64 l[i + 1].1] (by rfl) (by rfl) (World.news_of_block (cs := #[.int .i64 l[i].2, .int .i64 l[i + 1].1]) (t := 27) (fr := (0, 0)) (heap_alloc_new w3 _)) (by simp [Value.oneCell'])
                (by omega) (by unfold maxLen; omega) (by omega) (by simp; omega) (w3.heap.size + 1) (by simp) ?_; intro gg cap w4 hown1 hgrow hat hlt4))
          have OW5 := Lib.hid (own_push hown1)
          have B5 := Lib.hid ((BH.out.alloc hw2 _).drew.grown hgrow (by simp; omega) (fun k hk => (OW3.out.lt k hk).1))
          clear hown1 hgrow hat
          go_wp2_with fail
          go_roundg (gk - 1)
          case measure => have := K.out; omega
          case rel => exact ⟨i + 1, m ++ [(l[i].2, l[i + 1].1)], by go_num, by have := K.out; omega, by simp; omega, G.out.yes (by omega) hgap, OW5.out, B5.out⟩
        · go_wp2_with fail
          go_quiet (fail)
          go_wp2_with fail
          go_roundg (gk - 1)
          case measure => have := K.out; omega
          case rel => exact ⟨i + 1, m, by go_num, by have := K.out; omega, by omega, G.out.no (by omega) (by first | exact hgap | exact Int.not_lt.2 hgap), OW2.out.grow (below_drewN (Below.refl _ _) _), below_drewN B2.out _⟩
      · go_wp2_with fail
        go_ret
        exact ⟨_, rfl, by rw [RES.out, G.out.done (by omega)]; exact OW.out, B1.out⟩
end Go.Proofs.Ytdljfikgmhdedaa
