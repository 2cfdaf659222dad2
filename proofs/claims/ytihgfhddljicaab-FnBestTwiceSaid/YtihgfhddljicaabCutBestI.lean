/- The program's best cuts. -/
import Derived.Test.YtihgfhddljicaabCutTab2
namespace Go.Proofs.Ytihgfhddljicaab
open Go.RowKit

theorem listB_at {w w1 : World} {o : Option (List Int)} {k : Nat} (h : o = none) (hk : w1.heap.size = k) (B : Below w.heap.size w w1) :
    ListB w o (.returned (.tuple #[.slice (some ⟨k, 0, none⟩) 0 0, .bool false])) (w1.alloc (.cells #[] 3)) := by
  subst hk; exact listB_no h B
set_option maxRecDepth 100000 in
set_option maxHeartbeats 3200000 in
theorem implCutsBest_any {w : World} {v : Value} {c : List Int} (lo mo : Int) (h : IRow w v c) :
    Calls Try.prog 13 #[v, .int .i64 lo, .int .i64 mo] w fun e w' => ListB w (bestB c lo mo) e w' := by
  obtain ⟨ao, cp, rfl, k1, k2⟩ := h.len
  have B0 : Hid (Below w.heap.size w ((w.alloc (.cells #[.slice ao c.length cp] 23)).alloc (.cells #[.int .i64 lo, .int .i64 mo] 47))) := Lib.hid (by go_grown)
  have H := Lib.hid (h.grow B0.out)
  have hz2 : ((w.alloc (.cells #[.slice ao c.length cp] 23)).alloc (.cells #[.int .i64 lo, .int .i64 mo] 47)).heap.size = w.heap.size + 1 + 1 := by simp
  have hsz0 : w.heap.size ≤ ((w.alloc (.cells #[.slice ao c.length cp] 23)).alloc (.cells #[.int .i64 lo, .int .i64 mo] 47)).heap.size := B0.out.size
  cases hs : isSig c
  · have HS := Lib.hid hs
    have R := Lib.hid (bestB_no (lo := lo) (mo := mo) (.inl hs))
    clear hs h
    go_enter Try.func13, Try.ntmps13
    go_wp2_with fail
    refine (sigI_is H.out HS.out).mono ?_
    rintro e w1 ⟨rfl, rfl⟩
    go_wp2_with fail
    go_ret2
    exact listB_at R.out hz2 B0.out
  have HS := Lib.hid hs
  obtain ⟨s1, s2, s3⟩ := isSig_iff.1 hs
  obtain ⟨n, hn⟩ : ∃ n, c.length = n := ⟨_, rfl⟩
  have HN := Lib.hid hn
  obtain ⟨g, o, cp', e', _, _⟩ := h.known (by omega)
  simp only [Value.slice.injEq, true_and] at e'
  obtain ⟨rfl, rfl⟩ := e'
  unfold maxLen at k2
  rw [hn] at s1 s2 k1 H B0 hsz0 ⊢
  clear h hs hn s3 hz2
  have c0 : ((w.alloc (.cells #[.slice (some ⟨g, o, none⟩) n cp] 23)).alloc (.cells #[.int .i64 lo, .int .i64 mo] 47)).cell? ⟨w.heap.size, 0, none⟩ = some (.slice (some ⟨g, o, none⟩) n cp) := by go_cell
  have c1 : ((w.alloc (.cells #[.slice (some ⟨g, o, none⟩) n cp] 23)).alloc (.cells #[.int .i64 lo, .int .i64 mo] 47)).cell? ⟨w.heap.size + 1, 0, none⟩ = some (.int .i64 lo) := by go_cell
  have c2 : ((w.alloc (.cells #[.slice (some ⟨g, o, none⟩) n cp] 23)).alloc (.cells #[.int .i64 lo, .int .i64 mo] 47)).cell? ⟨w.heap.size + 1, 1, none⟩ = some (.int .i64 mo) := by go_cell
  cases hm : isLim lo mo
  · have HM := Lib.hid hm
    have R := Lib.hid (bestB_no (c := c) (.inr hm))
    clear hm c0 c1 c2
    go_enter Try.func13, Try.ntmps13
    go_wp2_with fail
    refine (sigI_is H.out HS.out).mono ?_
    rintro e w1 ⟨rfl, rfl⟩
    go_wp2_with fail
    refine (limI_is HM.out _).mono ?_
    rintro e w2 ⟨rfl, b2⟩
    have B2 := Lib.hid (B0.out.trans (b2.mono hsz0))
    clear b2
    go_wp2_with fail
    go_ret2
    exact listB_no R.out B2.out
  have HM := Lib.hid hm
  obtain ⟨a, b, rfl, rfl, h1, h2, h3⟩ := lim_nat hm
  have C0 := Lib.hid c0; have C1 := Lib.hid c1; have C2 := Lib.hid c2
  clear hm c0 c1 c2
  go_enter Try.func13, Try.ntmps13
  go_wp2_with fail
  refine (sigI_is H.out HS.out).mono ?_
  rintro e w1 ⟨rfl, rfl⟩
  go_wp2_with fail
  refine (limI_is HM.out _).mono ?_
  rintro e w2 ⟨rfl, b2⟩
  have B2 := Lib.hid (B0.out.trans (b2.mono hsz0))
  have H2 := Lib.hid (H.out.grow b2)
  obtain ⟨d0, d1, d2⟩ := held3 b2 C0.out C1.out C2.out
  have D0 := Lib.hid d0
  clear b2 H C0 C1 C2 B0 hsz0
  go_wp2_with fail
  refine (tailsCut_any D0.out H2.out HN.out HS.out h1 h2 h3).mono ?_
  rintro e w3 ⟨t, L, rfl, ht, b3, tb, bl⟩
  have B3 := Lib.hid (B2.out.trans (bl.mono B2.out.size))
  have e0 := (bl.cell (cell_below d0)).trans d0
  have T := Lib.hid tb; have I := Lib.hid b3
  have E0 := Lib.hid e0
  have tz := (b3.cells 0 (by rw [tb.len]; omega)).1
  rw [tb.done 0 (by rw [tb.len]; omega) (Nat.zero_le 0)] at tz
  have i0 : (0 : Int) < ((n + 1 : Nat) : Int) := by omega
  have i0' : (0 : Int) < (n : Int) + 1 := by omega
  clear d0 d1 d2 D0 H2 B2 b3 tb bl e0
  simp only [Nat.zero_mul] at tz
  have hF : (bestF a b c 0).1 = (best a b c).isSome := by unfold bestF; rw [vEnt_allowed, List.drop_zero]
  rw [hF] at tz
  clear hF
  cases hb0 : best a b c with
  | none =>
    have R := Lib.hid (bestB_eq HS.out h1 h2 h3 hb0)
    rw [hb0] at tz
    simp only [Option.isSome_none] at tz
    clear hb0
    go_wp2_with fail
    go_ret2
    exact listB_no R.out B3.out
  | some p0 =>
    have R := Lib.hid (bestB_eq HS.out h1 h2 h3 hb0)
    have HB : Hid (best a b (c.drop 0) = some p0) := Lib.hid (by rw [List.drop_zero]; exact hb0)
    rw [hb0] at tz
    simp only [Option.isSome_some] at tz
    clear hb0
    have O0 := Lib.hid (iown_new (Nat.le_refl w3.heap.size))
    have BA := Lib.hid ((Below.refl w3.heap.size w3).alloc (Nat.le_refl _) (.cells #[] 3))
    go_wp2_with fail
    go_loopg [10, 11] n (fun j y x wr => ∃ (k : Nat) (l : List Int), x = .int .i64 k ∧ k + j = n ∧ (∃ p, best a b (c.drop k) = some p) ∧ IOwn wr w3.heap.size y l ∧ l.length ≤ k ∧ l ++ tl a b (c.drop k) k = tl a b c 0 ∧ Below w3.heap.size w3 wr)
    case atStart => exact ⟨0, [], rfl, by omega, ⟨_, HB.out⟩, O0.out, by simp, by simp, BA.out⟩
    case round =>
      obtain ⟨k, l, rfl, hk, ⟨p, hp⟩, ho, hl, htl, hbl⟩ := hrel
      have K := Lib.hid hk; have O := Lib.hid ho; have BB := Lib.hid hbl; have P := Lib.hid hp; have TL := Lib.hid htl
      have hsz := hbl.size
      have hkn : k ≤ n := by omega
      have x0 := (hbl.cell (cell_below E0.out)).trans E0.out
      clear hk ho hbl hp htl O0 BA tz
      by_cases hlt : k < n
      · have i2 : (k : Int) < (n : Int) := by omega
        have i3 : (k : Int) < (n : Int) + 1 := by omega
        have i4 : (0 : Int) ≤ (k : Int) := by omega
        have i5 : (k : Int) < ((n + 1 : Nat) : Int) := by omega
        obtain ⟨z1, z2, z3, ⟨r, hr, hr2⟩, _⟩ := best_some h1 (show 0 < (c.drop k).length by rw [List.length_drop, HN.out]; omega) P.out
        rw [List.length_drop, HN.out] at z3
        rw [List.drop_drop] at hr
        have tk := (I.out.cells k (by rw [T.out.len]; omega)).2.1
        rw [T.out.done k (by rw [T.out.len]; omega) (Nat.zero_le k)] at tk
        have hf : (bestF a b c k).2.1 = ((k + p.1 - 1 : Nat) : Int) := by unfold bestF; rw [P.out, vEnt_first k (by omega)]
        rw [hf] at tk
        have TN := Lib.hid (tl_cons (k := k) h1 (show 0 < (c.drop k).length by rw [List.length_drop, HN.out]; omega) P.out)
        rw [List.drop_drop] at TN
        obtain ⟨q, hq⟩ : ∃ q : Nat, k + p.1 = q + 1 := ⟨k + p.1 - 1, by omega⟩
        rw [hq] at hr TN tk
        rw [Nat.add_sub_cancel] at tk TN
        have P2 := Lib.hid hr
        have tq := (BB.out.cell (cell_below tk)).trans tk
        have TL2 : Hid ((l ++ [(q : Int)]) ++ tl a b (c.drop (q + 1)) (q + 1) = tl a b c 0) := Lib.hid (by
          rw [← TL.out, TN.out, List.append_assoc]; rfl)
        have u1 : IntKind.i64.wrap ((q : Int) + 1) = ((q + 1 : Nat) : Int) := by rw [show (q : Int) + 1 = ((q + 1 : Nat) : Int) by omega]; exact IntWalk.i64_in _ (by omega)
        have n1 := new_one wr (.int .i64 (q : Int)) 3
        have N1 := Lib.hid n1
        have BW := Lib.hid ((Below.refl wr.heap.size wr).alloc (Nat.le_refl _) (.cells #[.int .i64 (q : Int)] 3))
        have TQ := Lib.hid tk
        have HQ := Lib.hid hq
        have Z1 := Lib.hid z1; have Z3 := Lib.hid z3
        clear n1 hr hr2 hf tk hq
        go_wp2_with (at_builtin; refine iappend_one intT rfl _ _ rfl (B := w3.heap.size) _ _ rfl (O.out.grow BW.out) ⟨wr.heap.size, 0, none⟩ (q : Int) rfl N1.out (by omega) (by simp; omega) ?_; intro v8 w8 hown8 hg8; have O8 := Lib.hid hown8; have B8 := Lib.hid (BB.out.trans ((BW.out.mono hsz).trans ((O.out.grow BW.out).below hg8 (by simp; omega)))); have t8 := (B8.out.cell (cell_below TQ.out)).trans TQ.out; clear hown8 hg8)
        go_wp2_with fail
        go_roundg (n - (q + 1))
        case measure => have := K.out; have := HQ.out; have := Z1.out; omega
        case rel => exact ⟨q + 1, _, by first | rfl | (rw [u1]), by have := HQ.out; have := Z3.out; omega, ⟨_, P2.out⟩, O8.out, by simp; have := HQ.out; have := Z1.out; omega, TL2.out, B8.out⟩
      · have hkk : k = n := by omega
        subst hkk
        have TT := TL.out
        rw [← HN.out, List.drop_length, tl_nil, List.append_nil] at TT
        have E := Lib.hid TT
        have O8 := Lib.hid (O.out.mono (show w.heap.size ≤ w3.heap.size from B3.out.size))
        clear TT hlt
        go_wp2_with fail
        go_ret2
        rw [R.out]
        refine ⟨_, rfl, ?_, B3.out.trans (BB.out.mono B3.out.size)⟩
        have := O8.out
        rw [E.out] at this
        exact this
theorem bestI_is {w : World} {v : Value} {c : List Int} {lo mo : Int} {x : Option (List Int)} (h : IRow w v c) (hx : bestB c lo mo = x) : Calls Try.prog 13 #[v, .int .i64 lo, .int .i64 mo] w fun e w' => ListB w x e w' := by
  have := implCutsBest_any lo mo h
  rwa [hx] at this
end Go.Proofs.Ytihgfhddljicaab
