/- The program's maps of ties: their keys in order, ties as a map, a tie more, the ties of a map. -/
import Derived.Test.YthhdpjkmjebjhabShelf
import Derived.Test.YthhdpjkmjebjhabTieSort
import Derived.Test.YthhdpjkmjebjhabGrwP
import Derived.Test.YthhdpjkmjebjhabTieAsc
import Derived.Test.YthhdpjkmjebjhabInts
namespace Go.Proofs.Ythhdpjkmjebjhab
open Go.RowKit Go.Maps Go.Sort Go.Shelf

theorem tieMapT : IntMap Try.prog 62 3 := ⟨Try.underlying3, Try.underlying62, Try.zeroValue3⟩
abbrev IMt (w : World) (b n : Nat) (G : Int → Int → Prop) : Prop := IM Try.prog 3 w b n G
theorem made_tieMap (w : World) : (Instr.makeMap 62 none).run Try.prog w = .ok (.map (some w.heap.size)) (w.alloc (.map #[] 0)) := rfl
/-- A new block with the map: what maps.Keys gives goes over it. -/
theorem keysI_any (mb : Option Nat) (w : World) : Calls Try.prog 59 #[.map mb] w fun e w' =>
    e = .returned (.func (.func 79) #[] #[.pointer (some ⟨w.heap.size, 0, none⟩)]) ∧ w' = w.alloc (.cells #[.map mb] 62) :=
  callsIn_wide.1 (AnyZI.keys_in Try.keys Fence.wide 6 trivial rfl mb w)
theorem sortsI (m : Nat) : AnyZI.SortsIn Try.prog Try.sorted_ren Fence.wide m :=
  ⟨fun blk off cap ss W hH hblk hsz => callsIn_wide.2 (AnyM.slices_Sort_int Try.sort blk off cap ss W hH hblk hsz),
   fun p cap W => callsIn_wide.2 (AnyM.slices_Sort_int_none Try.sort p cap W)⟩
set_option maxHeartbeats 1000000 in
theorem sortedKeys_any {w : World} {b n p : Nat} {G : Int → Int → Prop} (hp : p < w.heap.size) (hc : w.cell? ⟨p, 0, none⟩ = some (.map (some b))) (h : IMt w b n G) (hn : n ≤ 1000) :
    Calls Try.prog 58 #[.func (.func 79) #[] #[.pointer (some ⟨p, 0, none⟩)]] w fun e w' =>
      ∃ v ks, e = .returned v ∧ IOwn w' w.heap.size v ks ∧ ks.Pairwise (· < ·) ∧ (∀ x, x ∈ ks ↔ ∃ y, G x y) ∧ ks.length ≤ n ∧ Below w.heap.size w w' := by
  obtain ⟨D0, hown, hg⟩ := h
  have hs := hown.size_le
  have hseq : SeqGives Fence.wide 3 Try.prog 79 #[.pointer (some ⟨p, 0, none⟩)] encZ (fun ss => ss.Perm (intKeys D0)) (Maps.size D0) w :=
    AnyZI.keys_gives (ρ := Try.keys_ren) { Try.keys with } Fence.wide _ trivial rfl (by omega) p b _ D0 _ hp hc hown
  have cS := AnyZI.sorted_in Try.sorted Fence.wide 6 trivial trivial trivial trivial rfl (by omega) (sortsI _) (enters_of Try.func78 (by kernel_rfl) rfl) 79 #[.pointer (some ⟨p, 0, none⟩)] trivial (enters_of Try.func79 (by kernel_rfl) rfl) _ _ (by unfold maxLen; omega) (by omega) _ hseq
  refine (callsIn_wide.1 cS).mono ?_
  rintro e w' ⟨v, ss, rfl, hS, hrow, hnil, hb⟩
  obtain ⟨k1, k2⟩ := keys_sorted hown tieMapT hg hS
  have hl : (ss.mergeSort fun x y => decide (x ≤ y)).length = ss.length := List.length_mergeSort _
  refine ⟨v, _, rfl, ?_, k1, k2, ?_, hb⟩
  · show World.ownsRow _ _ _ _ _ _ _
    rw [hl]
    exact hrow
  · rw [hl, hS.length_eq]
    refine Nat.le_trans (Nat.le_of_eq ?_) hs
    obtain ⟨es, rfl⟩ := own_isMap hown
    simp [intKeys, Maps.size]
set_option maxRecDepth 100000 in
set_option maxHeartbeats 1600000 in
/-- The ties of a map, in order. -/
theorem sortI_any {w : World} {b n : Nat} {G : Int → Int → Prop} (h : IMt w b n G) (hn : n ≤ 1000) :
    Calls Try.prog 43 #[.map (some b)] w fun e w' => ∃ v L, e = .returned v ∧ Own 39 w' w.heap.size v L ∧ SortOf G L ∧ L.length ≤ n ∧ Below w.heap.size w w' := by
  have H := Lib.hid h
  have hbl := h.lt
  clear h
  obtain ⟨wa, hwa⟩ : ∃ x, w.alloc (.cells #[] 39) = x := ⟨_, rfl⟩
  have O0 : Hid (Own 39 wa w.heap.size (.slice (some ⟨w.heap.size, 0, none⟩) 0 0) []) := Lib.hid (by rw [← hwa]; exact own_new _ (Nat.le_refl _))
  have BA : Hid (Below w.heap.size w wa) := Lib.hid (by rw [← hwa]; go_grown)
  have HA : Hid (IMt wa b n G) := Lib.hid (H.out.grow BA.out)
  go_enter Try.func43, Try.ntmps43
  go_wp2_with fail
  refine (keysI_any (some b) wa).mono ?_
  rintro e w1 ⟨rfl, rfl⟩
  have B1 : Hid (Below wa.heap.size wa (wa.alloc (.cells #[.map (some b)] 62))) := Lib.hid (by go_grown)
  have C1 : Hid ((wa.alloc (.cells #[.map (some b)] 62)).cell? ⟨wa.heap.size, 0, none⟩ = some (.map (some b)) ∧ wa.heap.size < (wa.alloc (.cells #[.map (some b)] 62)).heap.size) := Lib.hid ⟨by go_cell, by simp⟩
  obtain ⟨w1, hw1⟩ : ∃ x, wa.alloc (.cells #[.map (some b)] 62) = x := ⟨_, rfl⟩
  rw [hw1] at B1 C1 ⊢
  have H1 := Lib.hid (HA.out.grow B1.out)
  have O1 := Lib.hid (O0.out.grow B1.out)
  have BB := Lib.hid (BA.out.trans (B1.out.mono BA.out.size))
  clear hw1 hwa
  go_wp2_with fail
  refine (sortedKeys_any C1.out.2 C1.out.1 H1.out hn).mono ?_
  rintro e w2 ⟨v, ks, rfl, o2, up, mem, kn, b2⟩
  obtain ⟨L, l1, l2⟩ := graph_list (G := G) (ks := ks) fun x hx => (mem x).1 hx
  have SO := Lib.hid (sort_list l1 l2 up mem fun x y y' => H1.out.fn)
  have hll : L.length = ks.length := by rw [← l1]; simp
  obtain ⟨a, c, rfl, q1, q2, q3⟩ := o2.row.parts
  have KL := Lib.hid q3
  have H2 := Lib.hid (H1.out.grow b2)
  have O2 := Lib.hid (O1.out.grow b2)
  have B2 := Lib.hid (BB.out.trans (b2.mono BB.out.size))
  have LK : Hid (∀ j (h : j < L.length), ∃ h2 : j < ks.length, ks[j] = L[j].1) := Lib.hid (fun j h => ⟨by omega, by subst l1; simp⟩)
  have LG := Lib.hid l2
  have LN := Lib.hid hll
  rw [← hll] at kn q1 ⊢
  unfold maxLen at q2
  clear o2 up mem b2 l1 l2 hll q3
  go_wp2_with fail
  go_loopg [3, 11] L.length (fun k y x wr => ∃ j : Nat, x = .int .i64 j ∧ j + k = L.length ∧ GrwP 39 wr w2.heap.size y (L.take j) ∧ (j = 0 → y = .slice (some ⟨w.heap.size, 0, none⟩) 0 0) ∧ Below w2.heap.size w2 wr)
  case atStart => exact ⟨0, rfl, by omega, .inl ⟨rfl, _, rfl⟩, fun _ => rfl, Below.refl _ _⟩
  case round =>
    obtain ⟨j, rfl, hk, ho, hz, hb⟩ := hrel
    have K := Lib.hid hk; have O := Lib.hid ho; have Z := Lib.hid hz; have B := Lib.hid hb
    have hjl : j ≤ L.length := by omega
    clear hk ho hz hb
    by_cases hlt : j < L.length
    · obtain ⟨hj2, hkj⟩ := LK.out j hlt
      obtain ⟨g, o, rfl, d1⟩ := ilies_cell KL.out j hj2
      rw [hkj] at d1
      have e1 := (B.out.cell (cell_below d1)).trans d1
      have i0 : (0 : Int) ≤ (j : Int) := by omega
      have i1 : (j : Int) < (L.length : Int) := by omega
      have HM := Lib.hid (H2.out.grow B.out)
      have GJ := Lib.hid (LG.out _ (List.getElem_mem hlt))
      have ST : Hid (L.take j ++ [L[j]] = L.take (j + 1)) := Lib.hid (List.take_succ_eq_append_getElem hlt).symm
      obtain ⟨x, hx⟩ : ∃ x, L[j] = x := ⟨_, rfl⟩
      rw [hx] at e1 GJ ST
      obtain ⟨x1, x2⟩ := x
      have lk := HM.out.at tieMapT GJ.out
      have A1 := Lib.hid ((Below.refl wr.heap.size wr).alloc (Nat.le_refl _) (.cells #[.int .i64 x1, .int .i64 x2] 39))
      obtain ⟨n1, n2⟩ := new_two wr (.int .i64 x1) (.int .i64 x2) 39
      have N1 := Lib.hid n1; have N2 := Lib.hid n2
      have hsz := B.out.size
      clear d1 hx hkj n1 n2
      go_wp2_with (at_builtin; refine grwp_append tieT rfl _ _ rfl (B := w2.heap.size) _ _ rfl (O.out.grow A1.out) ⟨wr.heap.size, 0, none⟩ (x1, x2) rfl N1.out N2.out (by simp; omega) (by simp; omega) ?_; intro v5 w5 hown5 b5; have O5 := Lib.hid hown5; have B5 := Lib.hid (B.out.trans ((A1.out.mono hsz).trans b5)); clear hown5 b5)
      rw [ST.out] at O5
      go_roundg (gk - 1)
      case measure => have := K.out; omega
      case rel => exact ⟨j + 1, by go_num, by have := K.out; omega, .inr O5.out, fun h => by omega, B5.out⟩
    · have hj : j = L.length := by omega
      go_wp2_with fail
      go_ret
      refine ⟨_, L, rfl, ?_, SO.out, kn, B2.out.trans (B.out.mono B2.out.size)⟩
      rcases O.out with ⟨he, _⟩ | ho
      · rw [hj, List.take_length] at he
        subst he
        have := Z.out (by simpa using hj)
        subst this
        exact O2.out.grow B.out
      · rw [hj, List.take_length] at ho
        exact ho.mono B2.out.size
end Go.Proofs.Ythhdpjkmjebjhab
