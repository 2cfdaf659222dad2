/- The program's functions on rows: whether a list is a row, and its ring. -/
import Derived.Test.YtdnalkppligodabBox
import Derived.Test.YtdnalkppligodabRev
import Derived.Test.YtdnalkppligodabMinMax
import Derived.Laws.ResultCell
import Derived.OwnWalk
namespace Go.Proofs.Ytdnalkppligodab
open Go.RowKit

theorem row_len_no {l : List Int} (h : l.length < 1 ∨ 20 < l.length) : isRow l = false := by
  cases k : isRow l
  · rfl
  · have := isRow_iff.1 k; omega
theorem rowValid_any {w : World} {v : Value} {l : List Int} (h : IRow w v l) :
    Calls Try.prog 47 #[v] w fun e w' => e = .returned (.bool (isRow l)) ∧ w = w' := by
  by_cases c1 : l.length < 1
  · obtain ⟨a, c, rfl, h1, h2, _⟩ := h.parts
    have R : Hid (isRow l = false) := Lib.hid (row_len_no (.inl c1))
    have e1 : decide ((l.length : Int) < 1) = true := by simp; omega
    clear c1 h
    go_enter Try.func47, Try.ntmps47
    go_wp2_with fail
    go_ret
    exact ⟨by rw [R.out]; rfl, rfl⟩
  by_cases c2 : 20 < l.length
  · obtain ⟨a, c, rfl, h1, h2, _⟩ := h.parts
    have R : Hid (isRow l = false) := Lib.hid (row_len_no (.inr c2))
    have e1 : decide ((l.length : Int) < 1) = false := by simp; omega
    have e2 : decide ((20 : Int) < (l.length : Int)) = true := by simp; omega
    clear c1 c2 h
    go_enter Try.func47, Try.ntmps47
    go_wp2_with fail
    go_ret
    exact ⟨by rw [R.out]; rfl, rfl⟩
  have h0 : 0 < l.length := by omega
  obtain ⟨g, o, c, rfl, hc, hcm⟩ := h.known h0
  have R := Lib.hid (row_ends_iff (l := l) (by omega) (by omega))
  have H := Lib.hid h
  have e1 : decide ((l.length : Int) < 1) = false := by simp; omega
  have e2 : decide ((20 : Int) < (l.length : Int)) = false := by simp; omega
  obtain ⟨lo, hlo⟩ : ∃ x : Int, lowL l = x := ⟨_, rfl⟩
  obtain ⟨hi, hhi⟩ : ∃ x : Int, highL l = x := ⟨_, rfl⟩
  have L := Lib.hid hlo; have G := Lib.hid hhi
  have H0 := Lib.hid h0
  clear c1 c2 h hlo hhi h0
  go_enter Try.func47, Try.ntmps47
  go_wp2_with fail
  refine (low_any H.out H0.out).mono ?_
  rintro e w1 ⟨rfl, rfl⟩
  rw [L.out]
  by_cases k1 : -10000 ≤ lo
  · have d1 : decide (-10000 ≤ lo) = true := by simpa using k1
    clear k1
    go_wp2_with fail
    refine (high_any H.out H0.out).mono ?_
    rintro e w1 ⟨rfl, rfl⟩
    rw [G.out]
    go_wp2_with fail
    go_ret
    exact ⟨by rw [R.out, L.out, G.out, d1]; simp, rfl⟩
  · have d1 : decide (-10000 ≤ lo) = false := by simpa using k1
    clear k1
    go_wp2_with fail
    go_ret
    exact ⟨by rw [R.out, L.out, G.out, d1]; rfl, rfl⟩

/-! The ring. -/
/-- The ring's numbers, and the row's length behind them. -/
def ringM (l : List Int) : List Int := ringL l ++ [(l.length : Int)]
theorem ringM_length {l : List Int} (h : l.length ≤ 20) : (ringM l).length = 41 := by simp [ringM, ringL_length h]
def zeros (n : Nat) : List Int := List.replicate n 0
def ring0 (n : Int) : List Int := zeros 40 ++ [n]
theorem ringT : BoxT Try.prog 46 41 (ring0 0) := ⟨by kernel_rfl, rfl⟩
theorem ringBuilt (n : Int) : Try.prog.built 46 [(1, .int .i64 n)] = some (cellsA (ring0 n)) := by rfl
theorem ringBuilt0 : Try.prog.built 46 [] = some (cellsA (ring0 0)) := by rfl
theorem wpList_build_no {P : Program} {ops : Array Oper} {rest : List Oper} {o : Oper} {a : Act} {w : World} {Q : Exit → Act → World → Prop} {M : List Int} (hg : o.guard = none) (t : TypeId) (ho : o.op = .build t #[])
    (hf : P.built t [] = some (cellsA M)) (h : wpList P ops Q rest (a.put o.dst (.agg (cellsA M))) w) : wpList P ops Q (o :: rest) a w :=
  wpList_build hg t #[] ho (by simp [hf]) (by simpa [hf] using h)
theorem wpList_build_one {P : Program} {ops : Array Oper} {rest : List Oper} {o : Oper} {a : Act} {w : World} {Q : Exit → Act → World → Prop} {M : List Int} (hg : o.guard = none) (t : TypeId) (i : Nat) (x : Operand) (ho : o.op = .build t #[(i, x)])
    (v : Value) (hx : a.eval x = v) (hf : P.built t [(i, v)] = some (cellsA M)) (h : wpList P ops Q rest (a.put o.dst (.agg (cellsA M))) w) : wpList P ops Q (o :: rest) a w := by
  subst hx
  exact wpList_build hg t #[(i, x)] ho (by simp [hf]) (by simpa [hf] using h)

/-! The three steps that lay a row into its ring. -/
theorem lay_one {l : List Int} (h : l.length ≤ 20) : splice (ring0 (l.length : Int)) 0 l = l ++ zeros (40 - l.length) ++ [(l.length : Int)] := by
  simp only [splice, ring0, zeros, List.take_zero, List.nil_append, Nat.zero_add]
  rw [List.drop_append_of_le_length (by simp; omega), List.drop_replicate, List.append_assoc]
theorem lay_two {l : List Int} (h : l.length ≤ 20) : splice (l ++ zeros (40 - l.length) ++ [(l.length : Int)]) l.length l = l ++ l ++ (zeros (40 - 2 * l.length) ++ [(l.length : Int)]) := by
  simp only [splice, zeros]
  rw [List.append_assoc l, List.take_left, List.append_assoc l l]
  congr 2
  rw [← List.drop_drop, List.drop_left, List.drop_append_of_le_length (by simp; omega), List.drop_replicate]
  congr 2; omega
theorem lay_three (l : List Int) : l ++ l.reverse ++ (zeros (40 - 2 * l.length) ++ [(l.length : Int)]) = ringM l := by
  simp only [ringM, ringL, round2, zeros, List.append_assoc]
theorem last_cell {T : TypeId} {w : World} {b : Nat} {L : List Int} {x : Int} (h : IB T w b (L ++ [x])) (hl : L.length = 40) : w.cell? ⟨b, 40, none⟩ = some (.int .i64 x) := by
  have := h.cell 40 (by simp; omega)
  rwa [List.getElem_append_right (by omega), show ([x] : List Int)[40 - L.length]'(by simp; omega) = x by simp] at this
theorem ints23 : IntT 23 := Try.underlying23
theorem intSz : (Try.prog.info? 3).map (·.size) = some 1 := by kernel_rfl
/-- The ring of a list, or an empty one. -/
def ringE (l : List Int) : List Int := if isRow l = true then ringM l else ring0 0
theorem ringE_yes {l : List Int} (h : isRow l = true) : ringE l = ringM l := if_pos h
theorem ringE_no {l : List Int} (h : isRow l = false) : ringE l = ring0 0 := if_neg (by rw [h]; simp)
theorem ring_und : ∃ fs, Try.prog.underlying 46 = some (.struct fs) := ⟨_, Try.underlying46⟩
set_option maxHeartbeats 1600000 in
theorem ringOf_any {w : World} {v : Value} {l : List Int} (h : IRow w v l) :
    Calls Try.prog 36 #[v] w fun e w' => e = .returned (.tuple #[.agg (cellsA (ringE l)), .bool (isRow l)]) ∧ Below w.heap.size w w' := by
  cases hr : isRow l
  · obtain ⟨a, c, rfl, h1, h2⟩ := h.len
    have HR := Lib.hid hr; have H := Lib.hid h
    have E := Lib.hid (ringE_no hr)
    rw [E.out]
    clear h hr
    go_enter Try.func36, Try.ntmps36
    go_wp2_with (refine wpList_alloc_box ringT rfl rfl ?_)
    have I1 := Lib.hid (ib_new (T := 46) w (ring0 0))
    have B1 := Lib.hid ((Below.refl w.heap.size w).alloc (Nat.le_refl _) (.cells (cellsA (ring0 0)) 46))
    refine (rowValid_any (H.out.grow B1.out)).mono ?_
    rintro e w1 ⟨rfl, rfl⟩
    rw [HR.out]
    go_wp2_with (first | (refine wpList_build_no rfl _ rfl ringBuilt0 ?_) | (refine wpList_store_box rfl _ _ rfl w.heap.size rfl rfl ringT I1.out rfl rfl ?_; intro w2 I2 s2 k2 b2; have I2 := Lib.hid I2; have B2 := Lib.hid (B1.out.trans (b2 _ (Nat.le_refl _))); clear s2 k2 b2))
    refine ret_box2 rfl ringT Try.underlying46 rfl w.heap.size rfl I2.out rfl ?_
    exact ⟨rfl, B2.out⟩
  · have hlen := (isRow_iff.1 hr).1
    have h20 := (isRow_iff.1 hr).2.1
    obtain ⟨g, o, c, rfl, hc, hcm⟩ := h.known (by omega)
    unfold maxLen at hcm
    have HR := Lib.hid hr; have H := Lib.hid h
    have E := Lib.hid (ringE_yes hr)
    rw [E.out]
    have L1 := Lib.hid (lay_one h20); have L2 := Lib.hid (lay_two h20); have L3 := Lib.hid (lay_three l)
    have HGL : g < w.heap.size := cell_below (h.cells 0 (by omega))
    obtain ⟨n, hn⟩ : ∃ n, l.length = n := ⟨_, rfl⟩
    have HN := Lib.hid hn
    rw [hn] at hc hlen h20 L1 L2 L3 H ⊢
    have LM : Hid ((ringM l).length = 41) := Lib.hid (ringM_length (by rw [hn]; exact h20))
    have i1 : (n : Int) ≤ 40 := by omega
    have i2 : (0 : Int) ≤ (n : Int) := by omega
    have i3 : ¬ 40 = n := by omega
    have i4 : (2 : Int) * (n : Int) ≤ 40 := by omega
    have i5 : (0 : Int) ≤ 2 * (n : Int) := by omega
    have i6 : (n : Int) ≤ 2 * (n : Int) := by omega
    have e1 : IntKind.i64.wrap (2 * (n : Int)) = 2 * (n : Int) := IntWalk.i64_in _ (by omega)
    have e2 : (2 * (n : Int)).toNat = 2 * n := by omega
    have e3 : (2 : Nat) * n - n = n := by omega
    have HI := Lib.hid h20
    clear h hr hn
    go_enter Try.func36, Try.ntmps36
    go_wp2_with (refine wpList_alloc_box ringT rfl rfl ?_)
    have B1 := Lib.hid ((Below.refl w.heap.size w).alloc (Nat.le_refl _) (.cells (cellsA (ring0 0)) 46))
    have I1 := Lib.hid (ib_new (T := 46) w (ring0 0))
    obtain ⟨W, hW⟩ : ∃ W, w.alloc (.cells (cellsA (ring0 0)) 46) = W := ⟨_, rfl⟩
    rw [hW] at B1 I1 ⊢
    have S1 : Hid (w.heap.size + 1 = W.heap.size) := Lib.hid (by rw [← hW]; simp)
    clear hW
    refine (rowValid_any (H.out.grow B1.out)).mono ?_
    rintro e w1 ⟨rfl, rfl⟩
    rw [HR.out]
    obtain ⟨b, hb⟩ : ∃ b, W.heap.size = b := ⟨_, rfl⟩
    have HB := Lib.hid hb
    rw [hb] at S1
    clear hb
    go_upto_region 4 with (first
      | (refine wpList_build_one rfl _ 1 _ rfl (.int .i64 n) rfl (ringBuilt n) ?_)
      | (refine wpList_alloc_box ringT rfl rfl ?_)
      | (refine wpList_store_box rfl _ _ rfl W.heap.size rfl rfl ringT (ib_new W (ring0 0)) rfl rfl ?_; intro w2 I2 s2 k2 b2; have I2 := Lib.hid I2; have B2 := Lib.hid (((Below.refl W.heap.size W).alloc (Nat.le_refl _) (.cells (cellsA (ring0 0)) 46)).trans (b2 _ (Nat.le_refl _))); clear s2 k2 b2))
    have T2 := ilies_news ((H.out.grow (B1.out.trans (B2.out.mono B1.out.size))).cells)
    go_upto_region 5 with (refine wpList_copy_box rfl _ _ _ _ rfl _ ints23 intSz W.heap.size 0 40 40 ⟨g, o, none⟩ n c rfl rfl I2.out l (by rw [HN.out]; have := HI.out; show n = min n 40; omega) T2 (by rw [HN.out]; have := HI.out; show 0 + n ≤ 41; omega) ?_; intro w3 I3 s3 k3 b3; rw [L1.out] at I3; have I3 := Lib.hid I3; have B3 := Lib.hid (B2.out.trans (b3 _ (Nat.le_refl _))); have c40 := last_cell I3.out (by rw [List.length_append, HN.out]; simp [zeros]; have := HI.out; omega); clear s3 k3 b3)
    have T3 := ilies_news ((H.out.grow (B1.out.trans (B3.out.mono B1.out.size))).cells)
    go_upto_region 6 with (refine wpList_copy_box rfl _ _ _ _ rfl _ ints23 intSz W.heap.size n (40 - n) (40 - n) ⟨g, o, none⟩ n c rfl rfl I3.out l (by rw [HN.out]; have := HI.out; show n = min n (40 - n); omega) T3 (by rw [HN.out]; have := HI.out; simp [zeros, HN.out]; omega) ?_; intro w4 I4 s4 k4 b4; rw [L2.out] at I4; have I4 := Lib.hid I4; have B4 := Lib.hid (B3.out.trans (b4 _ (Nat.le_refl _))); clear c40; have c40 := last_cell (L := l ++ l ++ zeros (40 - 2 * n)) (by rw [List.append_assoc (l ++ l)]; exact I4.out) (by simp [zeros, HN.out]; have := HI.out; omega); clear s4 k4 b4)
    go_wp2_with fail
    refine (reverse_at (A := l) (d := l) I4.out HN.out HN.out (by have := HI.out; omega)).mono ?_
    rintro e w5 ⟨rfl, I5, b5, s5⟩
    rw [L3.out] at I5
    have I5 := Lib.hid I5; have B5 := Lib.hid (B4.out.trans b5)
    have I6 := Lib.hid (I1.out.grow B5.out (by have := S1.out; have := HB.out; omega))
    have B6 := Lib.hid (B1.out.trans (B5.out.mono B1.out.size))
    clear b5 s5
    go_wp2_with (first
      | (refine wpList_load_box rfl _ rfl W.heap.size rfl ringT Try.underlying46 I5.out LM.out ?_)
      | (refine wpList_store_box rfl _ _ rfl w.heap.size rfl rfl ringT I6.out rfl LM.out ?_; intro w7 I7 s7 k7 b7; have I7 := Lib.hid I7; have B7 := Lib.hid (B6.out.trans (b7 _ (Nat.le_refl _))); clear s7 k7 b7))
    refine ret_box2 rfl ringT Try.underlying46 rfl w.heap.size rfl I7.out LM.out ?_
    exact ⟨rfl, B7.out⟩
end Go.Proofs.Ytdnalkppligodab
