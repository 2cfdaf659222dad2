/- The program's functions on rows: the row of a ring, its roughness, a pass. -/
import Derived.Test.YtdnalkppligodabRowImpl
import Derived.Deep.QuietTactic
import Derived.BigQuiet
namespace Go.Proofs.Ytdnalkppligodab
open Go.RowKit

theorem ringM_last {T : TypeId} {w : World} {b : Nat} {l : List Int} (h : IB T w b (ringM l)) (h20 : l.length ≤ 20) : w.cell? ⟨b, 40, none⟩ = some (.int .i64 l.length) := last_cell h (ringL_length h20)
theorem ringM_at {T : TypeId} {w : World} {b : Nat} {l : List Int} (h : IB T w b (ringM l)) (h20 : l.length ≤ 20) (i : Nat) (hi : i < l.length) : w.cell? ⟨b, i, none⟩ = some (.int .i64 l[i]) := by
  have := h.cell i (by rw [ringM_length h20]; omega)
  rw [this]
  simp only [ringM]
  rw [List.getElem_append_left (by rw [ringL_length h20]; omega), ringL_first hi]
set_option maxHeartbeats 1600000 in
theorem ringRow_any {w : World} {l : List Int} (h20 : l.length ≤ 20) :
    Calls Try.prog 37 #[.agg (cellsA (ringM l))] w fun e w' => ILst w l e w' := by
  obtain ⟨n, hn⟩ : ∃ n, l.length = n := ⟨_, rfl⟩
  have HN := Lib.hid hn
  obtain ⟨i0, hi0, hz0, hz1, hz2⟩ := info_parts intInfo
  have I1 := Lib.hid (ib_new (T := 46) w (ringM l))
  have B1 := Lib.hid ((Below.refl w.heap.size w).alloc (Nat.le_refl _) (.cells (cellsA (ringM l)) 46))
  have c40 := ringM_last I1.out h20
  rw [hn] at h20 c40
  have i1 : (0 : Int) ≤ (n : Int) := by omega
  go_enter Try.func37, Try.ntmps37
  go_upto_region 2 with (first
    | (refine wpList_box_box rfl _ rfl rfl ?_)
    | (refine wpList_make_full _ rfl _ _ 23 rfl w.heap.size 3 i0 _ 1 Try.underlying23 hi0 hz0 hz1 .i64 .i64 _ _ n rfl rfl rfl rfl (by rw [hz2]; omega) (by unfold maxLen; omega) (by simp) ?_; intro w1 hown hg))
  have hz : (w.alloc (.cells (cellsA (ringM l)) 46)).heap.size = w.heap.size + 1 := by simp
  have B2 : Below (w.heap.size + 1) (w.alloc (.cells (cellsA (ringM l)) 46)) w1 := (Below.refl _ _).grown hg (by rw [hz]; exact Nat.le_refl _) (fun k hk => by simp at hk)
  have ow : IOwn w1 w.heap.size (.slice (some ⟨w.heap.size + 1, 0, none⟩) n n) (zeros n) := by
    show w1.ownsRow _ _ 1 _ (zeros n).length (cells1 (zeros n))
    have e : cells1 (zeros n) = (madeCells #[Value.int .i64 0] (n * 1)).toList := by
      rw [Nat.mul_one, toList_madeCells_one]; simp [cells1, zeros]
    rw [e, show (zeros n).length = n by simp [zeros]]; rw [hz] at hown; exact hown
  have J := Lib.hid (own_block ow (by simp [zeros])).1
  have I2 := I1.out.grow B2 (Nat.lt_succ_self _)
  have T := ilies_news (w := w1) (g := w.heap.size) (o := 0) (ms := l) fun i hi => by rw [Nat.zero_add]; exact ringM_at I2 (by rw [hn]; exact h20) i hi
  have BB := Lib.hid (B1.out.trans (B2.mono (Nat.le_succ _)))
  have SP : Hid (splice (zeros n) 0 l = l) := Lib.hid (by simp [splice, zeros, ← hn])
  have H20 := Lib.hid h20
  clear hown hg ow hz B2 I2 hi0 hz0 hz1 hz2 c40 hn h20
  clear i0
  go_wp2_with (refine wpList_copy_box rfl _ _ _ _ rfl _ ints23 intSz (w.heap.size + 1) 0 n n ⟨w.heap.size, 0, none⟩ 40 40 rfl rfl J.out l (by rw [HN.out]; have := H20.out; show n = min 40 n; omega) T (by rw [HN.out]; simp [zeros]) ?_; intro w3 I3 s3 k3 b3; rw [SP.out] at I3; have I3 := Lib.hid I3; have B3 := Lib.hid (BB.out.trans (b3 _ (Nat.le_succ _))); clear s3 k3 b3)
  go_ret
  refine ⟨_, rfl, ?_, B3.out⟩
  have := iown_block (B := w.heap.size) rfl I3.out (Nat.le_succ _) (by rw [HN.out]; have := H20.out; unfold maxLen; omega)
  rwa [HN.out] at this
theorem rough_part {l : List Int} (h : isRow l = true) (j : Nat) : 0 ≤ roughL (l.take j) ∧ roughL (l.take j) ≤ 400000 := by
  obtain ⟨h1, h2, h3⟩ := isRow_iff.1 h
  have := rough_bound (l := l.take j) (c := 10000) fun x hx => h3 x (List.mem_of_mem_take hx)
  have := rough_nonneg (l.take j)
  have := List.length_take_le' j l
  omega
set_option maxHeartbeats 1600000 in
theorem ringRough_any {w : World} {l : List Int} (h : isRow l = true) :
    Calls Try.prog 41 #[.agg (cellsA (ringM l))] w fun e w' => e = .returned (.int .i64 (roughL l)) ∧ Below w.heap.size w w' := by
  obtain ⟨hl1, h20, hrow⟩ := isRow_iff.1 h
  have HR := Lib.hid h; have HB := Lib.hid hrow
  obtain ⟨W, hW⟩ : ∃ W, w.alloc (.cells (cellsA (ringM l)) 46) = W := ⟨_, rfl⟩
  have I1 : Hid (IB 46 W w.heap.size (ringM l)) := Lib.hid (by rw [← hW]; exact ib_new w (ringM l))
  have B1 : Hid (Below w.heap.size w W) := Lib.hid (by rw [← hW]; exact (Below.refl w.heap.size w).alloc (Nat.le_refl _) _)
  have c40 := ringM_last I1.out h20
  have e0 : IntKind.i64.wrap ((l.length : Int) - 1) = (l.length : Int) - 1 := IntWalk.i64_in _ (by omega)
  clear h hrow
  go_enter Try.func41, Try.ntmps41
  go_upto_region 1 with (refine wpList_box_box rfl _ rfl rfl ?_)
  clear hW
  go_wp2_with fail
  go_loopg [3, 9] (l.length - 1) (fun k y x wr => ∃ j : Nat, x = .int .i64 j ∧ y = .int .i64 (roughL (l.take (j + 1))) ∧ j + 1 + k = l.length ∧ IB 46 wr w.heap.size (ringM l) ∧ Below w.heap.size w wr)
  case atStart =>
    refine ⟨0, rfl, ?_, by omega, I1.out, B1.out⟩
    match l, hl1 with
    | x :: l, _ => rfl
  case round =>
    obtain ⟨j, rfl, rfl, hk, hi, hb⟩ := hrel
    have K := Lib.hid hk; have I := Lib.hid hi; have B := Lib.hid hb
    have hjl : j + 1 ≤ l.length := by omega
    clear hk hi hb c40 I1 B1
    by_cases hlt : j + 1 < l.length
    · have c1 := ringM_at I.out h20 (j + 1) hlt
      have c0 := ringM_at I.out h20 j (by omega)
      have b1 := HB.out _ (List.getElem_mem hlt)
      have b0 := HB.out _ (List.getElem_mem (show j < l.length by omega))
      have hs := rough_take_step hlt
      have s1 := rough_part HR.out (j + 1)
      have s2 := rough_part HR.out (j + 1 + 1)
      obtain ⟨y, hy⟩ : ∃ x : Int, l[j + 1] = x := ⟨_, rfl⟩
      obtain ⟨x, hx⟩ : ∃ x : Int, l[j]'(by omega) = x := ⟨_, rfl⟩
      rw [hy] at c1 b1 hs; rw [hx] at c0 b0 hs
      have i1 : (j : Int) < (l.length : Int) - 1 := by omega
      have i2 : (0 : Int) ≤ (j : Int) := by omega
      have i3 : (j : Int) < 40 := by omega
      have i4 : (0 : Int) ≤ (j : Int) + 1 := by omega
      have i5 : ((j : Int) + 1).toNat = j + 1 := by omega
      have i6 : (j : Int) + 1 < 40 := by omega
      have e1 : IntKind.i64.wrap ((j : Int) + 1) = (j : Int) + 1 := IntWalk.i64_in _ (by omega)
      have e3 : IntKind.i64.wrap (y - x) = y - x := IntWalk.i64_in _ (by omega)
      have e4 : IntKind.i64.wrap (-(y - x)) = -(y - x) := IntWalk.i64_in _ (by omega)
      have e5 : (if y - x < -(y - x) then -(y - x) else y - x) = max (y - x) (x - y) := by split <;> omega
      have e6 : IntKind.i64.wrap (roughL (l.take (j + 1)) + max (y - x) (x - y)) = roughL (l.take (j + 1 + 1)) := by
        rw [hs]; exact IntWalk.i64_in _ (by omega)
      clear hs hy hx
      go_wp2_with fail
      go_quiet (fail)
      go_wp2_with fail
      go_roundg (gk - 1)
      case measure => have := K.out; omega
      case rel => exact ⟨j + 1, by go_num, rfl, by have := K.out; omega, I.out.grow (below_drews (Below.refl wr.heap.size wr) _) I.out.lt, below_drews B.out _⟩
    · have hj : j + 1 = l.length := by omega
      have i1 : ¬ (j : Int) < (l.length : Int) - 1 := by omega
      have e1 : roughL (l.take (j + 1)) = roughL l := by rw [hj, List.take_length]
      rw [e1]
      clear e1
      go_wp2_with fail
      go_ret
      exact ⟨rfl, B.out⟩
theorem ringM_any {T : TypeId} {w : World} {b : Nat} {l : List Int} (h : IB T w b (ringM l)) (h20 : l.length ≤ 20) (i : Nat) (hi : i < 40) : w.cell? ⟨b, i, none⟩ = some (.int .i64 ((ringL l)[i]'(by rw [ringL_length h20]; exact hi))) := by
  have := h.cell i (by rw [ringM_length h20]; omega)
  rw [this]
  simp only [ringM]
  rw [List.getElem_append_left (by rw [ringL_length h20]; exact hi)]
/-- The next ring in the course of a pass. -/
def mixM (l : List Int) (j : Nat) : List Int := mixL l j ++ [(l.length : Int)]
theorem mixM_length {l : List Int} (h20 : l.length ≤ 20) {j : Nat} (hj : j ≤ 40) : (mixM l j).length = 41 := by simp [mixM, mixL_length h20 j hj]
theorem mixM_zero (l : List Int) : mixM l 0 = ringM l := by rw [mixM, mixL_zero]; rfl
theorem mixM_done {l : List Int} (h20 : l.length ≤ 20) : mixM l (2 * l.length) = ringM (pass l) := by rw [mixM, mixL_done h20, ringM, pass_length]
theorem mixM_set {l : List Int} (h20 : l.length ≤ 20) {j : Nat} (hj : j < 40) {x : Int} (hx : x = (ringL (pass l))[j]'(by rw [ringL_length (by rw [pass_length]; exact h20)]; exact hj)) : (mixM l j).set j x = mixM l (j + 1) := by
  subst hx
  simp only [mixM]
  rw [List.set_append_left _ _ (by rw [mixL_length h20 _ (by omega)]; exact hj), mixL_set h20 hj]
set_option maxHeartbeats 3200000 in
theorem smoothed_any {w : World} {l : List Int} (h1 : 1 ≤ l.length) (h20 : l.length ≤ 20) (hb : ∀ x ∈ l, -655360000 ≤ x ∧ x ≤ 655360000) :
    Calls Try.prog 45 #[.agg (cellsA (ringM l))] w fun e w' => e = .returned (.agg (cellsA (ringM (pass l)))) ∧ Below w.heap.size w w' := by
  obtain ⟨n, hn⟩ : ∃ n, l.length = n := ⟨_, rfl⟩
  have HN := Lib.hid hn
  have RB := Lib.hid (ringL_mem hb (by omega))
  have H20 := Lib.hid h20
  have LM : Hid ((ringM l).length = 41) := Lib.hid (ringM_length h20)
  have LP : Hid ((ringM (pass l)).length = 41) := Lib.hid (ringM_length (by rw [pass_length]; exact h20))
  rw [hn] at h1 h20
  obtain ⟨b, hbb⟩ : ∃ b, w.heap.size = b := ⟨_, rfl⟩
  have HB := Lib.hid hbb
  have J1 := ib_new (T := 46) w (ringM l)
  have K1 := (Below.refl w.heap.size w).alloc (Nat.le_refl _) (.cells (cellsA (ringM l)) 46)
  have z1 : (w.alloc (.cells (cellsA (ringM l)) 46)).heap.size = b + 1 := by simp; omega
  generalize hW1 : w.alloc (.cells (cellsA (ringM l)) 46) = W1 at J1 K1 z1
  have J2 := ib_new (T := 46) W1 (ring0 0)
  have K2 := (Below.refl W1.heap.size W1).alloc (Nat.le_refl _) (.cells (cellsA (ring0 0)) 46)
  have z2 : (W1.alloc (.cells (cellsA (ring0 0)) 46)).heap.size = b + 2 := by simp; omega
  generalize hW2 : W1.alloc (.cells (cellsA (ring0 0)) 46) = W2 at J2 K2 z2
  have J3 := ib_new (T := 46) W2 (ring0 0)
  have K3 := (Below.refl W2.heap.size W2).alloc (Nat.le_refl _) (.cells (cellsA (ring0 0)) 46)
  have z3 : (W2.alloc (.cells (cellsA (ring0 0)) 46)).heap.size = b + 3 := by simp; omega
  generalize hW3 : W2.alloc (.cells (cellsA (ring0 0)) 46) = W3 at J3 K3 z3
  have G1 : Hid (IB 46 W3 b (ringM l)) := Lib.hid (by rw [← hbb]; exact (J1.grow K2 (by omega)).grow K3 (by omega))
  have G1' : Hid (IB 46 W2 b (ringM l)) := Lib.hid (by rw [← hbb]; exact J1.grow K2 (by omega))
  have G2 : Hid (IB 46 W3 (b + 1) (ring0 0)) := Lib.hid (by rw [← z1]; exact J2.grow K3 (by omega))
  have G3 : Hid (IB 46 W3 (b + 2) (ring0 0)) := Lib.hid (by rw [← z2]; exact J3)
  have GB : Hid (Below w.heap.size w W3) := Lib.hid (K1.trans ((K2.mono (by omega)).trans (K3.mono (by omega))))
  have Z1 := Lib.hid z1; have Z2 := Lib.hid z2; have Z3 := Lib.hid z3
  have E1 := Lib.hid hW1; have E2 := Lib.hid hW2; have E3 := Lib.hid hW3
  have e0 : IntKind.i64.wrap (2 * (n : Int)) = 2 * (n : Int) := IntWalk.i64_in _ (by omega)
  clear hn hbb z1 z2 z3 J1 J2 J3 K1 K2 K3 hb hW1 hW2 hW3
  go_enter Try.func45, Try.ntmps45
  go_upto_region 2 with (first
    | (refine wpList_box_box rfl _ rfl rfl ?_; rw [E1.out, HB.out])
    | (refine wpList_alloc_box ringT rfl rfl ?_; first | rw [E2.out, Z1.out] | rw [E3.out, Z2.out])
    | (refine wpList_load_box rfl _ rfl b rfl ringT Try.underlying46 G1'.out LM.out ?_)
    | (refine wpList_store_box rfl _ _ rfl (b + 2) rfl rfl ringT G3.out rfl LM.out ?_; intro w4 I4 s4 k4 b4; have I4 := Lib.hid I4; have R4 := Lib.hid (G1.out.grow (b4 (b + 2) (Nat.le_refl _)) (by omega)); have O4 := Lib.hid (G2.out.grow (b4 (b + 2) (Nat.le_refl _)) (by omega)); have B4 := Lib.hid (GB.out.trans (b4 w.heap.size (by have := HB.out; omega))); clear s4 k4 b4))
  have c40 := ringM_last R4.out H20.out
  rw [HN.out] at c40
  go_wp2_with fail
  go_loopg [13] (2 * n) (fun k x wr => ∃ i : Nat, x = .int .i64 i ∧ i + k = 2 * n ∧ IB 46 wr b (ringM l) ∧ IB 46 wr (b + 1) (ring0 0) ∧ IB 46 wr (b + 2) (mixM l i) ∧ Below w.heap.size w wr)
  case atStart => exact ⟨0, rfl, by omega, R4.out, O4.out, by rw [mixM_zero]; exact I4.out, B4.out⟩
  case round =>
    obtain ⟨i, rfl, hk, hr, ho, hi, hbl⟩ := hrel
    have K := Lib.hid hk; have R := Lib.hid hr; have O := Lib.hid ho; have I := Lib.hid hi; have B := Lib.hid hbl
    clear hk hr ho hi hbl c40
    by_cases hlt : i < 2 * n
    · obtain ⟨p, hp⟩ : ∃ p, aheadI n i = p := ⟨_, rfl⟩
      obtain ⟨q, hq⟩ : ∃ q, behindI n i = q := ⟨_, rfl⟩
      have hp40 : p < 40 := by rw [← hp]; unfold aheadI; split <;> omega
      have hq40 : q < 40 := by rw [← hq]; unfold behindI; split <;> omega
      have hi40 : i < 40 := by omega
      have cp := ringM_any R.out H20.out p hp40
      have cq := ringM_any R.out H20.out q hq40
      have ci := ringM_any R.out H20.out i hi40
      have co := I.out.cell i (by rw [mixM_length H20.out (by omega)]; omega)
      have fo := I.out.froz i
      have PA := ringL_pass (by rw [HN.out]; exact h1) H20.out (show i < 2 * l.length by rw [HN.out]; exact hlt)
      simp only [HN.out, hp, hq] at PA
      have bp := RB.out _ (List.getElem_mem (show p < (ringL l).length by rw [ringL_length H20.out]; exact hp40))
      have bq := RB.out _ (List.getElem_mem (show q < (ringL l).length by rw [ringL_length H20.out]; exact hq40))
      have bi := RB.out _ (List.getElem_mem (show i < (ringL l).length by rw [ringL_length H20.out]; exact hi40))
      obtain ⟨x, hx⟩ : ∃ x : Int, (ringL l)[p]'(by rw [ringL_length H20.out]; exact hp40) = x := ⟨_, rfl⟩
      obtain ⟨y, hy⟩ : ∃ x : Int, (ringL l)[i]'(by rw [ringL_length H20.out]; exact hi40) = x := ⟨_, rfl⟩
      obtain ⟨z, hz⟩ : ∃ x : Int, (ringL l)[q]'(by rw [ringL_length H20.out]; exact hq40) = x := ⟨_, rfl⟩
      obtain ⟨v, hv⟩ : ∃ x : Int, (mixM l i)[i]'(by rw [mixM_length H20.out (by omega)]; omega) = x := ⟨_, rfl⟩
      rw [hx] at cp bp PA; rw [hy] at ci bi PA; rw [hz] at cq bq PA; rw [hv] at co
      have I2 : Hid (∀ W : World, IB 46 W (b + 2) (mixM l i) → IB 46 (W.setCell ⟨b + 2, i, none⟩ (.int .i64 (x + 2 * y + z))) (b + 2) (mixM l (i + 1))) := Lib.hid fun W hW => by
        have := hW.set i (x + 2 * y + z)
        rwa [mixM_set H20.out hi40 PA.symm] at this
      have i1 : (i : Int) < 2 * (n : Int) := by omega
      have i2 : (0 : Int) ≤ (i : Int) := by omega
      have i3 : (i : Int) < 40 := by omega
      have i4 : (0 : Int) ≤ (p : Int) := by omega
      have i5 : (p : Int) < 40 := by omega
      have i6 : (0 : Int) ≤ (q : Int) := by omega
      have i7 : (q : Int) < 40 := by omega
      have i8 : ¬ (2 * (n : Int) = 0) := by omega
      have e1 : IntKind.i64.wrap ((i : Int) + 2 * (n : Int)) = (i : Int) + 2 * (n : Int) := IntWalk.i64_in _ (by omega)
      have e2 : IntKind.i64.wrap ((i : Int) + 2 * (n : Int) - 1) = (i : Int) + 2 * (n : Int) - 1 := IntWalk.i64_in _ (by omega)
      have e3 : ((i : Int) + 2 * (n : Int) - 1).tmod (2 * (n : Int)) = (p : Int) := by
        rw [Int.tmod_eq_emod_of_nonneg (by omega), ← hp]
        unfold aheadI; split
        · subst i; rw [Int.emod_eq_of_lt (by omega) (by omega)]; omega
        · rw [show (i : Int) + 2 * (n : Int) - 1 = ((i : Int) - 1) + 2 * (n : Int) by omega, Int.add_emod_right, Int.emod_eq_of_lt (by omega) (by omega)]; omega
      have e4 : IntKind.i64.wrap ((i : Int) + 1) = (i : Int) + 1 := IntWalk.i64_in _ (by omega)
      have e5 : ((i : Int) + 1).tmod (2 * (n : Int)) = (q : Int) := by
        rw [Int.tmod_eq_emod_of_nonneg (by omega), ← hq]
        unfold behindI; split
        · rw [show (i : Int) + 1 = 2 * (n : Int) by omega, Int.emod_self]; rfl
        · rw [Int.emod_eq_of_lt (by omega) (by omega)]; omega
      have e6 : IntKind.i64.wrap (p : Int) = (p : Int) := IntWalk.i64_in _ (by omega)
      have e7 : IntKind.i64.wrap (q : Int) = (q : Int) := IntWalk.i64_in _ (by omega)
      have e8 : IntKind.i64.wrap (2 * y) = 2 * y := IntWalk.i64_in _ (by omega)
      have e9 : IntKind.i64.wrap (x + 2 * y) = x + 2 * y := IntWalk.i64_in _ (by omega)
      have e10 : IntKind.i64.wrap (x + 2 * y + z) = x + 2 * y + z := IntWalk.i64_in _ (by omega)
      clear hx hy hz hv PA bp bq bi hp hq hp40 hq40
      go_wp2_with fail
      go_quiet (fail)
      go_upto_region 7 with fail
      go_region
      go_wp2_with fail
      have DB := below_drews (Below.refl wr.heap.size wr) nq
      go_roundg (gk - 1)
      case measure => have := K.out; omega
      case rel => exact ⟨i + 1, by go_num, by have := K.out; omega, ((R.out.grow DB R.out.lt).other (by omega) _).drew, ((O.out.grow DB O.out.lt).other (by omega) _).drew, (I2.out _ (I.out.grow DB I.out.lt)).drew, ((below_drews B.out nq).setCell (p := ⟨b + 2, i, none⟩) (by have := HB.out; show w.heap.size ≤ b + 2; omega) _).drew⟩
    · have hin : i = 2 * l.length := by have := HN.out; have := K.out; omega
      have hx := I.out
      rw [hin, mixM_done H20.out] at hx
      have D := Lib.hid hx
      have d1 : decide ((i : Int) < 2 * (n : Int)) = false := by simp; omega
      clear hin hx hlt e0
      go_wp2_with (first
        | (refine wpList_load_box rfl _ rfl (b + 2) rfl ringT Try.underlying46 D.out LP.out ?_)
        | (refine wpList_store_box rfl _ _ rfl (b + 1) rfl rfl ringT O.out rfl LP.out ?_; intro w7 I7 s7 k7 b7; have I7 := Lib.hid I7; have B7 := Lib.hid (B.out.trans (b7 w.heap.size (by have := HB.out; omega))); clear s7 k7 b7))
      refine ret_box rfl ringT Try.underlying46 rfl (b + 1) rfl I7.out LP.out ?_
      exact ⟨rfl, B7.out⟩
end Go.Proofs.Ytdnalkppligodab
