/- The program's ranks: of an order of a part, and OrderRank. -/
import Derived.Test.YtcemgdekcfdfhaaDoorOrdR2
import Derived.Test.YtcemgdekcfdfhaaDoorOrdBeg
import Derived.Test.YtcemgdekcfdfhaaDoorOrdRank
namespace Go.Proofs.YtcemgdekcfdfhaaDoor
open Go.RowKit

theorem str_byte (T : List UInt8) (p : Nat) (h : p < T.length) {c : UInt8} (hc : T[p] = c) (n : UInt8) : ((((str T)[p]'(by rw [str_size]; exact h)).toNat : Int) == (n.toNat : Int)) = decide (c = n) := by
  have e : (str T)[p]'(by rw [str_size]; exact h) = c := by rw [← hc]; rfl
  rw [e, Bool.eq_iff_iff, beq_iff_eq, decide_eq_true_eq]
  exact ⟨fun h => UInt8.toNat_inj.1 (by omega), fun h => by rw [h]⟩
set_option maxRecDepth 100000 in
set_option maxHeartbeats 3200000 in
theorem rankI_any {w : World} {g : Nat} (h : Tab w g) (t : Tx) (ha : na t ≤ 6) (hb : nb t ≤ 6) :
    Calls Tryd.prog 33 #[.pointer (some ⟨g, 0, none⟩), .agg #[.int .i64 (na t : Nat), .int .i64 (nb t : Nat)], .string (str (body t))] w fun e w' => e = .returned (.int .i64 (rk t : Nat)) ∧ Below w.heap.size w w' := by
  have nn := na_nb t
  have bl := body_length t
  have SZ : (str (body t)).size = t.length := by rw [str_size, bl]
  have TB := Lib.hid h
  have rl := rk_lt t
  have m9 := ch_most (na t) (by omega) (nb t) (by omega)
  have P0 : Hid (PtR (w.alloc (.cells #[.int .i64 (na t : Nat), .int .i64 (nb t : Nat)] 49)) w.heap.size (na t : Nat) (nb t : Nat) ∧ Below w.heap.size w (w.alloc (.cells #[.int .i64 (na t : Nat), .int .i64 (nb t : Nat)] 49))) := Lib.hid ⟨ptr_new w _ _, by go_grown⟩
  have NA : Hid (na t ≤ 6 ∧ nb t ≤ 6) := Lib.hid ⟨ha, hb⟩
  have RL : Hid (rk t ≤ 924) := Lib.hid (by omega)
  have BL := Lib.hid bl
  have l12 : t.length ≤ 12 := by omega
  clear h ha hb nn bl rl m9
  go_enter Tryd.func33, Tryd.ntmps33
  go_wp2_with fail
  go_loopg [7, 11] t.length (fun k x y wr => ∃ j m : Nat, y = .int .i64 j ∧ x = .int .i64 m ∧ j + k = t.length ∧ PtR wr w.heap.size (na (t.drop j) : Nat) (nb (t.drop j) : Nat) ∧ m + rk (t.drop j) = rk t ∧ Below w.heap.size w wr)
  case atStart => exact ⟨0, 0, rfl, rfl, by omega, by rw [List.drop_zero]; exact P0.out.1, by rw [List.drop_zero]; omega, P0.out.2⟩
  case round =>
    obtain ⟨j, m, rfl, rfl, hk, hp, hm, hbl⟩ := hrel
    have K := Lib.hid hk; have B := Lib.hid hbl
    have hjl : j ≤ t.length := by omega
    have r9 := RL.out
    have m9 : m ≤ 924 := by omega
    clear hk hbl
    by_cases hlt : j < t.length
    · have hlb : j < (body t).length := by rw [BL.out]; exact hlt
      have i0 : (0 : Int) ≤ (j : Int) := by omega
      have i1 : (j : Int) < (t.length : Int) := by omega
      have j9 : IntKind.i64.wrap ((j : Int) + 1) = (j : Int) + 1 := IntWalk.i64_in _ (by omega)
      have dc : t.drop j = t[j] :: t.drop (j + 1) := List.drop_eq_getElem_cons hlt
      have bj : (body t)[j] = byt t[j] := by simp [body]
      obtain ⟨r, hr⟩ : ∃ r, t.drop (j + 1) = r := ⟨_, rfl⟩
      have ra : na r ≤ 6 ∧ nb r ≤ 6 := by
        have e1 : na (t.take (j + 1)) + na r = na t := by rw [← hr]; simp only [na]; rw [← List.count_append, List.take_append_drop]
        have e2 : nb (t.take (j + 1)) + nb r = nb t := by rw [← hr]; simp only [nb]; rw [← List.count_append, List.take_append_drop]
        have := NA.out; omega
      have ra1 : na (t.drop j) ≤ 6 ∧ nb (t.drop j) ≤ 6 := by
        have e1 : na (t.take j) + na (t.drop j) = na t := by simp only [na]; rw [← List.count_append, List.take_append_drop]
        have e2 : nb (t.take j) + nb (t.drop j) = nb t := by simp only [nb]; rw [← List.count_append, List.take_append_drop]
        have := NA.out; omega
      rw [hr] at dc
      rw [dc] at hp hm ra1
      have HRR := Lib.hid hr
      cases hx : t[j] with
      | false =>
        rw [hx] at hp hm ra1 bj
        have e97 : ((((str (body t))[j]'(by rw [str_size]; exact hlb)).toNat : Int) == 97) = true := by
          have := str_byte (body t) j hlb bj 97
          rw [decide_eq_true (show byt false = 97 from rfl)] at this
          exact this
        rw [na_a, nb_a] at hp ra1
        have hm' : m + rk r = rk t := hm
        have M := Lib.hid hm'
        have P := Lib.hid hp
        have c0 := hp.c0; have f0 := hp.froz 0
        obtain ⟨A, hA⟩ : ∃ A, na r = A := ⟨_, rfl⟩
        rw [hA] at c0 P ra1
        have HAA := Lib.hid hA
        have w2 : IntKind.i64.wrap ((A : Int) + 1 - 1) = (A : Int) := by rw [show (A : Int) + 1 - 1 = (A : Int) by omega]; exact IntWalk.i64_in _ (by omega)
        have w4 : wrap64 (A : Int) = (A : Int) := IntWalk.wrap64_in _ ⟨Int.le_trans (by decide) (Int.natCast_nonneg A), Int.le_trans (Int.ofNat_le.2 (Nat.le_of_succ_le ra1.1)) (by decide)⟩
        have P2 := Lib.hid (P.out.set0 (A : Int))
        have B2 := Lib.hid (B.out.setCell (p := ⟨w.heap.size, 0, none⟩) (Nat.le_refl _) (.int .i64 (A : Int)))
        clear hp hm hm' dc bj hr hx hA ra ra1
        go_wp2_with fail
        go_roundg (gk - 1)
        case measure => have := K.out; omega
        case rel => exact ⟨j + 1, m, by go_num, rfl, by have := K.out; omega, by rw [HRR.out, HAA.out]; exact P2.out, by rw [HRR.out]; exact M.out, B2.out⟩
      | true =>
        rw [hx] at hp hm ra1 bj
        have e97 : ((((str (body t))[j]'(by rw [str_size]; exact hlb)).toNat : Int) == 97) = false := by
          have := str_byte (body t) j hlb bj 97
          rw [decide_eq_false (show ¬ byt true = 97 by decide)] at this
          exact this
        rw [na_b, nb_b] at hp ra1
        obtain ⟨A, hA⟩ : ∃ A, na r = A := ⟨_, rfl⟩
        obtain ⟨B', hB⟩ : ∃ A, nb r = A := ⟨_, rfl⟩
        have hm' : m + (begN A (B' + 1) + rk r) = rk t := by rw [← hA, ← hB]; exact hm
        rw [hA, hB] at hp ra1
        have P := Lib.hid hp
        have c0 := hp.c0; have c1 := hp.c1
        have HAA := Lib.hid hA; have HBB := Lib.hid hB
        obtain ⟨f, hf⟩ : ∃ f, begN A (B' + 1) = f := ⟨_, rfl⟩
        rw [hf] at hm'
        have M : Hid (m + f + rk r = rk t) := Lib.hid (by omega)
        have f9 : m + f ≤ 924 := by omega
        have x6 : 0 ≤ (A : Int) ∧ (A : Int) ≤ 6 := by omega
        have y6 : 0 ≤ ((B' : Int) + 1) ∧ ((B' : Int) + 1) ≤ 6 := by omega
        have F : Hid (begN ((A : Int)).toNat (((B' : Int) + 1)).toNat = f) := Lib.hid (by rw [show ((A : Int)).toNat = A by omega, show ((B' : Int) + 1).toNat = B' + 1 by omega]; exact hf)
        have w2 : IntKind.i64.wrap ((B' : Int) + 1 - 1) = (B' : Int) := by rw [show (B' : Int) + 1 - 1 = (B' : Int) by omega]; exact IntWalk.i64_in _ (by omega)
        have w3 : IntKind.i64.wrap ((m : Int) + (f : Int)) = ((m + f : Nat) : Int) := by rw [show (m : Int) + (f : Int) = ((m + f : Nat) : Int) by omega]; exact IntWalk.i64_in _ (by omega)
        clear hp hm hm' dc bj hr hx hA hB hf ra ra1
        go_wp2_with fail
        refine (begR_is (TB.out.grow B.out) x6 y6 F.out).mono ?_
        rintro e w2' ⟨rfl, b2⟩
        have P2 := P.out.keep b2 P.out.lt
        have d1 := P2.c1; have g1 := P2.froz 1
        have B2 := Lib.hid (B.out.trans (b2.mono B.out.size))
        have P3 := Lib.hid (P2.set1 (B' : Int))
        have B3 := Lib.hid (B2.out.setCell (p := ⟨w.heap.size, 1, none⟩) (Nat.le_refl _) (.int .i64 (B' : Int)))
        clear b2 P2 c0 c1
        go_wp2_with fail
        go_roundg (gk - 1)
        case measure => have := K.out; omega
        case rel => exact ⟨j + 1, m + f, by go_num, by first | rfl | go_num, by have := K.out; omega, by rw [HRR.out, HAA.out, HBB.out]; exact P3.out, by rw [HRR.out]; exact M.out, B3.out⟩
    · have R : Hid (m = rk t) := Lib.hid (by rw [List.drop_of_length_le (by omega)] at hm; simpa [rk] using hm)
      go_wp2_with fail
      go_ret
      exact ⟨by rw [R.out]; rfl, B.out⟩
end Go.Proofs.YtcemgdekcfdfhaaDoor
