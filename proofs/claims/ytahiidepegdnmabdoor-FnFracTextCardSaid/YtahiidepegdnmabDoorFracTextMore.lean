/- What the texts of fractions are made of: slashes and hyphens; the draw of a fraction for its text. -/
import Derived.Test.YtahiidepegdnmabDoorFracText
import Derived.Test.YtahiidepegdnmabDoorFracDraws
import Derived.Test.YtahiidepegdnmabDoorHolds
namespace Go.Proofs.YtahiidepegdnmabDoor
open Go.RowKit

/-- A text holds a slash. -/
def slashIn (l : List UInt8) : Bool := l.any (· == 47)
theorem digits_noslash (u : Nat) : slashIn (Lib.decDigits u) = false := by
  unfold slashIn
  rw [List.any_eq_false]
  intro c hc
  have h := digits_all u c hc
  unfold isDigit at h
  simp only [decide_eq_true_eq] at h
  intro k
  rw [beq_iff_eq] at k
  subst k
  revert h; decide
theorem itoa_noslash (n : Int) : slashIn (itoa n).data.toList = false := by
  unfold itoa Lib.itoa
  split
  · show slashIn (45 :: Lib.decDigits n.natAbs) = false
    have := digits_noslash n.natAbs
    unfold slashIn at this ⊢
    rw [List.any_cons, this]; rfl
  · exact digits_noslash n.toNat
theorem slash_at {n d : Int} (h : fv n d = true) : slashIn (fracText n d).data.toList = decide (1 < d) := by
  have p := fv_part h
  by_cases k : d = 1
  · rw [fracText_whole h k, itoa_noslash, k]; rfl
  · rw [fracText_broken h k]
    have e : decide (1 < d) = true := by simp; omega
    rw [e]
    unfold slashIn
    simp [ByteArray.data_append]
theorem slash_snoc (s : ByteArray) (k : Nat) (h : k < s.size) : slashIn (s.data.toList.take (k + 1)) = (slashIn (s.data.toList.take k) || ((s[k].toNat : Int) == 47)) := by
  have q : ((s[k].toNat : Int) == 47) = (s[k] == 47) := by
    rw [Bool.eq_iff_iff, beq_iff_eq, beq_iff_eq, ← UInt8.toNat_inj]
    show _ ↔ s[k].toNat = 47
    omega
  rw [q]
  have e : s.data.toList.take (k + 1) = s.data.toList.take k ++ [s[k]] := by
    rw [List.take_succ_eq_append_getElem (by simpa using h)]; rfl
  rw [e]
  unfold slashIn
  simp
theorem fracText_size {n d : Int} (h : fv n d = true) : 1 ≤ (fracText n d).size ∧ (fracText n d).size ≤ 41 := by
  have p := fv_part h
  have h1 := itoa_size (n := n) (by omega) (by omega)
  have h2 := itoa_size (n := d) (by omega) (by omega)
  have h3 : ∀ m : Int, 1 ≤ (itoa m).size := by
    intro m
    show 1 ≤ (Lib.itoa m).toArray.size
    unfold Lib.itoa
    split
    · simp
    · have := digits_pos m.toNat
      simpa using this
  have h4 := h3 n
  by_cases k : d = 1
  · rw [fracText_whole h k]; omega
  · rw [fracText_broken h k, ByteArray.size_append, ByteArray.size_append]
    show 1 ≤ _ + 1 + _ ∧ _ + 1 + _ ≤ 41
    omega
theorem fracText_neg {n d : Int} (h : fv n d = true) (h0 : 0 < n) : fracText (-n) d = ⟨#[45]⟩ ++ fracText n d := by
  have g := (fv_neg' h).1
  have e : itoa (-n) = ⟨#[45]⟩ ++ itoa n := by rw [itoa_neg (by omega), itoa_pos (by omega), Int.neg_neg]
  by_cases k : d = 1
  · rw [fracText_whole h k, fracText_whole g k, e]
  · rw [fracText_broken h k, fracText_broken g k, e, ByteArray.append_assoc, ByteArray.append_assoc, ByteArray.append_assoc]
theorem zero_whole {d : Int} (h : fv 0 d = true) : d = 1 := by
  have k := fv_iff.1 h
  have := k.2.2.2.2
  rw [Int.gcd_zero_left] at this
  omega
theorem fracText_zero : fracText 0 1 = ⟨#[48]⟩ := by
  rw [fracText_whole fv_none rfl]
  have : Lib.itoa 0 = [48] := by
    rw [Lib.itoa, if_neg (by decide)]
    show Lib.decDigits 0 = _
    rw [Lib.decDigits, dif_pos (by decide)]; rfl
  unfold itoa
  rw [this]
theorem list_size (s : ByteArray) : s.size = s.toList.length := by rw [ByteArray.toList_eq, Array.length_toList]; rfl
theorem same_text {s t : ByteArray} (h : s = t) : (s.toList == t.toList) = true := by subst h; simp
theorem other_size {s t : ByteArray} (h : s.size ≠ t.size) : (s.toList == t.toList) = false := by
  rw [beq_eq_false_iff_ne]
  intro e
  exact h (by rw [list_size, list_size, e])
theorem some_text {s : ByteArray} (h : 1 ≤ s.size) : s.toList.isEmpty = false := by
  rw [list_size] at h
  cases e : s.toList
  · rw [e] at h; simp at h
  · rfl
theorem add_hyphen {s : ByteArray} (h : s.size ≤ 50) (w : World) : (Op.stringOp .add ⟨#[45]⟩ s).run Tryd.prog w = .ok (.string (⟨#[45]⟩ ++ s)) w :=
  run_string_add_sum w _ _ (by show 1 + _ ≤ _; omega)
theorem DrawFracText_any {w : World} {a : Option Addr} {len cap : Nat} (h : Bytes w a len cap) :
    Calls Tryd.prog 4 #[.slice a len cap] w fun e w' => DrewFrac w w' e := by
  have hB := h.below ((Below.refl w.heap.size w).alloc (Nat.le_refl _) (.cells #[.int .i64 0, .int .i64 0] 24))
  go_enter Tryd.func4, Tryd.ntmps4
  go_wp2_with fail
  refine (open_any hB).mono ?_
  rintro e w1 ⟨rfl, a1, b1, s1⟩
  obtain ⟨c0, c1, c2, c3⟩ := below_two w.heap.size (.int .i64 0) (.int .i64 0) b1 (by go_cell) (by go_cell) (by go_simp) (by go_simp)
  have bb : Below w.heap.size w w1 := Below.trans (by go_grown) (b1.mono (by go_size))
  have hs := a1.lt
  simp at s1 hs
  go_wp2_with fail
  refine (l91Frac_any (by simpa using a1) (by omega)).mono ?_
  rintro e w2 ⟨n, d, rfl, hn, a2, k2⟩
  obtain ⟨c0, c1, c2, c3⟩ := keep_two _ _ _ k2 (by omega) c0 c1 c2 c3
  replace bb := k2.below bb (by omega) bb.size
  go_wp2
  refine back_frac rfl rfl (stored0 _ _ c0) (stored1 _ _ c1) rfl ?_
  exact ⟨n, d, rfl, by omega, by go_grown⟩
end Go.Proofs.YtahiidepegdnmabDoor
