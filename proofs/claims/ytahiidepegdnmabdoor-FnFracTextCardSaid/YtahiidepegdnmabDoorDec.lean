/- The model's decimals: the digits of a number, as the library writes them. -/
import Derived.Test.YtahiidepegdnmabDoorRows
import Derived.WalkKit
import Derived.ProofKit
import Derived.OpenShut
import Derived.Below
import Derived.Lib.Hide
import Derived.Lib.ItoaNum
import Derived.Laws.BytesString
import Derived.Laws.Cells
import Derived.Laws.Concat
import Derived.IntWalk
import Derived.Deep.RegionWith
import Derived.Outline
namespace Go.Proofs.YtahiidepegdnmabDoor
open Go.RowKit

/-- What a function that returns a text comes to: the text; at most new memory. -/
def Texted (s : ByteArray) (w w' : World) (e : Ending) : Prop := e = .returned (.string s) ∧ Below w.heap.size w w'

/-- A text of one byte; the decimals of a number that is not negative. -/
def digit (z : Int) : ByteArray := ⟨#[UInt8.ofNat z.toNat]⟩
def dec (n : Int) : ByteArray := ⟨(Lib.decDigits n.toNat).toArray⟩
theorem conv_one (w : World) (a : Addr) (z : Int) (c : Nat) (h : w.cell? a = some (.int .u8 z)) :
    (convert 22 9 (.slice (some a) 1 c)).run Tryd.prog w = .ok (.string (digit z)) w := by
  have hl : (loadCells a 1).run Tryd.prog w = .ok ([z].map (Value.int .u8)).toArray w := by
    have := run_loadCells_list (P := Tryd.prog) w a ([z].map (Value.int .u8)) (fun j v hj => by
      match j, hj with
      | 0, hj =>
        have e : a.add 0 = a := by simp [Addr.add]
        rw [e, h]
        simpa using hj
      | j + 1, hj => simp at hj)
    simpa using this
  rw [run_convert_bytes_string w 22 9 5 (some a) 1 c Tryd.underlying22 Tryd.underlying5 Tryd.underlying9, run_bytesToString w a 1 c [z] hl]
  rfl
theorem conv_new (w : World) (z : Int) :
    (convert 22 9 (.slice (some ⟨w.heap.size, 0, none⟩) 1 1)).run Tryd.prog (w.alloc (.cells #[.int .u8 z] 5)) = .ok (.string (digit z)) (w.alloc (.cells #[.int .u8 z] 5)) :=
  conv_one _ _ _ _ (by simp)
theorem conv_drew (w : World) (z : Int) :
    (convert 22 9 (.slice (some ⟨w.heap.size, 0, none⟩) 1 1)).run Tryd.prog (w.alloc (.cells #[.int .u8 z] 5)).drew = .ok (.string (digit z)) (w.alloc (.cells #[.int .u8 z] 5)).drew :=
  conv_one _ _ _ _ (by simp)
theorem conv_kept {w : World} {z : Int} (w1 : World) (hb : Below (w.alloc (.cells #[.int .u8 z] 5)).drew.heap.size (w.alloc (.cells #[.int .u8 z] 5)).drew w1) :
    (convert 22 9 (.slice (some ⟨w.heap.size, 0, none⟩) 1 1)).run Tryd.prog w1 = .ok (.string (digit z)) w1 :=
  conv_one _ _ _ _ ((hb.cell (by show w.heap.size < (w.alloc _).heap.size; simp)).trans (by simp))
theorem str_of {a b : ByteArray} (h : a = b) : Ending.returned (.string a) = .returned (.string b) := by rw [h]
theorem dec_small {n : Int} (h0 : 0 ≤ n) (h : n < 10) : dec n = digit (48 + n) := by
  unfold dec digit
  rw [Lib.decDigits, dif_pos (by omega), show 48 + n.toNat = (48 + n).toNat from by omega]
theorem dec_large {n : Int} (h : ¬ n < 10) : dec n = dec (n / 10) ++ digit (48 + n % 10) := by
  unfold dec digit
  rw [Lib.decDigits, dif_neg (by omega), show n.toNat / 10 = (n / 10).toNat from by omega, show 48 + n.toNat % 10 = (48 + n % 10).toNat from by omega]
  exact (ByteArray.mk_append_mk _ _).symm
theorem decDigits_le (k u : Nat) (h : u < 10 ^ (k + 1)) : (Lib.decDigits u).length ≤ k + 1 := by
  induction k generalizing u with
  | zero => rw [Lib.decDigits, dif_pos (by omega)]; simp
  | succ k ih =>
    rw [Lib.decDigits]
    split
    · simp
    · have := ih (u / 10) (by rw [Nat.pow_succ] at h; omega)
      simp; omega
theorem dec_size {n : Int} (h : n ≤ 9223372036854775807) : (dec n).size ≤ 19 := by
  have := decDigits_le 18 n.toNat (by have : (10 : Nat) ^ 19 = 10000000000000000000 := by decide
                                      omega)
  simpa [dec, ByteArray.size] using this
theorem add_dec {n : Int} (h0 : 0 ≤ n) (h1 : n ≤ 9223372036854775807) (h : ¬ n < 10) (w : World) :
    (Op.stringOp .add (dec (n / 10)) (digit (48 + n % 10))).run Tryd.prog w = .ok (.string (dec n)) w := by
  have k := dec_size (n := n / 10) (by omega)
  rw [run_string_add_sum w _ _ (by show _ + 1 ≤ _; omega), dec_large h]

theorem l6Dec_nat (k : Nat) : ∀ (n : Int) (w : World), n.toNat < k → 0 ≤ n → n ≤ 9223372036854775807 →
    Calls Tryd.prog 12 #[.int .i64 n] w fun e w' => Texted (dec n) w w' e := by
  induction k with
  | zero => intro n w h; omega
  | succ k ih =>
    intro n w hk h0 h1
    by_cases hn : n < 10
    · have hc := conv_new w (48 + n)
      go_enter Tryd.func12, Tryd.ntmps12
      go_wp2_with fail
      go_ret
      exact ⟨str_of (dec_small h0 hn).symm, (Below.refl _ _).alloc (Nat.le_refl _) _⟩
    · have ih' := Lib.hid ih
      clear ih
      have e1 : IntKind.i64.wrap (n.tdiv 10) = n / 10 := IntWalk.i64_quo n 10 ⟨h0, h1, by decide⟩
      have e2 : n.tmod 10 = n % 10 := IntWalk.rem_in n 10 h0
      have e3 : IntKind.i64.wrap (48 + n % 10) = 48 + n % 10 := IntWalk.i64_in _ (by omega)
      have e4 : IntKind.u8.wrap (48 + n % 10) = 48 + n % 10 := IntWalk.u8_in _ (by omega)
      have hc := fun w => conv_new w (48 + n % 10)
      have hd := fun w => conv_drew w (48 + n % 10)
      have ha := fun w => add_dec h0 h1 hn w
      go_enter Tryd.func12, Tryd.ntmps12
      go_wp2_with fail
      go_region_with (go_at_call 12; refine (ih'.out _ _ ?_ ?_ ?_).mono ?_; omega; omega; omega; rintro e w1 ⟨rfl, hb⟩; try have hx := conv_kept w1 hb)
      all_goals
        go_wp2
        go_ret
        refine ⟨rfl, ?_⟩
        first
          | exact ((Below.refl _ w).drew.trans hb).alloc hb.size _
          | exact ((Below.refl _ w).alloc (Nat.le_refl _) _).drew.trans (hb.mono (by show _ ≤ (w.alloc _).heap.size; simp))
/-- The text of any number. -/
def itoa (n : Int) : ByteArray := ⟨(Lib.itoa n).toArray⟩
theorem itoa_pos {n : Int} (h : 0 ≤ n) : itoa n = dec n := by
  unfold itoa dec Lib.itoa; rw [if_neg (by omega)]
theorem itoa_neg {n : Int} (h : n < 0) : itoa n = ⟨#[45]⟩ ++ dec (-n) := by
  unfold itoa dec Lib.itoa
  rw [if_pos h, show (-n).toNat = n.natAbs from by omega]
  exact (ByteArray.mk_append_mk [45] _).symm
theorem itoa_size {n : Int} (h : -9223372036854775808 ≤ n) (h' : n ≤ 9223372036854775807) : (itoa n).size ≤ 20 := by
  by_cases k : 0 ≤ n
  · rw [itoa_pos k]; have := dec_size h'; omega
  · rw [itoa_neg (by omega), ByteArray.size_append]
    have : (dec (-n)).size ≤ 19 := by
      by_cases e : n = -9223372036854775808
      · subst e
        have := decDigits_le 18 9223372036854775808 (by decide)
        simpa [dec, ByteArray.size] using this
      · exact dec_size (by omega)
    show 1 + _ ≤ 20
    omega
theorem itoa_min : itoa (-9223372036854775808) = ⟨#[45, 57, 50, 50, 51, 51, 55, 50, 48, 51, 54, 56, 53, 52, 55, 55, 53, 56, 48, 56]⟩ := by
  have h : Lib.itoa (-9223372036854775808) = [45, 57, 50, 50, 51, 51, 55, 50, 48, 51, 54, 56, 53, 52, 55, 55, 53, 56, 48, 56] := by
    rw [Lib.itoa, if_pos (by decide)]
    show 45 :: Lib.decDigits 9223372036854775808 = _
    rw [Lib.decDigits_eq]
    have e : Lib.nDigits 9223372036854775808 = 19 := Lib.nDigits_unique 18 _ (by decide) (by decide)
    rw [e]
    decide +kernel
  unfold itoa; rw [h]
theorem l6Dec_any (n : Int) (w : World) (h0 : -9223372036854775808 ≤ n) (h1 : n ≤ 9223372036854775807) :
    Calls Tryd.prog 12 #[.int .i64 n] w fun e w' => Texted (itoa n) w w' e := by
  by_cases k : 0 ≤ n
  · rw [itoa_pos k]
    exact l6Dec_nat (n.toNat + 1) n w (by omega) k h1
  · by_cases m : n = -9223372036854775808
    · subst m
      go_enter Tryd.func12, Tryd.ntmps12
      go_wp2_with fail
      go_ret
      exact ⟨str_of itoa_min.symm, Below.refl _ _⟩
    · have ha : ∀ w, (Op.stringOp .add ⟨#[45]⟩ (dec (-n))).run Tryd.prog w = .ok (.string (itoa n)) w := fun w => by
        have := dec_size (n := -n) (by omega)
        rw [run_string_add_sum w _ _ (by show 1 + _ ≤ _; omega), itoa_neg (by omega)]
      have hm : decide (n < -9223372036854775807) = false := by simp; omega
      go_enter Tryd.func12, Tryd.ntmps12
      go_wp2_with fail
      refine (l6Dec_nat ((-n).toNat + 1) (-n) _ (by omega) (by omega) (by omega)).mono ?_
      rintro e w1 ⟨rfl, hb⟩
      go_wp2_with fail
      go_ret
      exact ⟨rfl, hb⟩
end Go.Proofs.YtahiidepegdnmabDoor
