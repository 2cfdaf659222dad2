/- The texts of years, by the program and by the model. -/
import Derived.Test.YtkcnblojkdaboaaDoorLaid
import Derived.Test.YtkcnblojkdaboaaDoorYear
import Derived.Test.YtkcnblojkdaboaaDoorDigits
import Derived.Lib.Split
namespace Go.Proofs.YtkcnblojkdaboaaDoor
open Go.RowKit

/-- The text of a year, or none. -/
def eraText (y : Int) : ByteArray := if 0 < y then itoa y ++ ⟨#[32, 67, 69]⟩ else itoa (1 - y) ++ ⟨#[32, 66, 67, 69]⟩
def yearText (y : Int) : ByteArray := if inYear y then eraText y else ⟨#[]⟩
theorem yearText_yes {y : Int} (h : inYear y = true) : yearText y = eraText y := by unfold yearText; rw [if_pos h]
theorem yearText_no {y : Int} (h : inYear y = false) : yearText y = ⟨#[]⟩ := by unfold yearText; rw [if_neg (by simp [h])]
theorem eraText_ce {y : Int} (h : 0 < y) : eraText y = itoa y ++ ⟨#[32, 67, 69]⟩ := by unfold eraText; rw [if_pos h]
theorem eraText_bce {y : Int} (h : ¬ 0 < y) : eraText y = itoa (1 - y) ++ ⟨#[32, 66, 67, 69]⟩ := by unfold eraText; rw [if_neg h]
theorem add_text (a b : ByteArray) (w : World) (ha : a.size ≤ 20) (hb : b.size ≤ 4) : (Op.stringOp .add a b).run Tryd.prog w = .ok (.string (a ++ b)) w := run_string_add_sum w a b (by omega)
theorem texted_mk {s t : ByteArray} {w w' : World} (h : s = t) (k : Below w.heap.size w w') : Texted t w w' (.returned (.string s)) := ⟨by rw [h], k⟩

theorem text_any (y : Int) (w : World) (ht : Tab w) (h0 : -200000 ≤ y) (h1 : y ≤ 200000) :
    Calls Tryd.prog 23 #[.int .i64 y] w fun e w' => Texted (eraText y) w w' e := by
  by_cases k : 0 < y
  · have kd : decide (0 < y) = true := by simpa using k
    have hs := itoa_size (n := y) (by omega) (by omega)
    have ha := fun w => add_text (itoa y) ⟨#[32, 67, 69]⟩ w hs (by decide)
    go_enter Tryd.func23, Tryd.ntmps23
    go_wp2_with fail
    refine (Itoa_any _ _ ht (by omega) (by omega)).mono ?_
    rintro e w1 ⟨rfl, b1⟩
    go_wp2_with fail
    go_ret
    exact texted_mk (eraText_ce k).symm b1
  · have kd : decide (0 < y) = false := by simpa using k
    have hs := itoa_size (n := 1 - y) (by omega) (by omega)
    have ha := fun w => add_text (itoa (1 - y)) ⟨#[32, 66, 67, 69]⟩ w hs (by decide)
    go_enter Tryd.func23, Tryd.ntmps23
    go_wp2_with fail
    refine (Itoa_any _ _ ht (by omega) (by omega)).mono ?_
    rintro e w1 ⟨rfl, b1⟩
    go_wp2_with fail
    go_ret
    exact texted_mk (eraText_bce (by omega)).symm b1
theorem implYearText_any (y : Int) (w : World) (ht : Tab w) :
    Calls Tryd.prog 11 #[.int .i64 y] w fun e w' => Texted (yearText y) w w' e := by
  cases h : inYear y
  · go_enter Tryd.func11, Tryd.ntmps11
    go_wp2_with (go_at_call 22; refine (valid_any _ _).mono ?_; rintro e w' ⟨rfl, rfl⟩)
    go_ret
    exact texted_mk (yearText_no h).symm (Below.refl _ _)
  · have r := inYear_iff.1 h
    go_enter Tryd.func11, Tryd.ntmps11
    go_wp2_with (go_at_call 22; refine (valid_any _ _).mono ?_; rintro e w' ⟨rfl, rfl⟩)
    refine (text_any _ _ ht r.1 r.2).mono ?_
    rintro e w1 ⟨rfl, b1⟩
    go_wp2_with fail
    go_ret
    exact texted_mk (yearText_yes h).symm b1
theorem specYearText_any (y : Int) (w : World) :
    Calls Tryd.prog 12 #[.int .i64 y] w fun e w' => Texted (yearText y) w w' e := by
  cases h : inYear y
  · go_enter Tryd.func12, Tryd.ntmps12
    go_wp2_with (go_at_call 24; refine (l1Year_any _ _).mono ?_; rintro e w' ⟨rfl, rfl⟩)
    go_ret
    exact texted_mk (yearText_no h).symm (Below.refl _ _)
  · have r := inYear_iff.1 h
    have r0 := r.1
    have r1 := r.2
    clear r
    by_cases k : 0 < y
    · have kd : decide (0 < y) = true := by simpa using k
      have hs := itoa_size (n := y) (by omega) (by omega)
      have ha := fun w => add_text (itoa y) ⟨#[32, 67, 69]⟩ w hs (by decide)
      go_enter Tryd.func12, Tryd.ntmps12
      go_wp2_with (go_at_call 24; refine (l1Year_any _ _).mono ?_; rintro e w' ⟨rfl, rfl⟩)
      refine (l6Dec_any _ _ (by omega) (by omega)).mono ?_
      rintro e w1 ⟨rfl, b1⟩
      go_wp2_with fail
      go_ret
      exact texted_mk ((yearText_yes h).trans (eraText_ce k)).symm b1
    · have kd : decide (0 < y) = false := by simpa using k
      have hs := itoa_size (n := 1 - y) (by omega) (by omega)
      have ha := fun w => add_text (itoa (1 - y)) ⟨#[32, 66, 67, 69]⟩ w hs (by decide)
      go_enter Tryd.func12, Tryd.ntmps12
      go_wp2_with (go_at_call 24; refine (l1Year_any _ _).mono ?_; rintro e w' ⟨rfl, rfl⟩)
      refine (l6Dec_any _ _ (by omega) (by omega)).mono ?_
      rintro e w1 ⟨rfl, b1⟩
      go_wp2_with fail
      go_ret
      exact texted_mk ((yearText_yes h).trans (eraText_bce (by omega))).symm b1
/-- The bytes of the texts. -/
theorem era_list {y : Int} : (eraText y).toList = (if 0 < y then Lib.itoa y ++ [32, 67, 69] else Lib.itoa (1 - y) ++ [32, 66, 67, 69]) := by
  rw [ByteArray.toList_eq]
  unfold eraText itoa
  split <;> simp
theorem yearText_list {y : Int} (h : inYear y = true) : (yearText y).toList = (if 0 < y then Lib.itoa y ++ [32, 67, 69] else Lib.itoa (1 - y) ++ [32, 66, 67, 69]) := by
  rw [yearText_yes h, era_list]
theorem yearText_some {y : Int} (h : inYear y = true) : (yearText y).toList.isEmpty = false := by
  rw [yearText_list h]
  split <;> simp
/-- A year's number of an era, and the era's bytes. -/
def eraNum (y : Int) : Nat := if 0 < y then y.toNat else (1 - y).toNat
def eraBytes (y : Int) : List UInt8 := if 0 < y then [67, 69] else [66, 67, 69]
theorem year_list {y : Int} (h : inYear y = true) : (yearText y).toList = Lib.decDigits (eraNum y) ++ 32 :: eraBytes y := by
  rw [yearText_list h]
  unfold eraNum eraBytes Lib.itoa
  split
  · rw [if_neg (by omega)]
  · rw [if_neg (by omega)]
theorem year_cut {y : Int} (h : inYear y = true) : Lib.cut (yearText y).toList [32] = (Lib.decDigits (eraNum y), eraBytes y, true) := by
  rw [year_list h]; exact cut_blank _ _ (digits_all _)
theorem yearText_inj {x y : Int} (hx : inYear x = true) (hy : inYear y = true) (h : (yearText x).toList = (yearText y).toList) : x = y := by
  have k : (Lib.decDigits (eraNum x), eraBytes x, true) = (Lib.decDigits (eraNum y), eraBytes y, true) := by rw [← year_cut hx, ← year_cut hy, h]
  simp only [Prod.mk.injEq] at k
  have k1 := digits_inj k.1
  have k2 := k.2.1
  unfold eraNum at k1
  unfold eraBytes at k2
  split at k1 <;> split at k1 <;> simp_all <;> omega
theorem text_other {y z : Int} (h : inYear y = true) (hz : z ≠ y) : ((yearText z).toList == (yearText y).toList) = false := by
  rw [beq_eq_false_iff_ne]
  intro e
  cases k : inYear z
  · rw [yearText_no k] at e
    have := yearText_some h
    rw [← e] at this
    simp at this
  · exact hz (yearText_inj k h e)
theorem text_size {y : Int} (h : inYear y = true) : 4 ≤ (yearText y).size ∧ (yearText y).size ≤ 12 := by
  have e : (yearText y).size = (yearText y).toList.length := by rw [ByteArray.toList_eq, Array.length_toList]; rfl
  have r := inYear_iff.1 h
  rw [e, year_list h]
  have h1 := digits_pos (eraNum y)
  have h2 := digits_len (eraNum y) 5 (by unfold eraNum; split <;> omega)
  unfold eraBytes
  split <;> simp <;> omega
theorem list_cut (s e : ByteArray) (k : Nat) : (s.extract 0 k ++ e).toList = s.toList.take k ++ e.toList := by
  rw [ByteArray.toList_eq, ByteArray.toList_eq, ByteArray.toList_eq]
  simp [ByteArray.data_append]
theorem list_size (s : ByteArray) : s.size = s.toList.length := by rw [ByteArray.toList_eq, Array.length_toList]; rfl
theorem era_ce {y : Int} (h : inYear y = true) (h' : inYear (1 - y) = true) (k : 0 < y) :
    ((yearText (1 - y)).toList == ((yearText y).extract 0 ((yearText y).size - 2) ++ ⟨#[66, 67, 69]⟩).toList) = true := by
  rw [beq_iff_eq, list_cut, list_size, year_list h, year_list h']
  have e1 : eraNum (1 - y) = eraNum y := by unfold eraNum; rw [if_neg (by omega), if_pos k]; congr 1; omega
  have e2 : eraBytes (1 - y) = [66, 67, 69] := by unfold eraBytes; rw [if_neg (by omega)]
  have e3 : eraBytes y = [67, 69] := by unfold eraBytes; rw [if_pos k]
  have e4 : (ByteArray.mk #[66, 67, 69]).toList = [66, 67, 69] := ByteArray.toList_mk [66, 67, 69]
  rw [e1, e2, e3, e4]
  have e5 : (Lib.decDigits (eraNum y) ++ [32, 67, 69]).length - 2 = ((Lib.decDigits (eraNum y)) ++ [32]).length := by simp
  rw [e5, show Lib.decDigits (eraNum y) ++ [32, 67, 69] = (Lib.decDigits (eraNum y) ++ [32]) ++ [67, 69] from by simp, List.take_left]
  simp
theorem era_bce {y : Int} (h : inYear y = true) (h' : inYear (1 - y) = true) (k : ¬ 0 < y) :
    ((yearText (1 - y)).toList == ((yearText y).extract 0 ((yearText y).size - 3) ++ ⟨#[67, 69]⟩).toList) = true := by
  rw [beq_iff_eq, list_cut, list_size, year_list h, year_list h']
  have e1 : eraNum (1 - y) = eraNum y := by unfold eraNum; rw [if_pos (by omega), if_neg k]
  have e2 : eraBytes (1 - y) = [67, 69] := by unfold eraBytes; rw [if_pos (by omega)]
  have e3 : eraBytes y = [66, 67, 69] := by unfold eraBytes; rw [if_neg k]
  have e4 : (ByteArray.mk #[67, 69]).toList = [67, 69] := ByteArray.toList_mk [67, 69]
  rw [e1, e2, e3, e4]
  have e5 : (Lib.decDigits (eraNum y) ++ [32, 66, 67, 69]).length - 3 = ((Lib.decDigits (eraNum y)) ++ [32]).length := by simp
  rw [e5, show Lib.decDigits (eraNum y) ++ [32, 66, 67, 69] = (Lib.decDigits (eraNum y) ++ [32]) ++ [66, 67, 69] from by simp, List.take_left]
  simp
theorem yearText_empty {y : Int} (h : inYear y = false) : (yearText y).toList.isEmpty = true := by
  rw [yearText_no h, ByteArray.toList_eq]; rfl
end Go.Proofs.YtkcnblojkdaboaaDoor
