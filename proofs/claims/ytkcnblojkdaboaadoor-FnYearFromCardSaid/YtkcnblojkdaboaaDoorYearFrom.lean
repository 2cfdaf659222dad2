/- Reading the text of a year, by the program and by the model. -/
import Derived.Test.YtkcnblojkdaboaaDoorYearText
import Derived.Shelf.Vars
import Derived.Lib.SmallJoins
namespace Go.Proofs.YtkcnblojkdaboaaDoor
open Go.RowKit

theorem gMax : Tryd.prog.globalNamed "internal/bytealg.MaxLen" = some 0 := by kernel_rfl
theorem gSyn : Tryd.prog.globalNamed "strconv.ErrSyntax" = some 1 := by kernel_rfl
theorem gRng : Tryd.prog.globalNamed "strconv.ErrRange" = some 2 := by kernel_rfl
theorem gSynType : (Tryd.prog.globals[1]?).map (·.type) = some 41 := by kernel_rfl
theorem gRngType : (Tryd.prog.globals[2]?).map (·.type) = some 41 := by kernel_rfl
theorem errCells : Tryd.prog.cellsOf 83 = 1 := by kernel_rfl
theorem strCells : Tryd.prog.cellsOf 9 = 1 := by kernel_rfl
theorem star : "*" ++ "errors.errorString" = "*errors.errorString" := by decide
theorem errRow (u : TypeId) (h : Tryd.prog.typeName? 3 u = some "*errors.errorString") : u = 81 :=
  typeName_ptr_named (nm := "errors.errorString") (by rw [star]; kernel_rfl) (by kernel_rfl) (by decide) u (by rw [star]; exact h)
/-- What the library's variables hold: the table of the powers of ten, the two errors, some number. -/
structure Lay (w : World) : Prop where
  tab : Tab w
  syn : ∃ tp p, w.var? Tryd.prog "strconv.ErrSyntax" = some #[.iface tp p]
  rng : ∃ tp p, w.var? Tryd.prog "strconv.ErrRange" = some #[.iface tp p]
  max : ∃ m, w.cell? ⟨0, 0, none⟩ = some (.int .i64 m)
theorem Lay.next {w w' : World} (h : Lay w) (k : Below w.heap.size w w') : Lay w' := by
  have hlt := h.tab.lt
  obtain ⟨h1, ⟨t1, p1, h2⟩, ⟨t2, p2, h3⟩, m, h4⟩ := h
  exact ⟨h1.next k, ⟨t1, p1, var?_below k gSyn (by omega) h2⟩, ⟨t2, p2, var?_below k gRng (by omega) h3⟩, m, (k.cell (by show 0 < _; omega)).trans h4⟩
theorem lay_of {w : World} {r : List (String × DataW Unit)} (h : laidMet Tryd.prog (("math/bits.deBruijn32tab", Rows.laid_math_bits_deBruijn32tab) :: ("math/bits.deBruijn64tab", Rows.laid_math_bits_deBruijn64tab) :: ("internal/strconv.uint64pow10", Rows.laid_internal_strconv_uint64pow10) :: ("strconv.ErrRange", Rows.laid_strconv_ErrRange) :: ("strconv.ErrSyntax", Rows.laid_strconv_ErrSyntax) :: r) w) (hs : w.ShapedOpen Tryd.prog) : Lay w := by
  obtain ⟨a0, s0, hv0, -, -, -⟩ := laid_sentinel h.tail.tail.tail gRng gRngType Tryd.underlying41 errRow Tryd.underlying81 Tryd.underlying83 rfl rfl Tryd.underlying9 errCells strCells
  obtain ⟨a1, s1, hv1, -, -, -⟩ := laid_sentinel h.tail.tail.tail.tail gSyn gSynType Tryd.underlying41 errRow Tryd.underlying81 Tryd.underlying83 rfl rfl Tryd.underlying9 errCells strCells
  exact ⟨tab_of h, ⟨_, _, hv1⟩, ⟨_, _, hv0⟩, cell_of_shapedOpen_int (g := 0) (t := 3) (zero := #[.int .i64 0]) hs (of_decide_eq_true (by kernel_rfl)) (by kernel_rfl) rfl (by kernel_rfl) (by kernel_rfl) Tryd.underlying3⟩

/-- The library's reading of a number: the number and no error, or some error. -/
theorem Atoi_ok (s : ByteArray) (hs : s.size ≤ 2000000) (v : Int) (h : Lib.atoiAll s.data.toList = .ok v) (w : World) :
    Calls Tryd.prog 27 #[.string s] w fun e w' => e = .returned (.tuple #[.int .i64 v, .nilIface]) ∧ Below w.heap.size w w' := by
  refine (Tryd.strconv_Atoi_ok s (by omega) v h w).mono fun e w' k => ⟨k.1, ?_⟩
  rcases k.2 with k | ⟨t, k⟩
  · subst k; exact Below.refl _ _
  · subst k; exact Joins.below_bytesWorld _ _ _ _ (Nat.le_refl _)
def Failed (w w' : World) (e : Ending) : Prop := ∃ (n : Int) (a : Addr), e = .returned (.tuple #[.int .i64 n, .iface 58 (.pointer (some a))]) ∧ Below w.heap.size w w'
theorem Atoi_no (s : ByteArray) (hs : s.size ≤ 2000000) (h : ∀ v, Lib.atoiAll s.data.toList ≠ .ok v) (w : World) (hl : Lay w) :
    Calls Tryd.prog 27 #[.string s] w fun e w' => Failed w w' e := by
  obtain ⟨_, ⟨t1, p1, h2⟩, ⟨t2, p2, h3⟩, _⟩ := hl
  rcases k : Lib.atoiAll s.data.toList with v | _ | _
  · exact absurd k (h v)
  · refine (Any.strconv_Atoi_syntax_var Tryd.laysC172 s (by omega) k t1 p1 w h2).mono fun e w' q => ?_
    obtain ⟨N, he, _, _, hb⟩ := q
    exact ⟨_, _, he, hb⟩
  · refine (Any.strconv_Atoi_range_var Tryd.laysC172 s (by omega) k t2 p2 w h3).mono fun e w' q => ?_
    obtain ⟨N, he, _, _, hb⟩ := q
    exact ⟨_, _, he, hb⟩
theorem Cut_any (s : ByteArray) (hs : s.size ≤ 2000000) (N E : ByteArray) (ok : Bool) (hN : Lib.cut s.data.toList [32] = (N.data.toList, E.data.toList, ok)) (w : World) (hl : Lay w) :
    Calls Tryd.prog 26 #[.string s, .string ⟨#[32]⟩] w fun e w' => e = .returned (.tuple #[.string N, .string E, .bool ok]) ∧ Below w.heap.size w w' := by
  obtain ⟨m, hm⟩ := hl.max
  refine (Tryd.strings_Cut s ⟨#[32]⟩ m w (by omega) hm).mono fun e w' k => ?_
  obtain ⟨he, n, hw⟩ := k
  subst hw
  have e0 : (ByteArray.mk #[32]).data.toList = [32] := rfl
  rw [e0, hN] at he
  exact ⟨by rw [he], below_drewN (Below.refl _ _) n⟩

/-- No year has this text. -/
def NoText (s : ByteArray) : Prop := ∀ y, inYear y = true → (yearText y).toList ≠ s.toList
/-- What a text is read as. -/
def Read (y : Int) (ok : Bool) (w w' : World) (e : Ending) : Prop := e = .returned (.tuple #[.int .i64 y, .bool ok]) ∧ Below w.heap.size w w'
theorem noText_ne {s : ByteArray} (h : NoText s) (hs : s.toList ≠ []) (y : Int) : ((yearText y).toList == s.toList) = false := by
  rw [beq_eq_false_iff_ne]
  cases k : inYear y
  · rw [yearText_no k, ByteArray.toList_eq]
    exact fun e => hs e.symm
  · exact h y k
theorem cut_list (l : List UInt8) : Lib.cut l [32] = ((⟨(Lib.cut l [32]).1.toArray⟩ : ByteArray).data.toList, (⟨(Lib.cut l [32]).2.1.toArray⟩ : ByteArray).data.toList, (Lib.cut l [32]).2.2) := rfl
theorem cut_le (l : List UInt8) : (Lib.cut l [32]).1.length ≤ l.length ∧ (l = [] → (Lib.cut l [32]).1 = []) := by
  unfold Lib.cut
  split
  · exact ⟨List.length_take_le' _ _, fun e => by subst e; simp⟩
  · exact ⟨Nat.le_refl _, id⟩

set_option maxHeartbeats 400000 in
theorem implYearFrom_no (s : ByteArray) (hs : s.size ≤ 2000000) (hn : NoText s) (w : World) (hl : Lay w) :
    Calls Tryd.prog 13 #[.string s] w fun e w' => Read 0 false w w' e := by
  obtain ⟨N, E, ok, hc⟩ : ∃ (N E : ByteArray) (ok : Bool), Lib.cut s.data.toList [32] = (N.data.toList, E.data.toList, ok) := ⟨_, _, _, cut_list _⟩
  have hcl : N.data.toList.length ≤ s.data.toList.length := by have := (cut_le s.data.toList).1; rw [hc] at this; exact this
  have hce : s.data.toList = [] → N.data.toList = [] := by have := (cut_le s.data.toList).2; rw [hc] at this; exact this
  have hNs : N.size ≤ s.size := by
    rw [list_size, list_size, ByteArray.toList_eq, ByteArray.toList_eq]; exact hcl
  have hN : N.size ≤ 2000000 := by omega
  replace hce := Lib.hid hce
  replace hc := Lib.hid hc
  replace hn := Lib.hid hn
  clear hcl hNs
  by_cases ha : ∀ v, Lib.atoiAll N.data.toList ≠ .ok v
  · replace ha := Lib.hid ha
    go_enter Tryd.func13, Tryd.ntmps13
    go_wp2_with fail
    refine (Cut_any s hs N E ok hc.out _ hl).mono ?_
    rintro e w1 ⟨rfl, b1⟩
    go_wp2_with fail
    refine (Atoi_no N hN ha.out _ (hl.next b1)).mono ?_
    rintro e w2 ⟨n, a, rfl, b2⟩
    go_wp2_with fail
    go_ret2
    exact ⟨rfl, b1.trans (b2.mono b1.size)⟩
  · obtain ⟨v, hv⟩ : ∃ v, Lib.atoiAll N.data.toList = .ok v := by
      by_cases k : ∃ v, Lib.atoiAll N.data.toList = .ok v
      · exact k
      · exact absurd (fun v hv => k ⟨v, hv⟩) ha
    have hne : s.toList ≠ [] := by
      intro k
      rw [ByteArray.toList_eq] at k
      rw [hce.out k] at hv
      exact absurd hv (by simp [Lib.atoiAll])
    have hx := noText_ne hn.out hne
    replace hne := Lib.hid hne
    replace hv := Lib.hid hv
    clear ha
    cases hE : (E.toList == [66, 67, 69])
    all_goals
      go_enter Tryd.func13, Tryd.ntmps13
      go_wp2_with fail
      refine (Cut_any s hs N E ok hc.out _ hl).mono ?_
      rintro e w1 ⟨rfl, b1⟩
      go_wp2_with fail
      refine (Atoi_ok N hN v hv.out _).mono ?_
      rintro e w2 ⟨rfl, b2⟩
      go_wp2_with fail
      refine (implYearText_any _ _ ((hl.next b1).next b2).tab).mono ?_
      rintro e w3 ⟨rfl, b3⟩
      go_wp2_with fail
      go_ret2
      exact ⟨rfl, (b1.trans (b2.mono b1.size)).trans (b3.mono (b1.trans (b2.mono b1.size)).size)⟩
theorem implYearFrom_yes (y : Int) (hy : inYear y = true) (w : World) (hl : Lay w) :
    Calls Tryd.prog 13 #[.string (yearText y)] w fun e w' => Read y true w w' e := by
  have hs := (text_size hy).2
  have r := inYear_iff.1 hy
  have hu : eraNum y ≤ 200001 := by unfold eraNum; split <;> omega
  have hc : Lib.cut (yearText y).data.toList [32] = ((ByteArray.mk (Lib.decDigits (eraNum y)).toArray).data.toList, (ByteArray.mk (eraBytes y).toArray).data.toList, true) := by
    rw [← ByteArray.toList_eq, year_cut hy]
  have hv : Lib.atoiAll (ByteArray.mk (Lib.decDigits (eraNum y)).toArray).data.toList = .ok (eraNum y : Int) := atoi_digits _ (by omega)
  have hN : (ByteArray.mk (Lib.decDigits (eraNum y)).toArray).size ≤ 2000000 := by
    have := digits_len (eraNum y) 5 (by omega)
    simp [ByteArray.size]; omega
  obtain ⟨E, hEe⟩ : ∃ E : ByteArray, E = ByteArray.mk (eraBytes y).toArray := ⟨_, rfl⟩
  obtain ⟨N, hNn⟩ : ∃ N : ByteArray, N = ByteArray.mk (Lib.decDigits (eraNum y)).toArray := ⟨_, rfl⟩
  rw [← hEe, ← hNn] at hc
  rw [← hNn] at hv hN
  have hEl : E.toList = eraBytes y := by rw [hEe, ByteArray.toList_mk]
  replace hc := Lib.hid hc
  replace hv := Lib.hid hv
  have hx : ((yearText y).toList == (yearText y).toList) = true := by simp
  clear hEe hNn
  by_cases k : 0 < y
  · have hE : (E.toList == [66, 67, 69]) = false := by rw [hEl]; unfold eraBytes; rw [if_pos k]; decide
    have hT : ((eraNum y : Nat) : Int) = y := by unfold eraNum; rw [if_pos k]; omega
    replace hT := Lib.hid hT
    clear hEl hu r
    go_enter Tryd.func13, Tryd.ntmps13
    go_wp2_with fail
    refine (Cut_any _ (by omega) N E true hc.out _ hl).mono ?_
    rintro e w1 ⟨rfl, b1⟩
    go_wp2_with fail
    refine (Atoi_ok N hN _ hv.out _).mono ?_
    rintro e w2 ⟨rfl, b2⟩
    rw [hT.out]
    go_wp2_with fail
    refine (implYearText_any _ _ ((hl.next b1).next b2).tab).mono ?_
    rintro e w3 ⟨rfl, b3⟩
    go_wp2_with fail
    go_ret2
    exact ⟨rfl, (b1.trans (b2.mono b1.size)).trans (b3.mono (b1.trans (b2.mono b1.size)).size)⟩
  · have hE : (E.toList == [66, 67, 69]) = true := by rw [hEl]; unfold eraBytes; rw [if_neg k]; decide
    obtain ⟨n, hn⟩ : ∃ n : Int, n = ((eraNum y : Nat) : Int) := ⟨_, rfl⟩
    have hT : 1 - n = y := by rw [hn]; unfold eraNum; rw [if_neg k]; omega
    have hn0 : 0 ≤ n := by omega
    have hn1 : n ≤ 200001 := by omega
    rw [← hn] at hv
    replace hT := Lib.hid hT
    clear hEl hu r hn
    go_enter Tryd.func13, Tryd.ntmps13
    go_wp2_with fail
    refine (Cut_any _ (by omega) N E true hc.out _ hl).mono ?_
    rintro e w1 ⟨rfl, b1⟩
    go_wp2_with fail
    refine (Atoi_ok N hN _ hv.out _).mono ?_
    rintro e w2 ⟨rfl, b2⟩
    go_wp2_with fail
    rw [hT.out]
    refine (implYearText_any _ _ ((hl.next b1).next b2).tab).mono ?_
    rintro e w3 ⟨rfl, b3⟩
    go_wp2_with fail
    go_ret2
    exact ⟨rfl, (b1.trans (b2.mono b1.size)).trans (b3.mono (b1.trans (b2.mono b1.size)).size)⟩

/-- What one to six digits spell, or -1. -/
def digitsV (l : List UInt8) : Int := if 1 ≤ l.length ∧ l.length ≤ 6 ∧ l.all isDigit = true then (spell 0 l : Nat) else -1
theorem spell_le : ∀ (l : List UInt8) (acc : Nat), (∀ c ∈ l, isDigit c = true) → spell acc l + 1 ≤ (acc + 1) * 10 ^ l.length
  | [], acc, _ => by
    show acc + 1 ≤ (acc + 1) * 10 ^ 0
    rw [Nat.pow_zero, Nat.mul_one]
    exact Nat.le_refl _
  | c :: r, acc, h => by
    have hc := h c (by simp)
    unfold isDigit at hc
    simp only [decide_eq_true_eq] at hc
    have ih := spell_le r (acc * 10 + (c.toNat - 48)) (fun x hx => h x (by simp [hx]))
    have e : (acc * 10 + (c.toNat - 48) + 1) * 10 ^ r.length ≤ ((acc + 1) * 10) * 10 ^ r.length := Nat.mul_le_mul_right _ (by omega)
    have e2 : (acc + 1) * 10 ^ (c :: r).length = ((acc + 1) * 10) * 10 ^ r.length := by
      rw [List.length_cons, Nat.pow_succ, Nat.mul_comm (10 ^ r.length) 10, Nat.mul_assoc]
    rw [e2]
    exact Nat.le_trans ih e
theorem spell_small {l : List UInt8} (h : ∀ c ∈ l, isDigit c = true) (k : l.length ≤ 6) : spell 0 l ≤ 999999 := by
  have h1 := spell_le l 0 h
  have h2 : 10 ^ l.length ≤ 10 ^ 6 := Nat.pow_le_pow_right (by decide) k
  rw [Nat.zero_add, Nat.one_mul] at h1
  have h3 : spell 0 l + 1 ≤ 1000000 := Nat.le_trans h1 h2
  exact Nat.le_of_succ_le_succ h3
theorem take_snoc (s : ByteArray) (k : Nat) (h : k < s.size) : s.data.toList.take (k + 1) = s.data.toList.take k ++ [s[k]] := by
  rw [List.take_succ_eq_append_getElem (by simpa using h)]; rfl
theorem int_eq {k : IntKind} {a b : Int} (h : a = b) : Ending.returned (.int k a) = .returned (.int k b) := by rw [h]

/-- The first k bytes are digits; they spell m. -/
def Digs (s : ByteArray) (k m : Nat) : Prop := (∀ c ∈ s.data.toList.take k, isDigit c = true) ∧ m = spell 0 (s.data.toList.take k)
theorem digs_zero (s : ByteArray) : Digs s 0 0 := ⟨by simp, by rw [List.take_zero]; rfl⟩
theorem Digs.small {s : ByteArray} {k m : Nat} (h : Digs s k m) (hk : k ≤ 6) : m ≤ 999999 := by
  rw [h.2]; exact spell_small h.1 (Nat.le_trans (List.length_take_le _ _) hk)
theorem Digs.step {s : ByteArray} {k m : Nat} (h : Digs s k m) (hk : k < s.size) (h1 : 48 ≤ s[k].toNat) (h2 : s[k].toNat ≤ 57) : Digs s (k + 1) (m * 10 + (s[k].toNat - 48)) := by
  constructor
  · rw [take_snoc s k hk]
    intro c hc
    rcases List.mem_append.1 hc with q | q
    · exact h.1 c q
    · simp only [List.mem_singleton] at q
      subst q; unfold isDigit; simp; omega
  · rw [take_snoc s k hk, spell_append, ← h.2]; rfl
theorem Digs.stop {s : ByteArray} {k m : Nat} (_ : Digs s k m) (hk : k < s.size) (h1 : s[k].toNat < 48 ∨ 57 < s[k].toNat) : digitsV s.toList = -1 := by
  unfold digitsV
  rw [if_neg]
  intro q
  have hm : s[k] ∈ s.toList := by rw [ByteArray.toList_eq]; exact List.getElem_mem (by simpa using hk)
  have := List.all_eq_true.1 q.2.2 _ hm
  unfold isDigit at this
  simp at this
  omega
theorem Digs.all {s : ByteArray} {k m : Nat} (h : Digs s k m) (hk : s.size ≤ k) (h1 : 1 ≤ s.size) (h2 : s.size ≤ 6) : digitsV s.toList = (m : Int) := by
  have e : s.data.toList.take k = s.toList := by
    rw [ByteArray.toList_eq]; exact List.take_of_length_le (by simpa using hk)
  obtain ⟨g1, g2⟩ := h
  rw [e] at g1 g2
  unfold digitsV
  rw [if_pos ⟨by rw [← list_size]; exact h1, by rw [← list_size]; exact h2, List.all_eq_true.2 g1⟩, g2]

set_option maxHeartbeats 800000 in
theorem l1Digits_any (s : ByteArray) (hs : s.size ≤ 2000000) (w : World) :
    Calls Tryd.prog 30 #[.string s] w fun e w' => e = .returned (.int .i64 (digitsV s.toList)) ∧ w = w' := by
  have hlen : s.toList.length = s.size := (list_size s).symm
  cases hi : isIn (s.size : Int) 1 6
  · have hv : digitsV s.toList = -1 := by
      unfold digitsV; rw [if_neg]
      intro k
      simp [isIn] at hi
      omega
    replace hv := Lib.hid hv
    clear hlen
    go_enter Tryd.func30, Tryd.ntmps30
    go_wp2_with (go_at_call 31; refine (l6In_any _ _ _ _).mono ?_; rintro e w' ⟨rfl, rfl⟩)
    go_ret
    exact ⟨int_eq hv.out.symm, rfl⟩
  · have h6 : 1 ≤ s.size ∧ s.size ≤ 6 := by simp [isIn] at hi; omega
    have h7 := h6.1
    have h8 := h6.2
    clear h6
    go_enter Tryd.func30, Tryd.ntmps30
    go_wp2_with (go_at_call 31; refine (l6In_any _ _ _ _).mono ?_; rintro e w' ⟨rfl, rfl⟩)
    go_loop [3, 4] (fun n i => ∃ k : Nat, k ≤ s.size ∧ i = .int .i64 k ∧ ∃ m : Nat, n = .int .i64 m ∧ Digs s k m) (fun _ i => s.size - (intOf i).toNat)
    case atStart => exact ⟨0, Nat.zero_le _, rfl, 0, rfl, digs_zero s⟩
    case round =>
      obtain ⟨k, hk, rfl, m, rfl, hd⟩ := hrel
      have hm := hd.small (by omega)
      by_cases hlt : k < s.size
      · by_cases h1 : s[k].toNat < 48
        · have hv := Lib.hid (hd.stop hlt (.inl h1))
          have e1 : decide ((s[k].toNat : Int) < 48) = true := by simp; omega
          clear hd
          go_wp2
          go_ret
          exact ⟨int_eq hv.out.symm, rfl⟩
        · by_cases h2 : 57 < s[k].toNat
          · have hv := Lib.hid (hd.stop hlt (.inr h2))
            have e1 : decide ((s[k].toNat : Int) < 48) = false := by simp; omega
            have e2 : decide ((57 : Int) < (s[k].toNat : Int)) = true := by simp; omega
            clear hd
            go_wp2
            go_ret
            exact ⟨int_eq hv.out.symm, rfl⟩
          · have hv := hd.step hlt (by omega) (by omega)
            have e1 : decide ((s[k].toNat : Int) < 48) = false := by simp; omega
            have e2 : decide ((57 : Int) < (s[k].toNat : Int)) = false := by simp; omega
            clear hd
            go_wp2
            go_round
            case rel => exact ⟨k + 1, by omega, by go_num, m * 10 + (s[k].toNat - 48), by congr 1; omega, hv⟩
            case measure => simp [intOf]; omega
      · have hv := Lib.hid (hd.all (by omega) h7 h8)
        clear hd
        go_wp2
        go_ret
        exact ⟨int_eq hv.out.symm, rfl⟩

/-- The place of the first blank, or the end. -/
def Blank (s : ByteArray) (k : Nat) : Prop := k ≤ s.size ∧ ∀ (i : Nat) (h : i < s.size), i < k → s[i].toNat ≠ 32
theorem Blank.next {s : ByteArray} {k : Nat} (h : Blank s k) (hk : k < s.size) (h1 : s[k].toNat ≠ 32) : Blank s (k + 1) :=
  ⟨by omega, fun i hi hik => by
    by_cases e : i = k
    · subst e; exact h1
    · exact h.2 i hi (by omega)⟩

theorem digitsV_bound (l : List UInt8) : -1 ≤ digitsV l ∧ digitsV l ≤ 999999 := by
  unfold digitsV
  split
  · rename_i h
    have := spell_small (List.all_eq_true.1 h.2.2) h.2.1
    omega
  · omega
/-- What the model makes of a text that is parted at k: the number and the era. -/
def partYear (s : ByteArray) (k : Nat) : Int := if ((s.extract k s.size).toList == [32, 66, 67, 69]) = true then 1 - digitsV (s.extract 0 k).toList else digitsV (s.extract 0 k).toList
def partOk (s : ByteArray) (k : Nat) : Bool := !decide (digitsV (s.extract 0 k).toList < 0) && ((yearText (partYear s k)).toList == s.toList)
def partNum (s : ByteArray) (k : Nat) : Int := if partOk s k then partYear s k else 0
def Parted (s : ByteArray) (w w' : World) (e : Ending) : Prop :=
  ∃ k, Blank s k ∧ (k = s.size ∨ ∃ h : k < s.size, s[k].toNat = 32) ∧ e = .returned (.tuple #[.int .i64 (partNum s k), .bool (partOk s k)]) ∧ Below w.heap.size w w'
theorem parted_mk {s : ByteArray} {k : Nat} {w w' : World} {y : Int} {ok : Bool} (h1 : Blank s k) (h2 : k = s.size ∨ ∃ h : k < s.size, s[k].toNat = 32) (h3 : y = partNum s k) (h4 : ok = partOk s k) (h5 : Below w.heap.size w w') :
    Parted s w w' (.returned (.tuple #[.int .i64 y, .bool ok])) := ⟨k, h1, h2, by rw [h3, h4], h5⟩

theorem part_no {s : ByteArray} {k : Nat} (h : decide (digitsV (s.extract 0 k).toList < 0) = true) : (0 : Int) = partNum s k ∧ false = partOk s k := by
  have e : partOk s k = false := by unfold partOk; rw [h]; rfl
  exact ⟨by unfold partNum; rw [e]; rfl, e.symm⟩
theorem part_ce {s : ByteArray} {k : Nat} {b : Bool} (h : decide (digitsV (s.extract 0 k).toList < 0) = false) (hE : ((s.extract k s.size).toList == [32, 66, 67, 69]) = false)
    (hb : ((yearText (digitsV (s.extract 0 k).toList)).toList == s.toList) = b) : (if b then digitsV (s.extract 0 k).toList else 0) = partNum s k ∧ b = partOk s k := by
  have e0 : partYear s k = digitsV (s.extract 0 k).toList := by unfold partYear; rw [hE]; rfl
  have e : partOk s k = b := by unfold partOk; rw [h, e0, hb]; rfl
  exact ⟨by unfold partNum; rw [e, e0], e.symm⟩
theorem part_bce {s : ByteArray} {k : Nat} {b : Bool} (h : decide (digitsV (s.extract 0 k).toList < 0) = false) (hE : ((s.extract k s.size).toList == [32, 66, 67, 69]) = true)
    (hb : ((yearText (1 - digitsV (s.extract 0 k).toList)).toList == s.toList) = b) : (if b then 1 - digitsV (s.extract 0 k).toList else 0) = partNum s k ∧ b = partOk s k := by
  have e0 : partYear s k = 1 - digitsV (s.extract 0 k).toList := by unfold partYear; rw [hE]; rfl
  have e : partOk s k = b := by unfold partOk; rw [h, e0, hb]; rfl
  exact ⟨by unfold partNum; rw [e, e0], e.symm⟩

set_option maxHeartbeats 1600000 in
theorem specYearFrom_any (s : ByteArray) (hs : s.size ≤ 2000000) (w : World) :
    Calls Tryd.prog 15 #[.string s] w fun e w' => Parted s w w' e := by
  go_enter Tryd.func15, Tryd.ntmps15
  go_wp2_with fail
  go_loop [4] (fun i => ∃ k : Nat, i = .int .i64 k ∧ Blank s k) (fun i => s.size - (intOf i).toNat)
  case atStart => exact ⟨0, rfl, Nat.zero_le _, fun i _ h => absurd h (by omega)⟩
  case round =>
    obtain ⟨k, rfl, hb⟩ := hrel
    have hk := hb.1
    by_cases hgo : ∃ h : k < s.size, s[k].toNat ≠ 32
    · obtain ⟨hlt, h1⟩ := hgo
      have hv := hb.next hlt h1
      have e1 : ((s[k].toNat : Int) == 32) = false := by simp; omega
      clear hb
      go_wp2_with fail
      go_round
      case rel => exact ⟨k + 1, by go_num, hv⟩
      case measure => simp [intOf]; omega
    · have hend : k = s.size ∨ ∃ h : k < s.size, s[k].toNat = 32 := by
        by_cases hlt : k < s.size
        · refine .inr ⟨hlt, ?_⟩
          by_cases h1 : s[k].toNat = 32
          · exact h1
          · exact absurd ⟨hlt, h1⟩ hgo
        · exact .inl (by omega)
      have bd := digitsV_bound (s.extract 0 k).toList
      have b0 := bd.1
      have b9 := bd.2
      have hX : (s.extract 0 k).size ≤ 2000000 := by rw [ByteArray.size_extract]; omega
      replace hb := Lib.hid hb
      replace hend' := Lib.hid hend
      clear hgo bd
      have hz : s.size ≤ k ∨ ∃ h : k < s.size, s[k].toNat = 32 := by
        rcases hend with h | h
        · exact .inl (by omega)
        · exact .inr h
      clear hend
      cases hn : decide (digitsV (s.extract 0 k).toList < 0)
      · cases hE : ((s.extract k s.size).toList == [32, 66, 67, 69])
        · cases hB : ((yearText (digitsV (s.extract 0 k).toList)).toList == s.toList)
          all_goals
            have hp := Lib.hid (part_ce hn hE hB)
            rcases hz with hz | ⟨hlt, h1⟩
          all_goals
            go_wp2_with fail
            refine (l1Digits_any _ hX _).mono ?_
            rintro e w' ⟨rfl, rfl⟩
            go_wp2_with fail
            refine (specYearText_any _ _).mono ?_
            rintro e w2 ⟨rfl, b2⟩
            go_wp2_with fail
            go_ret2
            exact parted_mk hb.out hend'.out hp.out.1 hp.out.2 b2
        · cases hB : ((yearText (1 - digitsV (s.extract 0 k).toList)).toList == s.toList)
          all_goals
            have hp := Lib.hid (part_bce hn hE hB)
            rcases hz with hz | ⟨hlt, h1⟩
          all_goals
            go_wp2_with fail
            refine (l1Digits_any _ hX _).mono ?_
            rintro e w' ⟨rfl, rfl⟩
            go_wp2_with fail
            refine (specYearText_any _ _).mono ?_
            rintro e w2 ⟨rfl, b2⟩
            go_wp2_with fail
            go_ret2
            exact parted_mk hb.out hend'.out hp.out.1 hp.out.2 b2
      · have hp := Lib.hid (part_no hn)
        cases hE : ((s.extract k s.size).toList == [32, 66, 67, 69])
        all_goals rcases hz with hz | ⟨hlt, h1⟩
        all_goals
          go_wp2_with fail
          refine (l1Digits_any _ hX _).mono ?_
          rintro e w' ⟨rfl, rfl⟩
          go_wp2_with fail
          go_ret2
          exact parted_mk hb.out hend'.out hp.out.1 hp.out.2 (Below.refl _ _)
/-- The two ways of reading, from the model's. -/
theorem part_ext (s : ByteArray) (k : Nat) : (s.extract 0 k).toList = s.toList.take k ∧ (s.extract k s.size).toList = s.toList.drop k := by
  constructor
  · rw [ByteArray.toList_eq, ByteArray.toList_eq, Lib.extract_from_zero]
  · rw [ByteArray.toList_eq, ByteArray.toList_eq, Lib.extract_to_end]
theorem specYearFrom_no (s : ByteArray) (hs : s.size ≤ 2000000) (hn : NoText s) (w : World) :
    Calls Tryd.prog 15 #[.string s] w fun e w' => Read 0 false w w' e := by
  refine (specYearFrom_any s hs w).mono fun e w' h => ?_
  obtain ⟨k, _, _, he, hb⟩ := h
  have hk : partOk s k = false := by
    cases hd : decide (digitsV (s.extract 0 k).toList < 0)
    · have hne : s.toList ≠ [] := by
        intro q
        rw [(part_ext s k).1, q] at hd
        simp [digitsV] at hd
      unfold partOk
      rw [noText_ne hn hne, Bool.and_false]
    · exact (part_no hd).2.symm
  have hm : partNum s k = 0 := by unfold partNum; rw [hk]; rfl
  rw [hk, hm] at he
  exact ⟨he, hb⟩
theorem blank_at {s : ByteArray} {k : Nat} (d r : List UInt8) (hs : s.toList = d ++ 32 :: r) (hd : ∀ c ∈ d, isDigit c = true) (h : Blank s k) (he : k = s.size ∨ ∃ h : k < s.size, s[k].toNat = 32) : k = d.length := by
  have hl : s.size = d.length + (r.length + 1) := by rw [list_size, hs]; simp
  have hd' : s.data.toList = d ++ 32 :: r := by rw [← ByteArray.toList_eq]; exact hs
  have hg : ∀ (i : Nat) (hi : i < s.size), s[i]'hi = (d ++ 32 :: r)[i]'(by simp; omega) := by
    intro i hi
    have e : s[i]'hi = s.data.toList[i]'(by simpa using hi) := rfl
    rw [e]
    exact List.getElem_of_eq hd' _
  rcases Nat.lt_trichotomy k d.length with q | q | q
  · exfalso
    have hk : k < s.size := by omega
    have e := hg k hk
    rw [List.getElem_append_left q] at e
    have hm := hd _ (List.getElem_mem q)
    unfold isDigit at hm
    simp only [decide_eq_true_eq] at hm
    rcases he with he | ⟨_, he⟩
    · omega
    · rw [e] at he; omega
  · exact q
  · exfalso
    have hk : d.length < s.size := by omega
    have e := hg d.length hk
    rw [List.getElem_append_right (Nat.le_refl _)] at e
    have := h.2 d.length hk q
    rw [e] at this
    simp at this
theorem digits_of (u : Nat) (h : u ≤ 999999) : digitsV (Lib.decDigits u) = (u : Int) := by
  have h1 := digits_pos u
  have h2 := digits_len u 5 (by omega)
  unfold digitsV
  rw [if_pos ⟨h1, h2, List.all_eq_true.2 (digits_all u)⟩, spell_digits]
theorem specYearFrom_yes (y : Int) (hy : inYear y = true) (w : World) :
    Calls Tryd.prog 15 #[.string (yearText y)] w fun e w' => Read y true w w' e := by
  refine (specYearFrom_any _ (by have := (text_size hy).2; omega) w).mono fun e w' h => ?_
  obtain ⟨k, hb, hend, he, hw⟩ := h
  have hk := blank_at _ _ (year_list hy) (digits_all _) hb hend
  have r := inYear_iff.1 hy
  have hu : eraNum y ≤ 200001 := by unfold eraNum; split <;> omega
  have hx : ((yearText y).extract 0 k).toList = Lib.decDigits (eraNum y) := by rw [(part_ext _ _).1, year_list hy, hk, List.take_left]
  have hz : ((yearText y).extract k (yearText y).size).toList = 32 :: eraBytes y := by rw [(part_ext _ _).2, year_list hy, hk, List.drop_left]
  have hv : digitsV ((yearText y).extract 0 k).toList = (eraNum y : Int) := by rw [hx]; exact digits_of _ (by omega)
  have hp : partYear (yearText y) k = y := by
    unfold partYear
    rw [hz, hv]
    unfold eraBytes eraNum
    by_cases q : 0 < y
    · rw [if_pos q, if_pos q, if_neg (by decide)]; omega
    · rw [if_neg q, if_neg q, if_pos (by decide)]; omega
  have ho : partOk (yearText y) k = true := by
    unfold partOk
    rw [hp, hv]
    simp
  have hn : partNum (yearText y) k = y := by unfold partNum; rw [ho, hp]; rfl
  rw [ho, hn] at he
  exact ⟨he, hw⟩
/-- A text is that of a year, or of none. -/
theorem text_part (s : ByteArray) : (∃ y, inYear y = true ∧ yearText y = s) ∨ NoText s := by
  by_cases h : ∃ y, inYear y = true ∧ (yearText y).toList = s.toList
  · obtain ⟨y, hy, e⟩ := h
    refine .inl ⟨y, hy, ?_⟩
    rw [ByteArray.toList_eq, ByteArray.toList_eq] at e
    exact ByteArray.ext (Array.ext' e)
  · exact .inr fun y hy e => h ⟨y, hy, e⟩
/-- The last bytes of a year's text. -/
theorem year_size {y : Int} (hy : inYear y = true) : (yearText y).size = (Lib.decDigits (eraNum y)).length + (1 + (eraBytes y).length) := by
  rw [list_size, year_list hy]; simp; omega
theorem last_two {y : Int} (hy : inYear y = true) : (((yearText y).extract ((yearText y).size - 2) (yearText y).size).toList == [67, 69]) = true := by
  have hs := year_size hy
  rw [beq_iff_eq, ByteArray.toList_eq, Lib.extract_to_end, ← ByteArray.toList_eq, hs, year_list hy]
  unfold eraBytes
  by_cases k : 0 < y
  · rw [if_pos k]
    rw [show (Lib.decDigits (eraNum y)).length + (1 + ([67, 69] : List UInt8).length) - 2 = (Lib.decDigits (eraNum y) ++ [32]).length from by simp,
      show Lib.decDigits (eraNum y) ++ [32, 67, 69] = (Lib.decDigits (eraNum y) ++ [32]) ++ [67, 69] from by simp, List.drop_left]
  · rw [if_neg k]
    rw [show (Lib.decDigits (eraNum y)).length + (1 + ([66, 67, 69] : List UInt8).length) - 2 = (Lib.decDigits (eraNum y) ++ [32, 66]).length from by simp,
      show Lib.decDigits (eraNum y) ++ [32, 66, 67, 69] = (Lib.decDigits (eraNum y) ++ [32, 66]) ++ [67, 69] from by simp, List.drop_left]
theorem byte_at {s : ByteArray} {l : List UInt8} (h : s.toList = l) (i : Nat) (hi : i < s.size) : l[i]? = some (s[i]'hi) := by
  have h' : s.data.toList = l := by rw [← ByteArray.toList_eq]; exact h
  have e : s[i]'hi = s.data.toList[i]'(by simpa using hi) := rfl
  rw [← h', e, List.getElem?_eq_getElem]
theorem third_ce {y : Int} (hy : inYear y = true) (k : 0 < y) (h : (yearText y).size - 3 < (yearText y).size) : ((((yearText y)[(yearText y).size - 3]'h).toNat : Int) == 66) = false := by
  have hs := year_size hy
  have eb : eraBytes y = [67, 69] := by unfold eraBytes; rw [if_pos k]
  rw [eb] at hs
  have hi : (yearText y).size - 3 = (Lib.decDigits (eraNum y)).length := by rw [hs]; simp
  have hj : (Lib.decDigits (eraNum y)).length < (yearText y).size := by omega
  have e := byte_at (year_list hy) _ hj
  rw [eb, List.getElem?_append_right (Nat.le_refl _), Nat.sub_self] at e
  have e2 : (yearText y)[(Lib.decDigits (eraNum y)).length]'hj = 32 := (Option.some.inj e).symm
  have e' : (yearText y)[(yearText y).size - 3]'h = 32 := by simp only [hi]; exact e2
  rw [e']; rfl
theorem third_bce {y : Int} (hy : inYear y = true) (k : ¬ 0 < y) (h : (yearText y).size - 3 < (yearText y).size) : ((((yearText y)[(yearText y).size - 3]'h).toNat : Int) == 66) = true := by
  have hs := year_size hy
  have eb : eraBytes y = [66, 67, 69] := by unfold eraBytes; rw [if_neg k]
  rw [eb] at hs
  have hi : (yearText y).size - 3 = (Lib.decDigits (eraNum y)).length + 1 := by rw [hs]; simp
  have hj : (Lib.decDigits (eraNum y)).length + 1 < (yearText y).size := by omega
  have e := byte_at (year_list hy) _ hj
  rw [eb, List.getElem?_append_right (by omega), Nat.add_sub_cancel_left] at e
  have e2 : (yearText y)[(Lib.decDigits (eraNum y)).length + 1]'hj = 66 := (Option.some.inj e).symm
  have e' : (yearText y)[(yearText y).size - 3]'h = 66 := by simp only [hi]; exact e2
  rw [e']; rfl
end Go.Proofs.YtkcnblojkdaboaaDoor
