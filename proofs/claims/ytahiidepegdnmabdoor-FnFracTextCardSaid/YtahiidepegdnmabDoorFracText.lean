/- The texts of fractions, by the program and by the model. -/
import Derived.Test.YtahiidepegdnmabDoorLaid
import Derived.Test.YtahiidepegdnmabDoorFracIn
import Derived.Test.YtahiidepegdnmabDoorDigits
import Derived.Deep.RegionHeld3
import Derived.BigQuiet
import Derived.Deep.QuietTactic
namespace Go.Proofs.YtahiidepegdnmabDoor
open Go.RowKit

/-- The text of a fraction, or none. -/
def fracText (n d : Int) : ByteArray := if fv n d then (if d = 1 then itoa n else itoa n ++ ⟨#[47]⟩ ++ itoa d) else ⟨#[]⟩
theorem fracText_no {n d : Int} (h : fv n d = false) : fracText n d = ⟨#[]⟩ := by unfold fracText; rw [if_neg (by simp [h])]
theorem fracText_whole {n d : Int} (h : fv n d = true) (k : d = 1) : fracText n d = itoa n := by unfold fracText; rw [if_pos h, if_pos k]
theorem fracText_broken {n d : Int} (h : fv n d = true) (k : ¬ d = 1) : fracText n d = itoa n ++ ⟨#[47]⟩ ++ itoa d := by unfold fracText; rw [if_pos h, if_neg k]
theorem add_slash {n : Int} (h0 : -1000000000 ≤ n) (h1 : n ≤ 1000000000) (w : World) : (Op.stringOp .add (itoa n) ⟨#[47]⟩).run Tryd.prog w = .ok (.string (itoa n ++ ⟨#[47]⟩)) w := by
  have := itoa_size (n := n) (by omega) (by omega)
  exact run_string_add_sum w _ _ (by show _ + 1 ≤ _; omega)
theorem add_den {n d : Int} (h0 : -1000000000 ≤ n) (h1 : n ≤ 1000000000) (h2 : 1 ≤ d) (h3 : d ≤ 1000000000) (w : World) :
    (Op.stringOp .add (itoa n ++ ⟨#[47]⟩) (itoa d)).run Tryd.prog w = .ok (.string (itoa n ++ ⟨#[47]⟩ ++ itoa d)) w := by
  have h := itoa_size (n := n) (by omega) (by omega)
  have k := itoa_size (n := d) (by omega) (by omega)
  refine run_string_add_sum w _ _ ?_
  rw [ByteArray.size_append]
  show _ + 1 + _ ≤ _
  omega
theorem texted_mk {s t : ByteArray} {w w' : World} (h : s = t) (k : Below w.heap.size w w') : Texted t w w' (.returned (.string s)) := ⟨by rw [h], k⟩
/-- A block of two cells and what was there when the call began. -/
def TwoKept (w0 : World) (k : Nat) (n d : Int) (w : World) : Prop :=
  w.cell? ⟨k, 0, none⟩ = some (.int .i64 n) ∧ w.cell? ⟨k, 1, none⟩ = some (.int .i64 d) ∧ w.frozen? ⟨k, 0, none⟩ = false ∧ w.frozen? ⟨k, 1, none⟩ = false ∧ Below w0.heap.size w0 w
theorem TwoKept.next {w0 w w' : World} {k : Nat} {n d : Int} (h : TwoKept w0 k n d w) (b : Below w.heap.size w w') : TwoKept w0 k n d w' := by
  obtain ⟨c0, c1, c2, c3⟩ := below_two k _ _ b h.1 h.2.1 h.2.2.1 h.2.2.2.1
  exact ⟨c0, c1, c2, c3, h.2.2.2.2.trans (b.mono h.2.2.2.2.size)⟩
theorem specFracText_any (n d : Int) (w : World) :
    Calls Tryd.prog 6 #[.agg #[.int .i64 n, .int .i64 d]] w fun e w' => Texted (fracText n d) w w' e := by
  cases hv : fv n d
  · go_enter Tryd.func6, Tryd.ntmps6
    go_wp2_with fail
    refine (specFracValid_any _ _ _).mono ?_
    rintro e w1 ⟨rfl, b1⟩
    go_wp2
    go_ret
    exact texted_mk (fracText_no hv).symm (Below.trans (by go_grown) (b1.mono (by go_size)))
  · have p := fv_part hv
    by_cases k : d = 1
    · subst k
      go_enter Tryd.func6, Tryd.ntmps6
      go_wp2_with fail
      refine (specFracValid_any _ _ _).mono ?_
      rintro e w1 ⟨rfl, b1⟩
      obtain ⟨c0, c1, c2, c3⟩ := below_two w.heap.size (.int .i64 n) (.int .i64 1) b1 (by go_cell) (by go_cell) (by go_simp) (by go_simp)
      have bb : Below w.heap.size w w1 := Below.trans (by go_grown) (b1.mono (by go_size))
      go_wp2_with fail
      refine (l6Dec_any _ _ (by omega) (by omega)).mono ?_
      rintro e w2 ⟨rfl, b2⟩
      go_wp2
      go_ret
      exact texted_mk (fracText_whole hv rfl).symm (bb.trans (b2.mono bb.size))
    · have ht := (fracText_broken hv k).symm
      have k0 : (d == 1) = false := by simpa using k
      have a1 := fun w => add_slash (n := n) p.2.2.1 p.2.2.2 w
      have a2 := fun w => add_den (n := n) (d := d) p.2.2.1 p.2.2.2 p.1 p.2.1 w
      have ht' := Lib.hid ht
      clear ht k
      go_enter Tryd.func6, Tryd.ntmps6
      go_wp2_with fail
      refine (specFracValid_any _ _ _).mono ?_
      rintro e w1 ⟨rfl, b1⟩
      obtain ⟨c0, c1, c2, c3⟩ := below_two w.heap.size (.int .i64 n) (.int .i64 d) b1 (by go_cell) (by go_cell) (by go_simp) (by go_simp)
      have bb : Below w.heap.size w w1 := Below.trans (by go_grown) (b1.mono (by go_size))
      have K : (w1.drew.cell? ⟨w.heap.size, 0, none⟩ = some (.int .i64 n) ∧ w1.drew.cell? ⟨w.heap.size, 1, none⟩ = some (.int .i64 d) ∧ w1.drew.frozen? ⟨w.heap.size, 0, none⟩ = false ∧ w1.drew.frozen? ⟨w.heap.size, 1, none⟩ = false ∧ Below w.heap.size w w1.drew) := ⟨by go_simp, by go_simp, by go_simp, by go_simp, bb.drew⟩
      have held : ∀ W w' : World, Below W.heap.size W w' → (W.cell? ⟨w.heap.size, 0, none⟩ = some (.int .i64 n) ∧ W.cell? ⟨w.heap.size, 1, none⟩ = some (.int .i64 d) ∧ W.frozen? ⟨w.heap.size, 0, none⟩ = false ∧ W.frozen? ⟨w.heap.size, 1, none⟩ = false ∧ Below w.heap.size w W) → (w'.cell? ⟨w.heap.size, 0, none⟩ = some (.int .i64 n) ∧ w'.cell? ⟨w.heap.size, 1, none⟩ = some (.int .i64 d) ∧ w'.frozen? ⟨w.heap.size, 0, none⟩ = false ∧ w'.frozen? ⟨w.heap.size, 1, none⟩ = false ∧ Below w.heap.size w w') := fun W w' b h => TwoKept.next (n := n) (d := d) h b
      go_wp2
      have tok : True := trivial
      go_region_held3 (fun w' => (w'.cell? ⟨w.heap.size, 0, none⟩ = some (.int .i64 n) ∧ w'.cell? ⟨w.heap.size, 1, none⟩ = some (.int .i64 d) ∧ w'.frozen? ⟨w.heap.size, 0, none⟩ = false ∧ w'.frozen? ⟨w.heap.size, 1, none⟩ = false ∧ Below w.heap.size w w')) (first | exact K | exact hs2 | exact hs3) (first | (have _t := tok; clear tok _t; go_at_call 12; refine (l6Dec_any _ _ (by omega) (by omega)).mono ?_; rintro e w2 ⟨rfl, b2⟩; have hs2 := held _ _ b2 (by assumption)) | (go_at_call 12; refine (l6Dec_any _ _ (by omega) (by omega)).mono ?_; rintro e w3 ⟨rfl, b3⟩; have hs3 := held _ _ b3 (by assumption)))
      all_goals
        go_wp2
        go_ret
        exact texted_mk ht'.out hs3.2.2.2.2
@[go_sem] theorem nil_whole (w : World) : (Instr.typeAssert .nilIface 32 34 true).run Tryd.prog w = .ok (.tuple #[.int .i64 0, .bool false]) w := by kernel_rfl
@[go_sem] theorem nil_broken (w : World) : (Instr.typeAssert .nilIface 32 37 true).run Tryd.prog w = .ok (.tuple #[.agg #[.int .i64 0, .int .i64 0], .bool false]) w := by kernel_rfl
@[go_sem] theorem whole_whole (n : Int) (w : World) : (Instr.typeAssert (.iface 34 (.int .i64 n)) 32 34 true).run Tryd.prog w = .ok (.tuple #[.int .i64 n, .bool true]) w := by kernel_rfl
@[go_sem] theorem broken_whole (n d : Int) (w : World) : (Instr.typeAssert (.iface 37 (.agg #[.int .i64 n, .int .i64 d])) 32 34 true).run Tryd.prog w = .ok (.tuple #[.int .i64 0, .bool false]) w := by kernel_rfl
@[go_sem] theorem broken_broken (n d : Int) (w : World) : (Instr.typeAssert (.iface 37 (.agg #[.int .i64 n, .int .i64 d])) 32 37 true).run Tryd.prog w =
    .ok (.tuple #[.agg #[.int .i64 n, .int .i64 d], .bool true]) w := by kernel_rfl
set_option maxHeartbeats 2000000 in
theorem implFracText_any (n d : Int) (w : World) (ht : Tab w) :
    Calls Tryd.prog 5 #[.agg #[.int .i64 n, .int .i64 d]] w fun e w' => Texted (fracText n d) w w' e := by
  cases hv : fv n d
  · have hi : inside n d = .nilIface := by simp [inside, hv]
    go_enter Tryd.func5, Tryd.ntmps5
    go_wp2_with fail
    refine (rationalOf_any _ _ _).mono ?_
    rintro e w1 ⟨rfl, b1⟩
    go_wp2
    go_ret
    exact texted_mk (fracText_no hv).symm (Below.trans (by go_grown) (b1.mono (by go_size)))
  · have p := fv_part hv
    by_cases k : d = 1
    · subst k
      have hi : inside n 1 = .iface 34 (.int .i64 n) := by simp [inside, hv]
      go_enter Tryd.func5, Tryd.ntmps5
      go_wp2_with fail
      refine (rationalOf_any _ _ _).mono ?_
      rintro e w1 ⟨rfl, b1⟩
      have bb : Below w.heap.size w w1 := Below.trans (by go_grown) (b1.mono (by go_size))
      go_wp2_with fail
      refine (Itoa_any _ _ (ht.next bb) (by omega) (by omega)).mono ?_
      rintro e w2 ⟨rfl, b2⟩
      go_wp2
      go_ret
      exact texted_mk (fracText_whole hv rfl).symm (bb.trans (b2.mono bb.size))
    · have hx := (fracText_broken hv k).symm
      have k0 : (d == 1) = false := by simpa using k
      have hi : inside n d = .iface 37 (.agg #[.int .i64 n, .int .i64 d]) := by simp [inside, hv, k0]
      have a1 := fun w => add_slash (n := n) p.2.2.1 p.2.2.2 w
      have a2 := fun w => add_den (n := n) (d := d) p.2.2.1 p.2.2.2 p.1 p.2.1 w
      have ht' := Lib.hid hx
      clear hx k
      go_enter Tryd.func5, Tryd.ntmps5
      go_wp2_with fail
      refine (rationalOf_any _ _ _).mono ?_
      rintro e w1 ⟨rfl, b1⟩
      have bb : Below w.heap.size w w1 := Below.trans (by go_grown) (b1.mono (by go_size))
      have ht1 := ht.next bb
      have b3 : Below w.heap.size w (w1.alloc (.cells #[.int .i64 n, .int .i64 d] 37)).drew := (bb.alloc bb.size _).drew
      have K : ((w1.alloc (.cells #[.int .i64 n, .int .i64 d] 37)).drew.cell? ⟨w1.heap.size, 0, none⟩ = some (.int .i64 n) ∧ (w1.alloc (.cells #[.int .i64 n, .int .i64 d] 37)).drew.cell? ⟨w1.heap.size, 1, none⟩ = some (.int .i64 d) ∧ (w1.alloc (.cells #[.int .i64 n, .int .i64 d] 37)).drew.frozen? ⟨w1.heap.size, 0, none⟩ = false ∧ (w1.alloc (.cells #[.int .i64 n, .int .i64 d] 37)).drew.frozen? ⟨w1.heap.size, 1, none⟩ = false ∧ Below w.heap.size w (w1.alloc (.cells #[.int .i64 n, .int .i64 d] 37)).drew) ∧ Tab (w1.alloc (.cells #[.int .i64 n, .int .i64 d] 37)).drew := ⟨⟨by go_cell, by go_cell, by go_simp, by go_simp, b3⟩, ht.next b3⟩
      have held : ∀ W w' : World, Below W.heap.size W w' → (W.cell? ⟨w1.heap.size, 0, none⟩ = some (.int .i64 n) ∧ W.cell? ⟨w1.heap.size, 1, none⟩ = some (.int .i64 d) ∧ W.frozen? ⟨w1.heap.size, 0, none⟩ = false ∧ W.frozen? ⟨w1.heap.size, 1, none⟩ = false ∧ Below w.heap.size w W) ∧ Tab W → (w'.cell? ⟨w1.heap.size, 0, none⟩ = some (.int .i64 n) ∧ w'.cell? ⟨w1.heap.size, 1, none⟩ = some (.int .i64 d) ∧ w'.frozen? ⟨w1.heap.size, 0, none⟩ = false ∧ w'.frozen? ⟨w1.heap.size, 1, none⟩ = false ∧ Below w.heap.size w w') ∧ Tab w' := fun W w' b h => ⟨TwoKept.next (n := n) (d := d) h.1 b, h.2.next b⟩
      clear bb ht1 b1 b3
      go_wp2
      have tok : True := trivial
      go_region_held3 (fun w' => (w'.cell? ⟨w1.heap.size, 0, none⟩ = some (.int .i64 n) ∧ w'.cell? ⟨w1.heap.size, 1, none⟩ = some (.int .i64 d) ∧ w'.frozen? ⟨w1.heap.size, 0, none⟩ = false ∧ w'.frozen? ⟨w1.heap.size, 1, none⟩ = false ∧ Below w.heap.size w w') ∧ Tab w') (first | exact K | exact hs2 | exact hs3) (first | (have _t := tok; clear tok _t; go_at_call 10; refine (Itoa_any _ _ ?_ ?_ ?_).mono ?_; (first | exact K.2 | exact hs2.2); omega; omega; rintro e w2 ⟨rfl, b2⟩; have hs2 := held _ _ b2 (by assumption)) | (go_at_call 10; refine (Itoa_any _ _ ?_ ?_ ?_).mono ?_; (first | exact K.2 | exact hs2.2); omega; omega; rintro e w3 ⟨rfl, b3⟩; have hs3 := held _ _ b3 (by assumption)))
      all_goals
        go_wp2
        go_ret
        exact texted_mk ht'.out hs3.1.2.2.2.2
end Go.Proofs.YtahiidepegdnmabDoor
