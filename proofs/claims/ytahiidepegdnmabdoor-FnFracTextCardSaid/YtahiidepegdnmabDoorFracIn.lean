/- How the program holds fractions inside: whole ones and broken ones. -/
import Derived.Test.YtahiidepegdnmabDoorFrac
namespace Go.Proofs.YtahiidepegdnmabDoor
open Go.RowKit

/-- A fraction as the program holds it inside: nothing, a whole one or a broken one. -/
def inside (n d : Int) : Value := bif fv n d then (bif d == 1 then .iface 34 (.int .i64 n) else .iface 37 (.agg #[.int .i64 n, .int .i64 d])) else .nilIface
theorem rationalOf_any (n d : Int) (w : World) :
    Calls Tryd.prog 9 #[.agg #[.int .i64 n, .int .i64 d]] w fun e w' => e = .returned (inside n d) ∧ Below w.heap.size w w' := by
  cases hf : fv n d
  · go_enter Tryd.func9, Tryd.ntmps9
    go_wp2_with fail
    refine (implFracValid_any _ _ _).mono ?_
    rintro e w1 ⟨rfl, b1⟩
    go_wp2
    go_ret
    exact ⟨by simp [inside, hf], by refine Below.trans ?_ (b1.mono (by simp)); go_grown⟩
  · cases hd : (d == 1)
    · go_enter Tryd.func9, Tryd.ntmps9
      go_wp2_with fail
      refine (implFracValid_any _ _ _).mono ?_
      rintro e w1 ⟨rfl, b1⟩
      obtain ⟨c0, c1, c2, c3⟩ := below_two w.heap.size (.int .i64 n) (.int .i64 d) b1 (by simp) (by simp) (by simp) (by simp)
      go_wp2
      go_ret
      exact ⟨by simp [inside, hf, hd], by refine Below.trans ?_ (b1.mono (by simp)); go_grown⟩
    · go_enter Tryd.func9, Tryd.ntmps9
      go_wp2_with fail
      refine (implFracValid_any _ _ _).mono ?_
      rintro e w1 ⟨rfl, b1⟩
      obtain ⟨c0, c1, c2, c3⟩ := below_two w.heap.size (.int .i64 n) (.int .i64 d) b1 (by simp) (by simp) (by simp) (by simp)
      go_wp2
      go_ret
      exact ⟨by simp [inside, hf, hd], by refine Below.trans ?_ (b1.mono (by simp)); go_grown⟩
theorem inside_ways (n d : Int) : (fv n d = false ∧ inside n d = .nilIface) ∨ (fv n d = true ∧ ∃ T v, inside n d = .iface T v) := by
  unfold inside
  cases fv n d
  · exact .inl ⟨rfl, rfl⟩
  · cases (d == 1)
    · exact .inr ⟨rfl, _, _, rfl⟩
    · exact .inr ⟨rfl, _, _, rfl⟩
theorem inside_known {n d : Int} (h : fv n d = true) : (d = 1 ∧ inside n d = .iface 34 (.int .i64 n)) ∨ (inside n d = .iface 37 (.agg #[.int .i64 n, .int .i64 d])) := by
  unfold inside
  rw [h]
  by_cases k : d = 1
  · subst k; exact .inl ⟨rfl, rfl⟩
  · refine .inr ?_
    have : (d == 1) = false := by simpa using k
    rw [this]; rfl
/-- A call's result lies in block k; all that was there when the call began is there. -/
structure Kept (w0 w : World) (k : Nat) (u v : Value) : Prop where
  below : Below w0.heap.size w0 w
  cell0 : w.cell? ⟨k, 0, none⟩ = some u
  cell1 : w.cell? ⟨k, 1, none⟩ = some v
  free0 : w.frozen? ⟨k, 0, none⟩ = false
  free1 : w.frozen? ⟨k, 1, none⟩ = false
theorem Kept.next {w0 w w' : World} {k : Nat} {u v : Value} (h : Kept w0 w k u v) (b : Below w.heap.size w w') : Kept w0 w' k u v := by
  obtain ⟨c0, c1, c2, c3⟩ := below_two k u v b h.cell0 h.cell1 h.free0 h.free1
  exact ⟨h.below.trans (b.mono h.below.size), c0, c1, c2, c3⟩
end Go.Proofs.YtahiidepegdnmabDoor
