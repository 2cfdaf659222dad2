/- What a statement of two results leaves: a fraction in a block of its own, and whether there is one. -/
import Derived.Test.YtkcbgeldnibjcacTop
import Derived.Deep.DeepCutAuto
namespace Go.Proofs.Ytkcbgeldnibjcac
open Go.RowKit

def TwoMid (v : Bool) (r : Rat) (w0 : World) (L : List (Nat × Int × Int)) (s t : Value) (w : World) : Prop :=
  ∃ (k : Nat) (n m : Int) (ok : Bool), s = .pointer (some ⟨k, 0, none⟩) ∧ t = .bool ok ∧ Res v r n m ok ∧ St w0 w ((k, n, m) :: L)
theorem TwoMid.mk {v : Bool} {r : Rat} {w0 w : World} {L : List (Nat × Int × Int)} {k : Nat} {n m : Int} {ok : Bool} (h : Res v r n m ok) (s : St w0 w ((k, n, m) :: L)) :
    TwoMid v r w0 L (.pointer (some ⟨k, 0, none⟩)) (.bool ok) w := ⟨k, n, m, ok, rfl, rfl, h, s⟩
theorem St.put {w0 w : World} {L : List (Nat × Int × Int)} {k : Nat} {n m : Int}
    (z : w.cell? ⟨k, 0, none⟩ = some (.int .i64 n) ∧ w.cell? ⟨k, 1, none⟩ = some (.int .i64 m) ∧ w.frozen? ⟨k, 0, none⟩ = false ∧ w.frozen? ⟨k, 1, none⟩ = false ∧ k < w.heap.size) (s : St w0 w L) : St w0 w ((k, n, m) :: L) := ⟨s.below, z, s.holds⟩
end Go.Proofs.Ytkcbgeldnibjcac
