/- Ties as curves: when there is one. Plain mathematics, no program in it. -/
import Derived.Test.YthhdpjkmjebjhabTieLaw
namespace Go.Proofs.Ythhdpjkmjebjhab

theorem curT_yes {l : List Ti} (h : isTies l = true) (h2 : 2 ≤ l.length) : curT l = some l := if_pos ⟨h, h2⟩
theorem curT_no {l : List Ti} (h : isTies l = false ∨ l.length < 2) : curT l = none := if_neg (by rcases h with h | h <;> simp [h])
end Go.Proofs.Ythhdpjkmjebjhab
