/- What the walks of the laws on cuts name. -/
import Derived.Test.YtihgfhddljicaabCutBestI
import Derived.Test.YtihgfhddljicaabCutDraw2
import Derived.Test.YtihgfhddljicaabSameI
namespace Go.Proofs.Ytihgfhddljicaab
open Go.RowKit

theorem same_below {P : Program} {f : FuncId} {a : Array Value} {w : World} {X : Ending → Prop} (h : Calls P f a w fun e w' => X e ∧ w = w') : Calls P f a w fun e w' => X e ∧ Below w.heap.size w w' :=
  h.mono fun e w' ⟨he, hw⟩ => ⟨he, by subst hw; exact Below.refl _ _⟩
/-- A list of numbers of the call's own. -/
def GotL (w : World) (m : List Int) (e : Ending) (w' : World) : Prop := ∃ v, e = .returned (.tuple #[v, .bool true]) ∧ IOwn w' w.heap.size v m ∧ Below w.heap.size w w'
/-- .. none. -/
def NoL (w : World) (e : Ending) (w' : World) : Prop := ∃ v, e = .returned (.tuple #[v, .bool false]) ∧ IOwn w' w.heap.size v [] ∧ Below w.heap.size w w'
variable {w : World} {v u : Value} {c l m : List Int} {lo mo : Int}
theorem bestI_yes (h : IRow w v c) (hx : bestB c lo mo = some m) : Calls Try.prog 13 #[v, .int .i64 lo, .int .i64 mo] w fun e w' => GotL w m e w' := bestI_is h hx
theorem bestI_no (h : IRow w v c) (hx : bestB c lo mo = none) : Calls Try.prog 13 #[v, .int .i64 lo, .int .i64 mo] w fun e w' => NoL w e w' := bestI_is h hx
theorem bestS_yes (h : IRow w v c) (hx : bestB c lo mo = some m) : Calls Try.prog 14 #[v, .int .i64 lo, .int .i64 mo] w fun e w' => GotL w m e w' := bestS_is h hx
theorem bestS_no (h : IRow w v c) (hx : bestB c lo mo = none) : Calls Try.prog 14 #[v, .int .i64 lo, .int .i64 mo] w fun e w' => NoL w e w' := bestS_is h hx
theorem allowSB {b : Bool} (h : IRow w v c) (k : IRow w u l) (hl : l.length ≤ 100000000) (hb : allowedB c lo mo l = b) :
    Calls Try.prog 25 #[v, .int .i64 lo, .int .i64 mo, u] w fun e w' => e = .returned (.bool b) ∧ Below w.heap.size w w' := same_below (allowS_is h k hl hb)
theorem costI_yes {a b : Nat} {x : Int} (h : IRow w v c) (k : IRow w u l) (al : IsAllowed c a b l) (hx : costAt c l = x) :
    Calls Try.prog 16 #[v, .int .i64 a, .int .i64 b, u] w fun e w' => e = .returned (.int .i64 x) ∧ Below w.heap.size w w' :=
  costI_is h k (by have := al.size; have := al.len; omega) (by rw [al.cost, hx])
theorem known_n {m : List Int} {n : Nat} (h : IRow w v m) (hn : m.length = n) (h0 : 0 < n) : ∃ g o c, v = .slice (some ⟨g, o, none⟩) n c ∧ n ≤ c ∧ c ≤ 9223372036854775807 := by
  subst hn
  obtain ⟨g, o, c, e, h1, h2⟩ := h.known h0
  unfold maxLen at h2
  exact ⟨g, o, c, e, h1, by omega⟩
theorem len_n {m : List Int} (h : IRow w v m) : ∃ a c, v = .slice a m.length c ∧ m.length ≤ c ∧ c ≤ 9223372036854775807 := by
  obtain ⟨a, c, e, h1, h2⟩ := h.len
  unfold maxLen at h2
  exact ⟨a, c, e, h1, by omega⟩
/-- All places. -/
def eachL (n : Nat) : List Int := (List.range n).map fun (i : Nat) => (i : Int)
theorem eachL_length (n : Nat) : (eachL n).length = n := by simp [eachL]
theorem eachL_next (n : Nat) : eachL n ++ [(n : Int)] = eachL (n + 1) := by simp [eachL, List.range_succ]
theorem each_allowed (hs : isSig c = true) : allowedB c 1 1 (eachL c.length) = true := by
  have := goes_each (e := (c.length : Int) - 1) (p := -1) c.length (by omega)
  have e : (fun (i : Nat) => (-1 : Int) + 1 + (i : Int)) = fun (i : Nat) => (i : Int) := by funext i; omega
  rw [e] at this
  exact allowedB_iff.2 ⟨hs, by decide, this⟩
theorem one_allowed (hs : isSig c = true) : allowedB c c.length c.length [(c.length : Int) - 1] = true := by
  have := isSig_iff.1 hs
  exact allowedB_iff.2 ⟨hs, isLim_iff.2 (by omega), by simp [goes]; omega⟩
end Go.Proofs.Ytihgfhddljicaab
