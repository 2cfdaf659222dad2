/- The exact laws on layers: what their walks name. -/
import Derived.Test.YtbjeedeapioljacExactL
namespace Go.Proofs.Ytbjeedeapioljac
open Go.RowKit

theorem cntV_form (l : LL) (t b : Int) : ∃ (x y : Int) (c : Bool), cntV l t b = .tuple #[.int .i64 x, .int .i64 y, .bool c] := by
  unfold cntV; split
  · exact ⟨_, _, _, rfl⟩
  · exact ⟨_, _, _, rfl⟩
theorem ageV_form (l : LL) (t b : Int) : ∃ (x y : Int) (c : Bool), ageV l t b = .tuple #[.int .i64 x, .int .i64 y, .bool c] := by
  unfold ageV; split
  · exact ⟨_, _, _, rfl⟩
  · exact ⟨_, _, _, rfl⟩
theorem halfV_form (l : LL) (t b : Int) : ∃ (x : Int) (c : Bool), halfV l t b = .tuple #[.int .i64 x, .bool c] := by
  unfold halfV; split
  · exact ⟨_, _, rfl⟩
  · exact ⟨_, _, rfl⟩
theorem dthV_form (l : LL) (n : Int) : ∃ (x : Int) (c : Bool), dthV l n = .tuple #[.int .i64 x, .bool c] := by
  unfold dthV; split
  · exact ⟨_, _, rfl⟩
  · exact ⟨_, _, rfl⟩
theorem ret_gen {P : Program} {f : FuncId} {x : Array Value} {w : World} {v u : Value} (h : Calls P f x w fun e w' => e = .returned v ∧ Below w.heap.size w w') (e : v = u) : Calls P f x w fun e w' => e = .returned u ∧ Below w.heap.size w w' := by
  subst e; exact h
theorem mg20 (a b : LL) : ((mgOf a b).getD []).length ≤ 1000 := by
  cases h : mgOf a b with
  | none => simp
  | some o =>
    have := lay_len (mg_is h).2.2.1
    simp only [Option.getD_some]; omega
theorem diffs20 : ∀ l : List Int, (diffs l).length ≤ l.length
  | [] => Nat.le_refl _
  | [_] => by simp [diffs]
  | a :: b :: l => by have := diffs20 (b :: l); simp [diffs] at this ⊢; omega
theorem thk20 (l : LL) : (thk l).length ≤ 1000 := by
  cases h : isLay l
  · rw [thk_no h]; simp
  · rw [thk_yes h]
    have h1 := diffs20 (sures l)
    have h2 : (sures l).length ≤ l.length := by
      unfold sures; rw [List.length_map]; exact List.length_filter_le _ _
    have := lay_len h
    omega
theorem llstb_gen {P : Program} {f : FuncId} {x : Array Value} {w : World} {o : Option LL} {m : LL} {b : Bool} {T : TypeId} (h : Calls P f x w fun e w' => LLstB T w o e w') (e1 : o.getD [] = m) (e2 : o.isSome = b) :
    Calls P f x w fun e w' => ∃ v, e = .returned (.tuple #[v, .bool b]) ∧ LOwn T w' w.heap.size v m ∧ Below w.heap.size w w' := by
  subst e1 e2; exact h
theorem lstn_gen {P : Program} {f : FuncId} {x : Array Value} {w : World} {m m' : List Int} (h : Calls P f x w fun e w' => LstN w m e w') (e1 : m = m') :
    Calls P f x w fun e w' => ∃ v, e = .returned v ∧ IOwn w' w.heap.size v m' ∧ Below w.heap.size w w' := by
  subst e1; exact h
end Go.Proofs.Ytbjeedeapioljac
