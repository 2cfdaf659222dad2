/- Contracts in the form that the laws' walks take, and the laws' own mathematics. -/
import Derived.Test.YtdljfikgmhdedaaSame
import Derived.Test.YtdljfikgmhdedaaCoreDraws
import Derived.Test.YtdljfikgmhdedaaImplJoin
namespace Go.Proofs.Ytdljfikgmhdedaa
open Go.RowKit

def No (w : World) (e : Ending) (w' : World) : Prop := ∃ v, e = .returned (.tuple #[v, .bool false]) ∧ Row w' v [] ∧ Below w.heap.size w w'
def Yes (w : World) (m : List Pc) (e : Ending) (w' : World) : Prop := ∃ v, e = .returned (.tuple #[v, .bool true]) ∧ Row w' v m ∧ Below w.heap.size w w'
def Ls (w : World) (m : List Pc) (e : Ending) (w' : World) : Prop := ∃ v, e = .returned v ∧ Row w' v m ∧ Below w.heap.size w w'
theorem val_is {P : Program} {f : FuncId} {a : Array Value} {w : World} {v v' : Value} (h : Calls P f a w fun e w' => Val w v e w') (e : v = v') : Calls P f a w fun e w' => Val w v' e w' := by subst e; exact h
theorem lst_is {P : Program} {f : FuncId} {a : Array Value} {w : World} {m m' : List Pc} (h : Calls P f a w fun e w' => Lst w m e w') (e : m = m') : Calls P f a w fun e w' => Ls w m' e w' := by
  subst e; exact h.mono fun e w' ⟨v, h1, h2, h3⟩ => ⟨v, h1, h2.row, h3⟩
theorem lstb_no {P : Program} {f : FuncId} {a : Array Value} {w : World} {o : Option (List Pc)} (h : Calls P f a w fun e w' => LstB w o e w') (e : o = none) : Calls P f a w fun e w' => No w e w' := by
  subst e; exact h.mono fun e w' ⟨v, h1, h2, h3⟩ => ⟨v, h1, h2.row, h3⟩
theorem lstb_yes {P : Program} {f : FuncId} {a : Array Value} {w : World} {o : Option (List Pc)} {m : List Pc} (h : Calls P f a w fun e w' => LstB w o e w') (e : o = some m) : Calls P f a w fun e w' => Yes w m e w' := by
  subst e; exact h.mono fun e w' ⟨v, h1, h2, h3⟩ => ⟨v, h1, h2.row, h3⟩
theorem Row.len {w : World} {v : Value} {l : List Pc} (h : Row w v l) : ∃ a c, v = .slice a l.length c ∧ l.length ≤ c ∧ c ≤ maxLen := by
  obtain ⟨a, n, c, rfl, h1, h2, h3, _⟩ := h
  subst h1
  exact ⟨a, c, rfl, h2, h3⟩
/-- A slice of a list, and its cells. -/
theorem Row.parts {w : World} {v : Value} {l : List Pc} (h : Row w v l) : ∃ a c, v = .slice a l.length c ∧ l.length ≤ c ∧ c ≤ maxLen ∧ Lies w a l := by
  obtain ⟨a, n, c, rfl, h1, h2, h3, h4⟩ := h
  subst h1
  exact ⟨a, c, rfl, h2, h3, h4⟩
theorem same_yes {w : World} {v u : Value} {l m : List Pc} (h : Row w v l) (k : Row w u m) (e : l = m) : Calls Try.prog 24 #[v, u] w fun e w' => Val w (.bool true) e w' :=
  val_is (sameCore_any h k) (by rw [decide_eq_true e])

theorem joinOf_some {l m : List Pc} (h : joinOf l = some m) : isCore l = true ∧ m = join l := by
  unfold joinOf at h
  split at h
  · exact ⟨by assumption, by simpa using h.symm⟩
  · simp at h
theorem join_core {l : List Pc} (h : isCore l = true) : isCore (join l) = true := by
  obtain ⟨h1, h2⟩ := isCore_iff.1 h
  exact isCore_iff.2 ⟨by have := join_length_le l; omega, join_V h2⟩
theorem gaps_core {l : List Pc} (h : isCore l = true) : isCore (gaps l) = true := by
  obtain ⟨h1, h2⟩ := isCore_iff.1 h
  exact isCore_iff.2 ⟨by have := gaps_length_le l; omega, gaps_V h2⟩
theorem cutOf_some {d : Int} {l m : List Pc} (h : cutOf d l = some m) : isCore l = true ∧ l.length < 20 ∧ ct d l = some m := by
  unfold cutOf at h
  split at h
  · rename_i hc; exact ⟨hc.1, hc.2, h⟩
  · simp at h
theorem cut_core {d : Int} {l m : List Pc} (h : cutOf d l = some m) : isCore m = true := by
  obtain ⟨h1, h2, h3⟩ := cutOf_some h
  exact isCore_iff.2 ⟨by have := (ct_len h3).2; omega, ct_V h3 (isCore_iff.1 h1).2⟩
theorem cut_again {d : Int} {l m : List Pc} (h : cutOf d l = some m) : cutOf d m = none := by
  obtain ⟨h1, h2, h3⟩ := cutOf_some h
  unfold cutOf
  split
  · exact ct_twice h3
  · rfl
theorem btOf_some {t u : Int} {l m : List Pc} (h : btOf t u l = some m) : isCore l = true ∧ 0 ≤ t ∧ t ≤ u ∧ u ≤ 30000 ∧ m = bt t u l := by
  unfold btOf at h
  split at h
  · rename_i hc; exact ⟨hc.1, hc.2.1, hc.2.2.1, hc.2.2.2, by simpa using h.symm⟩
  · simp at h
theorem btOf_is {t u : Int} {l : List Pc} (h : isCore l = true) (h0 : 0 ≤ t) (h1 : t ≤ u) (h2 : u ≤ 30000) : btOf t u l = some (bt t u l) := if_pos ⟨h, h0, h1, h2⟩
theorem bt_core {l : List Pc} (t u : Int) (h : isCore l = true) : isCore (bt t u l) = true := by
  obtain ⟨h1, h2⟩ := isCore_iff.1 h
  exact isCore_iff.2 ⟨by have := bt_length t u l; omega, bt_V h2⟩
theorem lenOf_is {l : List Pc} (h : isCore l = true) : lenOf l = len l := if_pos h
theorem hasOf_is {d : Int} {l : List Pc} (h : isCore l = true) : hasOf d l = ix d l := if_pos h
theorem gapsOf_is {l : List Pc} (h : isCore l = true) : gapsOf l = gaps l := if_pos h
theorem joinOf_is {l : List Pc} (h : isCore l = true) : joinOf l = some (join l) := if_pos h
theorem hasOf_core {d : Int} {l : List Pc} (h : 0 ≤ hasOf d l) : isCore l = true ∧ hasOf d l = ix d l := by
  unfold hasOf at h ⊢
  split at h
  · rename_i hc; exact ⟨hc, if_pos hc⟩
  · omega
theorem lenOf_core {l : List Pc} (h : 0 ≤ lenOf l) : isCore l = true ∧ lenOf l = len l := by
  unfold lenOf at h ⊢
  split at h
  · rename_i hc; exact ⟨hc, if_pos hc⟩
  · omega
end Go.Proofs.Ytdljfikgmhdedaa
