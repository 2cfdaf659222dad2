/- More that the walks of the laws on layers name: depths, thicknesses. -/
import Derived.Test.YtbjeedeapioljabLawL
import Derived.Test.YtbjeedeapioljabLayDep
import Derived.Test.YtbjeedeapioljabSameI
namespace Go.Proofs.Ytbjeedeapioljab
open Go.RowKit

variable {w : World} {v : Value} {l : LL}
theorem dthI_yes {n d : Int} (h : LRow w v l) (ho : dthOk l n = some d) : Calls Try.prog 13 #[v, .int .i64 n] w fun e w' => e = .returned (.tuple #[.int .i64 d, .bool true]) ∧ Below w.heap.size w w' := by
  have := implDepth_any n h
  rwa [dthV_yes ho] at this
theorem dthI_no {n : Int} (h : LRow w v l) (ho : dthOk l n = none) : Calls Try.prog 13 #[v, .int .i64 n] w fun e w' => e = .returned (.tuple #[.int .i64 0, .bool false]) ∧ Below w.heap.size w w' := by
  have := implDepth_any n h
  rwa [dthV_no ho] at this
theorem dthS_yes {n d : Int} (h : LRow w v l) (ho : dthOk l n = some d) : Calls Try.prog 14 #[v, .int .i64 n] w fun e w' => e = .returned (.tuple #[.int .i64 d, .bool true]) ∧ Below w.heap.size w w' := by
  have := specDepth_any n h
  rwa [dthV_yes ho] at this
theorem dthS_no {n : Int} (h : LRow w v l) (ho : dthOk l n = none) : Calls Try.prog 14 #[v, .int .i64 n] w fun e w' => e = .returned (.tuple #[.int .i64 0, .bool false]) ∧ Below w.heap.size w w' := by
  have := specDepth_any n h
  rwa [dthV_no ho] at this
theorem iknown {n : Nat} {l : List Int} (h : IRow w v l) (hn : l.length = n) (h0 : 0 < n) : ∃ g p c, v = .slice (some ⟨g, p, none⟩) n c ∧ n ≤ c ∧ (c : Int) ≤ 9223372036854775807 := by
  obtain ⟨g, p, c, e, h1, h2⟩ := h.known (by omega)
  rw [hn] at e h1
  unfold maxLen at h2
  exact ⟨g, p, c, e, h1, by omega⟩
theorem islice {n : Nat} {l : List Int} (h : IRow w v l) (hn : l.length = n) : ∃ a c, v = .slice a n c ∧ n ≤ c ∧ (c : Int) ≤ 9223372036854775807 := by
  obtain ⟨a, c, e, h1, h2, _⟩ := h.parts
  rw [hn] at e h1
  unfold maxLen at h2
  exact ⟨a, c, e, h1, by omega⟩
theorem take_sum_bound {l : List Int} {c : Int} (hb : ∀ x ∈ l, 0 ≤ x ∧ x ≤ c) (hc : 0 ≤ c) (j : Nat) : 0 ≤ (l.take j).sum ∧ (l.take j).sum ≤ c * j := by
  induction l generalizing j with
  | nil => simp; exact Int.mul_nonneg hc (by omega)
  | cons x l ih =>
    cases j with
    | zero => simp
    | succ j =>
      have := ih (fun y hy => hb y (by simp [hy])) j
      have h1 := hb x (by simp)
      have e : c * ((j + 1 : Nat) : Int) = c * j + c := by rw [Int.natCast_add, Int.mul_add]; simp
      rw [List.take_succ_cons, List.sum_cons, e]; omega
theorem take_sum_step {l : List Int} {j : Nat} (hj : j < l.length) : (l.take (j + 1)).sum = (l.take j).sum + l[j] := by
  rw [List.take_succ_eq_append_getElem hj, List.sum_append]; simp
theorem sumOf_any {l : List Int} (h : IRow w v l) (hb : ∀ x ∈ l, 0 ≤ x ∧ x ≤ 30000) (h40 : l.length ≤ 40) : Calls Try.prog 20 #[v] w fun e w' => e = .returned (.int .i64 l.sum) ∧ Below w.heap.size w w' := by
  obtain ⟨a', c', rfl, h1', h2', hlie⟩ := h.parts
  have H := Lib.hid hlie; have HM := Lib.hid hb
  unfold maxLen at h2'
  clear h hlie hb
  go_enter Try.func20, Try.ntmps20
  go_wp2_with fail
  go_loopg [3, 4] l.length (fun k y x wr => ∃ j : Nat, x = .int .i64 j ∧ y = .int .i64 (l.take j).sum ∧ j + k = l.length ∧ w = wr)
  case atStart => exact ⟨0, rfl, rfl, by omega, rfl⟩
  case round =>
    obtain ⟨j, rfl, rfl, hk, rfl⟩ := hrel
    have K := Lib.hid hk
    have hjl : j ≤ l.length := by omega
    clear hk
    by_cases hlt : j < l.length
    · obtain ⟨g, o, rfl, d1⟩ := ilies_cell H.out j hlt
      have i1 : (j : Int) < (l.length : Int) := by omega
      have i2 : (0 : Int) ≤ (j : Int) := by omega
      have hs := take_sum_step hlt
      have s2 := take_sum_bound HM.out (by omega) (j + 1)
      have e1 : IntKind.i64.wrap ((l.take j).sum + l[j]) = (l.take (j + 1)).sum := by rw [← hs]; exact IntWalk.i64_in _ (by omega)
      have E1 := Lib.hid e1
      clear hs s2
      go_wp2_with fail
      go_roundg (gk - 1)
      case measure => have := K.out; omega
      case rel => exact ⟨j + 1, by go_num, by first | rfl | (rw [E1.out]), by have := K.out; omega, rfl⟩
    · have hj : j = l.length := by omega
      have E : Hid ((l.take j).sum = l.sum) := Lib.hid (by rw [List.take_of_length_le (by omega)])
      go_wp2_with fail
      go_ret
      exact ⟨by rw [← E.out]; rfl, Below.refl _ _⟩
theorem mgI_any {u : Value} {m : LL} (h : LRow w v l) (k : LRow w u m) : Calls Try.prog 22 #[v, u] w fun e w' => ∃ x, e = .returned (.tuple #[x, .bool (mgOf l m).isSome]) ∧ LOwn 37 w' w.heap.size x ((mgOf l m).getD []) ∧ Below w.heap.size w w' := implMerge_any h k
/-- One millimeter deeper, and uncertain. -/
def shf (l : LL) : LL := l.map fun x => (x.1 + 1, false)
theorem shf_length (l : LL) : (shf l).length = l.length := by simp [shf]
/-- What the laws ask of thicknesses. -/
theorem thk_small {l : LL} (h : isLay l = true) : ∀ d ∈ thk l, 0 ≤ d ∧ d ≤ 30000 := by
  rw [thk_yes h]
  have hp := (sures_up (isLay_iff.1 h).2.1).1
  have hb : ∀ d ∈ sures l, 0 ≤ d ∧ d ≤ 30000 := fun d hd => by
    simp only [sures, List.mem_map, List.mem_filter] at hd
    obtain ⟨x, ⟨hx, _⟩, rfl⟩ := hd
    exact lay_in h x hx
  have key : ∀ s : List Int, (∀ d ∈ s, 0 ≤ d ∧ d ≤ 30000) → s.Pairwise (· < ·) → ∀ d ∈ diffs s, 0 ≤ d ∧ d ≤ 30000 := by
    intro s
    induction s with
    | nil => intro _ _ d hd; simp [diffs] at hd
    | cons a s ih =>
      intro hb hp d hd
      cases s with
      | nil => simp [diffs] at hd
      | cons b s =>
        rw [diffs_two] at hd
        rcases List.mem_cons.1 hd with rfl | hd
        · have h1 := hb a (by simp); have h2 := hb b (by simp)
          have h3 := (List.pairwise_cons.1 hp).1 b (by simp)
          omega
        · exact ih (fun d hd => hb d (by simp [hd])) (List.pairwise_cons.1 hp).2 d hd
  exact key _ hb hp
theorem thk_len {l : LL} (h : isLay l = true) : (thk l).length ≤ 40 := by
  rw [thk_yes h]; have := diffs_len l; have := lay_len h; omega
end Go.Proofs.Ytbjeedeapioljab
