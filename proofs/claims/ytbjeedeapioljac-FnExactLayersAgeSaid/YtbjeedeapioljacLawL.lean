/- What the walks of the laws on layers name. -/
import Derived.Test.YtbjeedeapioljacLayCol
import Derived.Test.YtbjeedeapioljacLayDraw
namespace Go.Proofs.Ytbjeedeapioljac
open Go.RowKit

variable {w : World} {v : Value} {l : LL}
/-- A list of layers of the call's own. -/
def GotM (w : World) (m : LL) (e : Ending) (w' : World) : Prop := ∃ v, e = .returned (.tuple #[v, .bool true]) ∧ LOwn 62 w' w.heap.size v m ∧ Below w.heap.size w w'
/-- .. none. -/
def NoM (w : World) (e : Ending) (w' : World) : Prop := ∃ v, e = .returned (.tuple #[v, .bool false]) ∧ LOwn 62 w' w.heap.size v [] ∧ Below w.heap.size w w'
/-- A list that can be read, at a known address. -/
theorem lknown {n : Nat} (h : LRow w v l) (hn : l.length = n) (h0 : 0 < n) : ∃ g p c, v = .slice (some ⟨g, p, none⟩) n c ∧ n ≤ c ∧ (c : Int) ≤ 9223372036854775807 := by
  obtain ⟨g, p, c, e, h1, h2⟩ := h.known (by omega)
  rw [hn] at e h1
  unfold maxLen at h2
  exact ⟨g, p, c, e, h1, by omega⟩
theorem lslice {n : Nat} (h : LRow w v l) (hn : l.length = n) : ∃ a c, v = .slice a n c ∧ n ≤ c ∧ (c : Int) ≤ 9223372036854775807 := by
  obtain ⟨a, c, e, h1, h2⟩ := h.len
  rw [hn] at e h1
  unfold maxLen at h2
  exact ⟨a, c, e, h1, by omega⟩
theorem cntI_yes {t b : Int} {x y : Nat} (h : LRow w v l) (ho : cntOk l t b = true) (hx : cntS t b l = x) (hy : cntA t b l = y) :
    Calls Try.prog 12 #[v, .int .i64 t, .int .i64 b] w fun e w' => e = .returned (.tuple #[.int .i64 x, .int .i64 y, .bool true]) ∧ Below w.heap.size w w' := by
  have := implCount_any t b h
  rwa [cntV_yes ho, hx, hy] at this
theorem cntI_no {t b : Int} (h : LRow w v l) (ho : cntOk l t b = false) :
    Calls Try.prog 12 #[v, .int .i64 t, .int .i64 b] w fun e w' => e = .returned (.tuple #[.int .i64 0, .int .i64 0, .bool false]) ∧ Below w.heap.size w w' := by
  have := implCount_any t b h
  rwa [cntV_no ho] at this
theorem cntS_yes {t b : Int} {x y : Nat} (h : LRow w v l) (ho : cntOk l t b = true) (hx : cntS t b l = x) (hy : cntA t b l = y) :
    Calls Try.prog 13 #[v, .int .i64 t, .int .i64 b] w fun e w' => e = .returned (.tuple #[.int .i64 x, .int .i64 y, .bool true]) ∧ Below w.heap.size w w' := by
  have := specCount_any t b h
  rwa [cntV_yes ho, hx, hy] at this
theorem cntS_no {t b : Int} (h : LRow w v l) (ho : cntOk l t b = false) :
    Calls Try.prog 13 #[v, .int .i64 t, .int .i64 b] w fun e w' => e = .returned (.tuple #[.int .i64 0, .int .i64 0, .bool false]) ∧ Below w.heap.size w w' := by
  have := specCount_any t b h
  rwa [cntV_no ho] at this
theorem halfI_yes {t b z : Int} (h : LRow w v l) (ho : cntOk l t b = true) (hz : (cntS t b l : Int) + cntA t b l = z) :
    Calls Try.prog 20 #[v, .int .i64 t, .int .i64 b] w fun e w' => e = .returned (.tuple #[.int .i64 z, .bool true]) ∧ Below w.heap.size w w' := by
  have := implHalf_any t b h
  rwa [halfV_yes ho, hz] at this
theorem halfI_no {t b : Int} (h : LRow w v l) (ho : cntOk l t b = false) :
    Calls Try.prog 20 #[v, .int .i64 t, .int .i64 b] w fun e w' => e = .returned (.tuple #[.int .i64 0, .bool false]) ∧ Below w.heap.size w w' := by
  have := implHalf_any t b h
  rwa [halfV_no ho] at this
theorem halfS_yes {t b z : Int} (h : LRow w v l) (ho : cntOk l t b = true) (hz : (cntS t b l : Int) + cntA t b l = z) :
    Calls Try.prog 19 #[v, .int .i64 t, .int .i64 b] w fun e w' => e = .returned (.tuple #[.int .i64 z, .bool true]) ∧ Below w.heap.size w w' := by
  have := specHalf_any t b h
  rwa [halfV_yes ho, hz] at this
theorem halfS_no {t b : Int} (h : LRow w v l) (ho : cntOk l t b = false) :
    Calls Try.prog 19 #[v, .int .i64 t, .int .i64 b] w fun e w' => e = .returned (.tuple #[.int .i64 0, .bool false]) ∧ Below w.heap.size w w' := by
  have := specHalf_any t b h
  rwa [halfV_no ho] at this
theorem ageI_yes {a d x y : Int} (h : LRow w v l) (ho : ageOk l a d = true) (hx : a + cntS 0 d l = x) (hy : a + cntA 0 d l = y) :
    Calls Try.prog 22 #[v, .int .i64 a, .int .i64 d] w fun e w' => e = .returned (.tuple #[.int .i64 x, .int .i64 y, .bool true]) ∧ Below w.heap.size w w' := by
  have := implAge_any a d h
  rwa [ageV_yes ho, hx, hy] at this
theorem ageI_no {a d : Int} (h : LRow w v l) (ho : ageOk l a d = false) :
    Calls Try.prog 22 #[v, .int .i64 a, .int .i64 d] w fun e w' => e = .returned (.tuple #[.int .i64 0, .int .i64 0, .bool false]) ∧ Below w.heap.size w w' := by
  have := implAge_any a d h
  rwa [ageV_no ho] at this
theorem ageS_yes {a d x y : Int} (h : LRow w v l) (ho : ageOk l a d = true) (hx : a + cntS 0 d l = x) (hy : a + cntA 0 d l = y) :
    Calls Try.prog 21 #[v, .int .i64 a, .int .i64 d] w fun e w' => e = .returned (.tuple #[.int .i64 x, .int .i64 y, .bool true]) ∧ Below w.heap.size w w' := by
  have := specAge_any a d h
  rwa [ageV_yes ho, hx, hy] at this
theorem ageS_no {a d : Int} (h : LRow w v l) (ho : ageOk l a d = false) :
    Calls Try.prog 21 #[v, .int .i64 a, .int .i64 d] w fun e w' => e = .returned (.tuple #[.int .i64 0, .int .i64 0, .bool false]) ∧ Below w.heap.size w w' := by
  have := specAge_any a d h
  rwa [ageV_no ho] at this
theorem mgI_yes {u : Value} {m o : LL} (h : LRow w v l) (k : LRow w u m) (ho : mgOf l m = some o) : Calls Try.prog 24 #[v, u] w fun e w' => GotM w o e w' := by
  have := implMerge_any h k
  rw [ho] at this; exact this
theorem mgI_no {u : Value} {m : LL} (h : LRow w v l) (k : LRow w u m) (ho : mgOf l m = none) : Calls Try.prog 24 #[v, u] w fun e w' => NoM w e w' := by
  have := implMerge_any h k
  rw [ho] at this; exact this
theorem mgS_yes {u : Value} {m o : LL} (h : LRow w v l) (k : LRow w u m) (ho : mgOf l m = some o) : Calls Try.prog 23 #[v, u] w fun e w' => GotM w o e w' := by
  have := specMerge_any h k
  rw [ho] at this; exact this
theorem mgS_no {u : Value} {m : LL} (h : LRow w v l) (k : LRow w u m) (ho : mgOf l m = none) : Calls Try.prog 23 #[v, u] w fun e w' => NoM w e w' := by
  have := specMerge_any h k
  rw [ho] at this; exact this
theorem mg_is {a b o : LL} (h : mgOf a b = some o) : isLay a = true ∧ isLay b = true ∧ isLay o = true ∧ o = mg a b := by
  unfold mgOf at h
  split at h
  · rename_i c
    simp only [Option.some.injEq] at h
    exact ⟨c.1, c.2.1, by rw [← h]; exact c.2.2, h.symm⟩
  · cases h
/-- A merging whose outcome is known. -/
theorem mg_eq_of {a b o : LL} (ha : isLay a = true) (hb : isLay b = true) (ho : isLay o = true) (e : mg a b = o) : mgOf a b = some o := by subst e; exact mgOf_yes ha hb ho
/-! The laws' own functions. -/
end Go.Proofs.Ytbjeedeapioljac
