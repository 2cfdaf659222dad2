/- What the walks of the laws on layers name. -/
import Derived.Test.YtbjeedeapioljabLayCol
import Derived.Test.YtbjeedeapioljabLayDraw
namespace Go.Proofs.Ytbjeedeapioljab
open Go.RowKit

variable {w : World} {v : Value} {l : LL}
/-- A list of layers of the call's own. -/
def GotM (w : World) (m : LL) (e : Ending) (w' : World) : Prop := ∃ v, e = .returned (.tuple #[v, .bool true]) ∧ LOwn 37 w' w.heap.size v m ∧ Below w.heap.size w w'
/-- .. none. -/
def NoM (w : World) (e : Ending) (w' : World) : Prop := ∃ v, e = .returned (.tuple #[v, .bool false]) ∧ LOwn 37 w' w.heap.size v [] ∧ Below w.heap.size w w'
/-- A list that can be read, at a known address. -/
theorem lknown {n : Nat} (h : LRow w v l) (hn : l.length = n) (h0 : 0 < n) : ∃ g p c, v = .slice (some ⟨g, p, none⟩) n c ∧ n ≤ c ∧ (c : Int) ≤ 9223372036854775807 := by
  obtain ⟨g, p, c, e, h1, h2⟩ := h.known (by omega)
  rw [hn] at e h1
  unfold maxLen at h2
  exact ⟨g, p, c, e, h1, by omega⟩
theorem lslice {n : Nat} (h : LRow w v l) (hn : l.length = n) : ∃ a c, v = .slice a n c ∧ n ≤ c ∧ (c : Int) ≤ 9223372036854775807 := by
  obtain ⟨a, c, e, h1, h2⟩ := h.len
  rw [hn] at e h1
  unfold maxLen at h2
  exact ⟨a, c, e, h1, by omega⟩
theorem cntI_yes {t b : Int} {x y : Nat} (h : LRow w v l) (ho : cntOk l t b = true) (hx : cntS t b l = x) (hy : cntA t b l = y) :
    Calls Try.prog 15 #[v, .int .i64 t, .int .i64 b] w fun e w' => e = .returned (.tuple #[.int .i64 x, .int .i64 y, .bool true]) ∧ Below w.heap.size w w' := by
  have := implCount_any t b h
  rwa [cntV_yes ho, hx, hy] at this
theorem cntI_no {t b : Int} (h : LRow w v l) (ho : cntOk l t b = false) :
    Calls Try.prog 15 #[v, .int .i64 t, .int .i64 b] w fun e w' => e = .returned (.tuple #[.int .i64 0, .int .i64 0, .bool false]) ∧ Below w.heap.size w w' := by
  have := implCount_any t b h
  rwa [cntV_no ho] at this
theorem cntS_yes {t b : Int} {x y : Nat} (h : LRow w v l) (ho : cntOk l t b = true) (hx : cntS t b l = x) (hy : cntA t b l = y) :
    Calls Try.prog 26 #[v, .int .i64 t, .int .i64 b] w fun e w' => e = .returned (.tuple #[.int .i64 x, .int .i64 y, .bool true]) ∧ Below w.heap.size w w' := by
  have := specCount_any t b h
  rwa [cntV_yes ho, hx, hy] at this
theorem cntS_no {t b : Int} (h : LRow w v l) (ho : cntOk l t b = false) :
    Calls Try.prog 26 #[v, .int .i64 t, .int .i64 b] w fun e w' => e = .returned (.tuple #[.int .i64 0, .int .i64 0, .bool false]) ∧ Below w.heap.size w w' := by
  have := specCount_any t b h
  rwa [cntV_no ho] at this
theorem halfI_yes {t b z : Int} (h : LRow w v l) (ho : cntOk l t b = true) (hz : (cntS t b l : Int) + cntA t b l = z) :
    Calls Try.prog 28 #[v, .int .i64 t, .int .i64 b] w fun e w' => e = .returned (.tuple #[.int .i64 z, .bool true]) ∧ Below w.heap.size w w' := by
  have := implHalf_any t b h
  rwa [halfV_yes ho, hz] at this
theorem halfI_no {t b : Int} (h : LRow w v l) (ho : cntOk l t b = false) :
    Calls Try.prog 28 #[v, .int .i64 t, .int .i64 b] w fun e w' => e = .returned (.tuple #[.int .i64 0, .bool false]) ∧ Below w.heap.size w w' := by
  have := implHalf_any t b h
  rwa [halfV_no ho] at this
theorem halfS_yes {t b z : Int} (h : LRow w v l) (ho : cntOk l t b = true) (hz : (cntS t b l : Int) + cntA t b l = z) :
    Calls Try.prog 29 #[v, .int .i64 t, .int .i64 b] w fun e w' => e = .returned (.tuple #[.int .i64 z, .bool true]) ∧ Below w.heap.size w w' := by
  have := specHalf_any t b h
  rwa [halfV_yes ho, hz] at this
theorem halfS_no {t b : Int} (h : LRow w v l) (ho : cntOk l t b = false) :
    Calls Try.prog 29 #[v, .int .i64 t, .int .i64 b] w fun e w' => e = .returned (.tuple #[.int .i64 0, .bool false]) ∧ Below w.heap.size w w' := by
  have := specHalf_any t b h
  rwa [halfV_no ho] at this
theorem ageI_yes {a d x y : Int} (h : LRow w v l) (ho : ageOk l a d = true) (hx : a + cntS 0 d l = x) (hy : a + cntA 0 d l = y) :
    Calls Try.prog 32 #[v, .int .i64 a, .int .i64 d] w fun e w' => e = .returned (.tuple #[.int .i64 x, .int .i64 y, .bool true]) ∧ Below w.heap.size w w' := by
  have := implAge_any a d h
  rwa [ageV_yes ho, hx, hy] at this
theorem ageI_no {a d : Int} (h : LRow w v l) (ho : ageOk l a d = false) :
    Calls Try.prog 32 #[v, .int .i64 a, .int .i64 d] w fun e w' => e = .returned (.tuple #[.int .i64 0, .int .i64 0, .bool false]) ∧ Below w.heap.size w w' := by
  have := implAge_any a d h
  rwa [ageV_no ho] at this
theorem ageS_yes {a d x y : Int} (h : LRow w v l) (ho : ageOk l a d = true) (hx : a + cntS 0 d l = x) (hy : a + cntA 0 d l = y) :
    Calls Try.prog 33 #[v, .int .i64 a, .int .i64 d] w fun e w' => e = .returned (.tuple #[.int .i64 x, .int .i64 y, .bool true]) ∧ Below w.heap.size w w' := by
  have := specAge_any a d h
  rwa [ageV_yes ho, hx, hy] at this
theorem ageS_no {a d : Int} (h : LRow w v l) (ho : ageOk l a d = false) :
    Calls Try.prog 33 #[v, .int .i64 a, .int .i64 d] w fun e w' => e = .returned (.tuple #[.int .i64 0, .int .i64 0, .bool false]) ∧ Below w.heap.size w w' := by
  have := specAge_any a d h
  rwa [ageV_no ho] at this
theorem mgI_yes {u : Value} {m o : LL} (h : LRow w v l) (k : LRow w u m) (ho : mgOf l m = some o) : Calls Try.prog 22 #[v, u] w fun e w' => GotM w o e w' := by
  have := implMerge_any h k
  rw [ho] at this; exact this
theorem mgI_no {u : Value} {m : LL} (h : LRow w v l) (k : LRow w u m) (ho : mgOf l m = none) : Calls Try.prog 22 #[v, u] w fun e w' => NoM w e w' := by
  have := implMerge_any h k
  rw [ho] at this; exact this
theorem mgS_yes {u : Value} {m o : LL} (h : LRow w v l) (k : LRow w u m) (ho : mgOf l m = some o) : Calls Try.prog 23 #[v, u] w fun e w' => GotM w o e w' := by
  have := specMerge_any h k
  rw [ho] at this; exact this
theorem mgS_no {u : Value} {m : LL} (h : LRow w v l) (k : LRow w u m) (ho : mgOf l m = none) : Calls Try.prog 23 #[v, u] w fun e w' => NoM w e w' := by
  have := specMerge_any h k
  rw [ho] at this; exact this
theorem mg_is {a b o : LL} (h : mgOf a b = some o) : isLay a = true ∧ isLay b = true ∧ isLay o = true ∧ o = mg a b := by
  unfold mgOf at h
  split at h
  · rename_i c
    simp only [Option.some.injEq] at h
    exact ⟨c.1, c.2.1, by rw [← h]; exact c.2.2, h.symm⟩
  · cases h
/-- A merging whose outcome is known. -/
theorem mg_eq_of {a b o : LL} (ha : isLay a = true) (hb : isLay b = true) (ho : isLay o = true) (e : mg a b = o) : mgOf a b = some o := by subst e; exact mgOf_yes ha hb ho
/-! The laws' own functions. -/
set_option maxHeartbeats 800000 in
theorem lsame_yes {u : Value} {m : LL} (h : LRow w v l) (k : LRow w u m) (e : m = l) :
    Calls Try.prog 24 #[v, u] w fun e w' => e = .returned (.bool true) ∧ Below w.heap.size w w' := by
  subst e
  obtain ⟨a, c, rfl, h1, h2, hlie⟩ := h.parts
  obtain ⟨a', c', rfl, h1', h2', hlie'⟩ := k.parts
  have H1 := Lib.hid hlie; have H2 := Lib.hid hlie'
  unfold maxLen at h2 h2'
  clear h k hlie hlie'
  go_enter Try.func24, Try.ntmps24
  go_wp2_with fail
  go_loopg [5] m.length (fun k x wr => ∃ j : Nat, x = .int .i64 j ∧ j + k = m.length ∧ Below w.heap.size w wr)
  case atStart => exact ⟨0, rfl, by omega, Below.refl _ _⟩
  case round =>
    obtain ⟨j, rfl, hk, hb⟩ := hrel
    have K := Lib.hid hk; have B := Lib.hid hb
    have hjn : j ≤ m.length := by omega
    clear hk hb
    by_cases hlt : j < m.length
    · obtain ⟨g, o, rfl, c1, c2⟩ := llies_cell H1.out j hlt
      obtain ⟨g', o', rfl, c3, c4⟩ := llies_cell H2.out j hlt
      have d1 := (B.out.cell (cell_below c1)).trans c1
      have d2 := (B.out.cell (cell_below c2)).trans c2
      have d3 := (B.out.cell (cell_below c3)).trans c3
      have d4 := (B.out.cell (cell_below c4)).trans c4
      clear c1 c2 c3 c4
      have f1 : (m[j].1 == m[j].1) = true := by simp
      have f2 : (m[j].2 == m[j].2) = true := by simp
      go_wp2_with fail
      go_quiet (fail)
      go_wp2_with fail
      go_roundg (gk - 1)
      case measure => have := K.out; omega
      case rel => exact ⟨j + 1, by go_num, by have := K.out; omega, below_drews B.out _⟩
    · go_wp2_with fail
      go_ret
      exact ⟨rfl, B.out⟩
theorem setS_step (s : Bool) (l : LL) (j : Nat) (hj : j < l.length) : setS s (l.take (j + 1)) = setS s (l.take j) ++ [(l[j].1, s)] := by rw [take_one l j hj]; simp only [setS, List.map_append, List.map_cons, List.map_nil]
set_option maxHeartbeats 800000 in
theorem allSure_any (s : Bool) (h : LRow w v l) (hl : l.length ≤ 1000000) :
    Calls Try.prog 30 #[v, .bool s] w fun e w' => ∃ u, e = .returned u ∧ LOwn 37 w' w.heap.size u (setS s l) ∧ Below w.heap.size w w' := by
  obtain ⟨a, c, rfl, h1, h2, hlie⟩ := h.parts
  have H1 := Lib.hid hlie
  unfold maxLen at h2
  clear h hlie
  have BE : Hid (Below w.heap.size w (w.alloc (.cells #[] 37))) := Lib.hid ((Below.refl _ _).alloc (Nat.le_refl _) _)
  have OE := Lib.hid (lown_new 37 (Nat.le_refl w.heap.size))
  go_enter Try.func30, Try.ntmps30
  go_wp2_with fail
  go_loopg [5, 6] l.length (fun k u x wr => ∃ j : Nat, x = .int .i64 j ∧ j + k = l.length ∧ LOwn 37 wr w.heap.size u (setS s (l.take j)) ∧ Below w.heap.size w wr)
  case atStart => exact ⟨0, rfl, by omega, OE.out, BE.out⟩
  case round =>
    obtain ⟨j, rfl, hk, ho, hb⟩ := hrel
    have K := Lib.hid hk; have O := Lib.hid ho; have B := Lib.hid hb
    have hjn : j ≤ l.length := by omega
    have hsz := hb.size
    clear hk ho hb
    by_cases hlt : j < l.length
    · obtain ⟨g, o, rfl, c1, c2⟩ := llies_cell H1.out j hlt
      have d1 := (B.out.cell (cell_below c1)).trans c1
      have i0 : (0 : Int) ≤ (j : Int) := by omega
      have i1 : (j : Int) < (l.length : Int) := by omega
      clear c1 c2
      have n1 := new_two wr (.int .i64 l[j].1) (.bool s) 37
      have N1 := Lib.hid n1
      have BW := Lib.hid ((Below.refl wr.heap.size wr).alloc (Nat.le_refl _) (.cells #[.int .i64 l[j].1, .bool s] 37))
      have ST := Lib.hid (setS_step s l j hlt)
      clear n1
      go_wp2_with (at_builtin; refine lappend_lay layI rfl _ _ rfl (B := w.heap.size) _ _ rfl (O.out.grow BW.out) ⟨wr.heap.size, 0, none⟩ (l[j].1, s) rfl N1.out.1 N1.out.2 (by rw [setS_length]; simp; omega) (by simp; omega) ?_; intro v8 w8 hown8 hg8)
      rw [← ST.out] at hown8
      have O8 := Lib.hid hown8
      have B8 := Lib.hid (B.out.trans ((BW.out.mono hsz).trans ((O.out.grow BW.out).below hg8 (by simp; omega))))
      clear hown8 hg8
      go_wp2_with fail
      go_roundg (gk - 1)
      case measure => have := K.out; omega
      case rel => exact ⟨j + 1, by go_num, by have := K.out; omega, O8.out, B8.out⟩
    · have hj : j = l.length := by omega
      have O2 := Lib.hid O.out
      go_wp2_with fail
      go_ret
      refine ⟨_, rfl, ?_, B.out⟩
      have := O2.out
      rwa [hj, List.take_length] at this
end Go.Proofs.Ytbjeedeapioljab
