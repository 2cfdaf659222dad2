/- The contracts of the program's search for matchings, which keeps what it has found in a map. -/
import Derived.Test.YthhdpjkmjebjhabFindLaw
import Derived.Test.YthhdpjkmjebjhabMemo
import Derived.Test.YthhdpjkmjebjhabCell
namespace Go.Proofs.Ythhdpjkmjebjhab
open Go.RowKit

abbrev MT := 166
abbrev foV (n m k : Int) : Value := .agg #[.int .i64 n, .int .i64 m, .int .i64 k]
abbrev foC (n m k : Int) : List Value := [.int .i64 n, .int .i64 m, .int .i64 k]
abbrev EL := 164
abbrev leV (i f : Nat) : Value := .agg #[.int .i64 (i : Int), .int .i64 (f : Int)]
theorem keyed_left : Go.Maps.Keyed Try.prog EL :=
  Go.Maps.Keyed.of_law (deep_law_gate (by kernel_rfl) (of_decide_eq_true (by kernel_rfl)) (of_decide_eq_true (by kernel_rfl)) (by kernel_rfl) (by kernel_rfl))
theorem wf_small (n : Nat) (h : n ≤ 100) : (Lit.int IntKind.i64 (n : Int)).wf = true := by
  have h1 : IntKind.i64.min = -9223372036854775808 := by decide
  have h2 : IntKind.i64.max = 9223372036854775807 := by decide
  simp only [Lit.wf, h1, h2, Bool.and_eq_true, decide_eq_true_eq]
  omega
theorem lits_int (d : Nat) (n : Nat) (h : n ≤ 100) : Try.prog.keyLits (d + 1) 3 [.int .i64 (n : Int)] = some [.int .i64 (n : Int)] := by
  unfold Program.keyLits
  rw [show Try.prog.underlying 3 = some (.int .i64) from by kernel_rfl]
  simp only []
  rw [wf_small n h]; rfl
theorem left_fields : ∃ f1 f2, Try.prog.underlying EL = some (.struct #[f1, f2]) ∧ f1.type = 3 ∧ f2.type = 3 ∧ f1.offset = 0 ∧ f2.offset = 1 ∧ (f1.name != "_") = true ∧ (f2.name != "_") = true :=
  ⟨_, _, Try.underlying164, rfl, rfl, rfl, rfl, rfl, rfl⟩
theorem left_size : Try.prog.cellsOf EL = 2 := by kernel_rfl
theorem int_size : Try.prog.cellsOf 3 = 1 := by kernel_rfl
theorem types_size : ∃ d, Try.prog.types.size = d + 1 := ⟨Try.prog.types.size - 1, by kernel_rfl⟩
theorem key_left (i f : Nat) (hi : i ≤ 100) (hf : f ≤ 100) : ∃ lx, keyOf Try.prog EL (leV i f) = some lx := by
  obtain ⟨f1, f2, hu, t1, t2, o1, o2, n1, n2⟩ := left_fields
  obtain ⟨d, hd⟩ := types_size
  have hk : Try.prog.keyType EL = true := by kernel_rfl
  have hform : (leV i f).formed Try.prog EL = true := by
    simp only [Value.formed, hu, left_size]; rfl
  have hl : Try.prog.keyLits (Try.prog.types.size + 1) EL (leV i f).cells.toList = some [.int .i64 (i : Int), .int .i64 (f : Int)] := by
    rw [hd]
    unfold Program.keyLits
    rw [hu]
    simp only [Value.cells, left_size]
    have e1 := lits_int d i hi
    have e2 := lits_int d f hf
    simp [t1, t2, o1, o2, n1, n2, int_size, e1, e2]
  refine Option.isSome_iff_exists.1 ?_
  unfold keyOf
  rw [hu]
  simp only [hk, hform, hl]
  rfl
abbrev mV (v u : Value) (tol : Int) (mb : Nat) : Value := .agg #[v, u, .int .i64 tol, .map (some mb)]
abbrev MR := 100
theorem like_two (tol x y : Int) : like tol x y = (decide (-tol ≤ x - y) && decide (x - y ≤ tol)) := by
  rw [Bool.eq_iff_iff, like_iff]; simp; omega
set_option maxHeartbeats 1600000 in
theorem alike_any {w : World} {v u : Value} {a b : List Ev} {tol : Int} {mb i j : Nat} {c : Bool} (h : Row w v a) (k : Row w u b) (ha : isEv a = true) (hb : isEv b = true) (ht : 0 ≤ tol ∧ tol ≤ 1000) (hi : i < a.length) (hj : j < b.length) (hc : like tol a[i].2 b[j].2 = c) :
    Calls Try.prog 70 #[mV v u tol mb, .int .i64 (i : Int), .int .i64 (j : Int)] w fun e w' => Val w (.bool c) e w' := by
  have n8 := (isEv_iff.1 ha).1
  have m8 := (isEv_iff.1 hb).1
  obtain ⟨ga, oa, ca, rfl, ha1, ha2⟩ := h.known (by omega)
  obtain ⟨gb, ob, cb, rfl, hb1, hb2⟩ := k.known (by omega)
  obtain ⟨_, d2⟩ := h.cells i hi
  obtain ⟨_, d4⟩ := k.cells j hj
  have sa := ev_sizes ha hi
  have sb := ev_sizes hb hj
  obtain ⟨x, hx⟩ : ∃ x, a[i].2 = x := ⟨_, rfl⟩
  obtain ⟨y, hy⟩ : ∃ y, b[j].2 = y := ⟨_, rfl⟩
  rw [hx] at sa d2 hc
  rw [hy] at sb d4 hc
  have B := (Below.refl w.heap.size w).alloc (Nat.le_refl _) (.cells #[.slice (some ⟨ga, oa, none⟩) a.length ca, .slice (some ⟨gb, ob, none⟩) b.length cb, .int .i64 tol, .map (some mb)] MR)
  have e2 := (B.cell (cell_below d2)).trans d2
  have e4 := (B.cell (cell_below d4)).trans d4
  have BB := Lib.hid B
  have w1 : IntKind.i64.wrap (x - y) = x - y := IntWalk.i64_in _ (by omega)
  have w2 : IntKind.i64.wrap (-tol) = -tol := IntWalk.i64_in _ (by omega)
  have i0 : (0 : Int) ≤ (i : Int) := by omega
  have i1 : (i : Int) < (a.length : Int) := by omega
  have j0 : (0 : Int) ≤ (j : Int) := by omega
  have j1 : (j : Int) < (b.length : Int) := by omega
  have C := Lib.hid hc
  have T := Lib.hid (like_two tol x y)
  unfold maxLen at ha2 hb2
  clear d2 d4 B h k hx hy ha hb hc
  by_cases q : -tol ≤ x - y
  · have C2 : Hid (c = decide (x - y ≤ tol)) := Lib.hid (by rw [← C.out, T.out, decide_eq_true q]; rfl)
    go_enter Try.func70, Try.ntmps70
    go_wp2_with fail
    go_quiet (fail)
    go_wp2_with fail
    go_ret
    exact ⟨by rw [C2.out]; rfl, below_drews BB.out _⟩
  · have C2 : Hid (c = false) := Lib.hid (by rw [← C.out, T.out, decide_eq_false q]; rfl)
    go_enter Try.func70, Try.ntmps70
    go_wp2_with fail
    go_quiet (fail)
    go_wp2_with fail
    go_ret
    exact ⟨by rw [C2.out]; rfl, below_drews BB.out _⟩
/-- What the map holds: of what is left from i and f on, what there is. -/
def FoundG (tol : Int) (s t : List Int) (x y : Value) : Prop := ∀ i f : Nat, x = leV i f → i < s.length → ∃ n m k, y = foV n m k ∧ foundV tol s t i f n m k
theorem foundG_new {tol : Int} {s t : List Int} {i f : Nat} {n m k : Int} (h : foundV tol s t i f n m k) : FoundG tol s t (leV i f) (foV n m k) := by
  intro i' f' e hi
  simp only [leV, Value.agg.injEq, Array.mk.injEq, List.cons.injEq, Value.int.injEq, true_and, and_true] at e
  obtain ⟨e1, e2⟩ := e
  obtain rfl : i = i' := by omega
  obtain rfl : f = f' := by omega
  exact ⟨n, m, k, rfl, h⟩
theorem Stored.turn {b : Nat} {w w' : World} (h : Stored b w w') : Turn b w w' := ⟨h.os, h.tape, h.output, by rw [h.size]; exact Nat.le_refl _, fun i _ hb => h.block i hb⟩
/-- The search in its loop: its own variables, the map. -/
structure FindAt (w : World) (mb : Nat) (tol : Int) (s t : List Int) (m4 l2 : List Value) (wr : World) (N M K : Int) : Prop where
  lo : mb < w.heap.size
  mt : CB MR wr w.heap.size m4
  lf : CB EL wr (w.heap.size + 1) l2
  rs : CB MT wr (w.heap.size + 1 + 1) (foC 0 0 0)
  al : CB MT wr (w.heap.size + 1 + 1 + 1 + 1) (foC N M K)
  me : Memo Try.prog EL wr mb (FoundG tol s t)
  tn : Turn mb w wr
theorem FindAt.step {w wr wx : World} {mb : Nat} {tol : Int} {s t : List Int} {m4 l2 : List Value} {N M K : Int} (h : FindAt w mb tol s t m4 l2 wr N M K) (k : Turn mb wr wx) (hm : Memo Try.prog EL wx mb (FoundG tol s t)) : FindAt w mb tol s t m4 l2 wx N M K :=
  have lo := h.lo
  ⟨lo, k.cb h.mt (by omega), k.cb h.lf (by omega), k.cb h.rs (by omega), k.cb h.al (by omega), hm, h.tn.trans k⟩
theorem FindAt.quiet {w wr wx : World} {mb : Nat} {tol : Int} {s t : List Int} {m4 l2 : List Value} {N M K : Int} (h : FindAt w mb tol s t m4 l2 wr N M K) (k : Below wr.heap.size wr wx) : FindAt w mb tol s t m4 l2 wx N M K :=
  h.step (turn_below k mb) (h.me.grow k h.me.lt)
theorem FindAt.gath {w wr wx : World} {mb : Nat} {tol : Int} {s t : List Int} {m4 l2 : List Value} {N M K N' M' K' : Int} (h : FindAt w mb tol s t m4 l2 wr N M K) (k : Turn (w.heap.size + 1 + 1 + 1 + 1) wr wx) (hc : CB MT wx (w.heap.size + 1 + 1 + 1 + 1) (foC N' M' K')) :
    FindAt w mb tol s t m4 l2 wx N' M' K' :=
  have lo := h.lo
  ⟨lo, k.cb h.mt (by omega), k.cb h.lf (by omega), k.cb h.rs (by omega), hc, h.me.same (k.block mb h.me.lt (by omega)), h.tn.after k (by omega)⟩
/-- What the search answers. -/
def FindE (w : World) (tol : Int) (s t : List Int) (mb i f : Nat) (e : Ending) (w' : World) : Prop :=
  ∃ n m k, e = .returned (foV n m k) ∧ foundV tol s t i f n m k ∧ Memo Try.prog EL w' mb (FoundG tol s t) ∧ Turn mb w w'
end Go.Proofs.Ythhdpjkmjebjhab
