/- The contracts of the program's search for matchings, which keeps what it has found in a map. -/
import Derived.Test.YtmibipnkjpkngaaFindLaw
import Derived.Test.YtmibipnkjpkngaaMemo
import Derived.Test.YtmibipnkjpkngaaCell
namespace Go.Proofs.Ytmibipnkjpkngaa
open Go.RowKit

abbrev MT := 58
abbrev foV (n m k : Int) : Value := .agg #[.int .i64 n, .int .i64 m, .int .i64 k]
abbrev foC (n m k : Int) : List Value := [.int .i64 n, .int .i64 m, .int .i64 k]
set_option maxHeartbeats 1600000 in
theorem gather_up {w : World} {g : Nat} {N M K n m q k p : Int} (h : CB MT w g (foC N M K)) (h1 : 0 ≤ N ∧ N ≤ 100000) (h2 : 0 ≤ n ∧ n ≤ 100000) (h3 : 0 ≤ m ∧ m ≤ 100) (h4 : 0 ≤ p ∧ p ≤ 1) (hm : M < p + m) :
    Calls Try.prog 44 #[.pointer (some ⟨g, 0, none⟩), .int .i64 k, .int .i64 p, foV n m q] w fun e w' => e = .returned (.tuple #[]) ∧ CB MT w' g (foC (N + n) (p + m) k) ∧ Turn g w w' := by
  have h' := h.alloc (.cells #[.int .i64 n, .int .i64 m, .int .i64 q] MT)
  have c0 := h'.cell 0 _ rfl
  have c1 := h'.cell 1 _ rfl
  have c2 := h'.cell 2 _ rfl
  have f0 := h'.froz 0
  have f1 := h'.froz 1
  have f2 := h'.froz 2
  have w1 : IntKind.i64.wrap (N + n) = N + n := IntWalk.i64_in _ (by omega)
  have w2 : IntKind.i64.wrap (p + m) = p + m := IntWalk.i64_in _ (by omega)
  have CN := (((h'.set 0 (.int .i64 (N + n))).set 1 (.int .i64 (p + m))).set 2 (.int .i64 k))
  have TN := ((((turn_below ((Below.refl w.heap.size w).alloc (Nat.le_refl _) (.cells #[.int .i64 n, .int .i64 m, .int .i64 q] MT)) g).set 0 (.int .i64 (N + n)) (.inl rfl)).set 1 (.int .i64 (p + m)) (.inl rfl)).set 2 (.int .i64 k) (.inl rfl))
  have CN := Lib.hid CN; have TN := Lib.hid TN
  go_enter Try.func44, Try.ntmps44
  go_wp2_with fail
  go_region
  go_wp2_with fail
  go_region
  go_wp2_with fail
  go_returns
  exact ⟨rfl, CN.out, TN.out.drew.drew⟩
set_option maxHeartbeats 1600000 in
theorem gather_stay {w : World} {g : Nat} {N M K n m q k p : Int} (h : CB MT w g (foC N M K)) (h1 : 0 ≤ N ∧ N ≤ 100000) (h2 : 0 ≤ n ∧ n ≤ 100000) (h3 : 0 ≤ m ∧ m ≤ 100) (h4 : 0 ≤ p ∧ p ≤ 1) (hm : p + m ≤ M) :
    Calls Try.prog 44 #[.pointer (some ⟨g, 0, none⟩), .int .i64 k, .int .i64 p, foV n m q] w fun e w' => e = .returned (.tuple #[]) ∧ CB MT w' g (foC (N + n) M K) ∧ Turn g w w' := by
  have h' := h.alloc (.cells #[.int .i64 n, .int .i64 m, .int .i64 q] MT)
  have c0 := h'.cell 0 _ rfl
  have c1 := h'.cell 1 _ rfl
  have c2 := h'.cell 2 _ rfl
  have f0 := h'.froz 0
  have f1 := h'.froz 1
  have f2 := h'.froz 2
  have w1 : IntKind.i64.wrap (N + n) = N + n := IntWalk.i64_in _ (by omega)
  have w2 : IntKind.i64.wrap (p + m) = p + m := IntWalk.i64_in _ (by omega)
  have CN := Lib.hid (h'.set 0 (.int .i64 (N + n)))
  have TN := Lib.hid ((turn_below ((Below.refl w.heap.size w).alloc (Nat.le_refl _) (.cells #[.int .i64 n, .int .i64 m, .int .i64 q] MT)) g).set 0 (.int .i64 (N + n)) (.inl rfl))
  go_enter Try.func44, Try.ntmps44
  go_wp2_with fail
  go_region
  go_wp2_with fail
  go_region
  go_wp2_with fail
  go_returns
  exact ⟨rfl, CN.out, TN.out.drew.drew⟩
abbrev EL := 61
abbrev leV (i f : Nat) : Value := .agg #[.int .i64 (i : Int), .int .i64 (f : Int)]
theorem keyed_left : Go.Maps.Keyed Try.prog EL :=
  Go.Maps.Keyed.of_law (deep_law_gate (by kernel_rfl) (of_decide_eq_true (by kernel_rfl)) (of_decide_eq_true (by kernel_rfl)) (by kernel_rfl) (by kernel_rfl))
theorem wf_small (n : Nat) (h : n ≤ 100) : (Lit.int IntKind.i64 (n : Int)).wf = true := by
  have h1 : IntKind.i64.min = -9223372036854775808 := by decide
  have h2 : IntKind.i64.max = 9223372036854775807 := by decide
  simp only [Lit.wf, h1, h2, Bool.and_eq_true, decide_eq_true_eq]
  omega
theorem lits_int (d : Nat) (n : Nat) (h : n ≤ 100) : Try.prog.keyLits (d + 1) 3 [.int .i64 (n : Int)] = some [.int .i64 (n : Int)] := by
  unfold Program.keyLits
  rw [show Try.prog.underlying 3 = some (.int .i64) from by kernel_rfl]
  simp only []
  rw [wf_small n h]; rfl
theorem left_fields : ∃ f1 f2, Try.prog.underlying EL = some (.struct #[f1, f2]) ∧ f1.type = 3 ∧ f2.type = 3 ∧ f1.offset = 0 ∧ f2.offset = 1 ∧ (f1.name != "_") = true ∧ (f2.name != "_") = true :=
  ⟨_, _, Try.underlying61, rfl, rfl, rfl, rfl, rfl, rfl⟩
theorem left_size : Try.prog.cellsOf EL = 2 := by kernel_rfl
theorem int_size : Try.prog.cellsOf 3 = 1 := by kernel_rfl
theorem types_size : ∃ d, Try.prog.types.size = d + 1 := ⟨Try.prog.types.size - 1, by kernel_rfl⟩
theorem key_left (i f : Nat) (hi : i ≤ 100) (hf : f ≤ 100) : ∃ lx, keyOf Try.prog EL (leV i f) = some lx := by
  obtain ⟨f1, f2, hu, t1, t2, o1, o2, n1, n2⟩ := left_fields
  obtain ⟨d, hd⟩ := types_size
  have hk : Try.prog.keyType EL = true := by kernel_rfl
  have hform : (leV i f).formed Try.prog EL = true := by
    simp only [Value.formed, hu, left_size]; rfl
  have hl : Try.prog.keyLits (Try.prog.types.size + 1) EL (leV i f).cells.toList = some [.int .i64 (i : Int), .int .i64 (f : Int)] := by
    rw [hd]
    unfold Program.keyLits
    rw [hu]
    simp only [Value.cells, left_size]
    have e1 := lits_int d i hi
    have e2 := lits_int d f hf
    simp [t1, t2, o1, o2, n1, n2, int_size, e1, e2]
  refine Option.isSome_iff_exists.1 ?_
  unfold keyOf
  rw [hu]
  simp only [hk, hform, hl]
  rfl
abbrev mV (v u : Value) (tol : Int) (mb : Nat) : Value := .agg #[v, u, .int .i64 tol, .map (some mb)]
abbrev MR := 51
theorem like_two (tol x y : Int) : like tol x y = (decide (-tol ≤ x - y) && decide (x - y ≤ tol)) := by
  rw [Bool.eq_iff_iff, like_iff]; simp; omega
set_option maxHeartbeats 1600000 in
theorem alike_any {w : World} {v u : Value} {a b : List Ev} {tol : Int} {mb i j : Nat} {c : Bool} (h : Row w v a) (k : Row w u b) (ha : isEv a = true) (hb : isEv b = true) (ht : 0 ≤ tol ∧ tol ≤ 1000) (hi : i < a.length) (hj : j < b.length) (hc : like tol a[i].2 b[j].2 = c) :
    Calls Try.prog 36 #[mV v u tol mb, .int .i64 (i : Int), .int .i64 (j : Int)] w fun e w' => Val w (.bool c) e w' := by
  have n8 := (isEv_iff.1 ha).1
  have m8 := (isEv_iff.1 hb).1
  obtain ⟨ga, oa, ca, rfl, ha1, ha2⟩ := h.known (by omega)
  obtain ⟨gb, ob, cb, rfl, hb1, hb2⟩ := k.known (by omega)
  obtain ⟨_, d2⟩ := h.cells i hi
  obtain ⟨_, d4⟩ := k.cells j hj
  have sa := ev_sizes ha hi
  have sb := ev_sizes hb hj
  obtain ⟨x, hx⟩ : ∃ x, a[i].2 = x := ⟨_, rfl⟩
  obtain ⟨y, hy⟩ : ∃ y, b[j].2 = y := ⟨_, rfl⟩
  rw [hx] at sa d2 hc
  rw [hy] at sb d4 hc
  have B := (Below.refl w.heap.size w).alloc (Nat.le_refl _) (.cells #[.slice (some ⟨ga, oa, none⟩) a.length ca, .slice (some ⟨gb, ob, none⟩) b.length cb, .int .i64 tol, .map (some mb)] MR)
  have e2 := (B.cell (cell_below d2)).trans d2
  have e4 := (B.cell (cell_below d4)).trans d4
  have BB := Lib.hid B
  have w1 : IntKind.i64.wrap (x - y) = x - y := IntWalk.i64_in _ (by omega)
  have w2 : IntKind.i64.wrap (-tol) = -tol := IntWalk.i64_in _ (by omega)
  have i0 : (0 : Int) ≤ (i : Int) := by omega
  have i1 : (i : Int) < (a.length : Int) := by omega
  have j0 : (0 : Int) ≤ (j : Int) := by omega
  have j1 : (j : Int) < (b.length : Int) := by omega
  have C := Lib.hid hc
  have T := Lib.hid (like_two tol x y)
  unfold maxLen at ha2 hb2
  clear d2 d4 B h k hx hy ha hb hc
  by_cases q : -tol ≤ x - y
  · have C2 : Hid (c = decide (x - y ≤ tol)) := Lib.hid (by rw [← C.out, T.out, decide_eq_true q]; rfl)
    go_enter Try.func36, Try.ntmps36
    go_wp2_with fail
    go_quiet (fail)
    go_wp2_with fail
    go_ret
    exact ⟨by rw [C2.out]; rfl, below_drews BB.out _⟩
  · have C2 : Hid (c = false) := Lib.hid (by rw [← C.out, T.out, decide_eq_false q]; rfl)
    go_enter Try.func36, Try.ntmps36
    go_wp2_with fail
    go_quiet (fail)
    go_wp2_with fail
    go_ret
    exact ⟨by rw [C2.out]; rfl, below_drews BB.out _⟩
/-- What the map holds: of what is left from i and f on, what there is. -/
def FoundG (tol : Int) (s t : List Int) (x y : Value) : Prop := ∀ i f : Nat, x = leV i f → i < s.length → ∃ n m k, y = foV n m k ∧ foundV tol s t i f n m k
theorem foundG_new {tol : Int} {s t : List Int} {i f : Nat} {n m k : Int} (h : foundV tol s t i f n m k) : FoundG tol s t (leV i f) (foV n m k) := by
  intro i' f' e hi
  simp only [leV, Value.agg.injEq, Array.mk.injEq, List.cons.injEq, Value.int.injEq, true_and, and_true] at e
  obtain ⟨e1, e2⟩ := e
  obtain rfl : i = i' := by omega
  obtain rfl : f = f' := by omega
  exact ⟨n, m, k, rfl, h⟩
theorem Stored.turn {b : Nat} {w w' : World} (h : Stored b w w') : Turn b w w' := ⟨h.os, h.tape, h.output, by rw [h.size]; exact Nat.le_refl _, fun i _ hb => h.block i hb⟩
/-- The search in its loop: its own variables, the map. -/
structure FindAt (w : World) (mb : Nat) (tol : Int) (s t : List Int) (m4 l2 : List Value) (wr : World) (N M K : Int) : Prop where
  lo : mb < w.heap.size
  mt : CB MR wr w.heap.size m4
  lf : CB EL wr (w.heap.size + 1) l2
  rs : CB MT wr (w.heap.size + 1 + 1) (foC 0 0 0)
  al : CB MT wr (w.heap.size + 1 + 1 + 1 + 1) (foC N M K)
  me : Memo Try.prog EL wr mb (FoundG tol s t)
  tn : Turn mb w wr
theorem FindAt.step {w wr wx : World} {mb : Nat} {tol : Int} {s t : List Int} {m4 l2 : List Value} {N M K : Int} (h : FindAt w mb tol s t m4 l2 wr N M K) (k : Turn mb wr wx) (hm : Memo Try.prog EL wx mb (FoundG tol s t)) : FindAt w mb tol s t m4 l2 wx N M K :=
  have lo := h.lo
  ⟨lo, k.cb h.mt (by omega), k.cb h.lf (by omega), k.cb h.rs (by omega), k.cb h.al (by omega), hm, h.tn.trans k⟩
theorem FindAt.quiet {w wr wx : World} {mb : Nat} {tol : Int} {s t : List Int} {m4 l2 : List Value} {N M K : Int} (h : FindAt w mb tol s t m4 l2 wr N M K) (k : Below wr.heap.size wr wx) : FindAt w mb tol s t m4 l2 wx N M K :=
  h.step (turn_below k mb) (h.me.grow k h.me.lt)
theorem FindAt.gath {w wr wx : World} {mb : Nat} {tol : Int} {s t : List Int} {m4 l2 : List Value} {N M K N' M' K' : Int} (h : FindAt w mb tol s t m4 l2 wr N M K) (k : Turn (w.heap.size + 1 + 1 + 1 + 1) wr wx) (hc : CB MT wx (w.heap.size + 1 + 1 + 1 + 1) (foC N' M' K')) :
    FindAt w mb tol s t m4 l2 wx N' M' K' :=
  have lo := h.lo
  ⟨lo, k.cb h.mt (by omega), k.cb h.lf (by omega), k.cb h.rs (by omega), hc, h.me.same (k.block mb h.me.lt (by omega)), h.tn.after k (by omega)⟩
/-- What the search answers. -/
def FindE (w : World) (tol : Int) (s t : List Int) (mb i f : Nat) (e : Ending) (w' : World) : Prop :=
  ∃ n m k, e = .returned (foV n m k) ∧ foundV tol s t i f n m k ∧ Memo Try.prog EL w' mb (FoundG tol s t) ∧ Turn mb w w'
set_option maxRecDepth 100000 in
set_option maxHeartbeats 6400000 in
theorem find_rec {w0 : World} {v u : Value} {a b : List Ev} {tol : Int} {mb : Nat} (h : Row w0 v a) (k : Row w0 u b) (ha : isEv a = true) (hb : isEv b = true) (ht : 0 ≤ tol ∧ tol ≤ 1000) (hmb : w0.heap.size ≤ mb) :
    ∀ (d : Nat) (w : World) (i f : Nat), i + d = a.length → f ≤ b.length → Below w0.heap.size w0 w → Memo Try.prog EL w mb (FoundG tol (sizes a) (sizes b)) →
      Calls Try.prog 39 #[mV v u tol mb, leV i f] w fun e w' => FindE w tol (sizes a) (sizes b) mb i f e w'
  | 0, w, i, f, hi, hf, hw, hm => by
    obtain ⟨pa, ca, rfl, ha1, ha2⟩ := h.len
    have e : (i : Int) = (a.length : Int) := by omega
    have B1 := ((Below.refl w.heap.size w).alloc (Nat.le_refl _) (.cells #[.slice pa a.length ca, u, .int .i64 tol, .map (some mb)] MR))
    have B2 := B1.alloc B1.size (.cells #[.int .i64 (a.length : Int), .int .i64 (f : Int)] EL)
    have B3 := B2.alloc B2.size (.cells #[.int .i64 1, .int .i64 0, .int .i64 (-1)] MT)
    have HM := Lib.hid (hm.grow B3 hm.lt)
    have T := Lib.hid (turn_below B3 mb)
    have F : Hid (foundV tol (sizes a) (sizes b) i f 1 0 (-1)) := Lib.hid (by rw [show i = (sizes a).length by rw [sizes_length]; omega]; exact found_end _ _ _ _ _)
    clear B1 B2 B3
    go_enter Try.func39, Try.ntmps39
    go_wp2_with fail
    go_returns
    exact ⟨1, 0, -1, rfl, F.out, HM.out, T.out⟩
  | d + 1, w, i, f, hi, hf, hw, hm => by
    have n8 := (isEv_iff.1 ha).1
    have m8 := (isEv_iff.1 hb).1
    have hia : i < a.length := by omega
    have IH := Lib.hid (find_rec h k ha hb ht hmb d)
    have H := Lib.hid h; have H' := Lib.hid k; have VA := Lib.hid ha; have VB := Lib.hid hb
    obtain ⟨pa, ca, rfl, ha1, ha2⟩ := h.len
    obtain ⟨pb, cb, rfl, hb1, hb2⟩ := k.len
    have hmw := hm.lt
    have B1 := ((Below.refl w.heap.size w).alloc (Nat.le_refl _) (.cells #[.slice pa a.length ca, .slice pb b.length cb, .int .i64 tol, .map (some mb)] MR))
    have B2 := B1.alloc B1.size (.cells #[.int .i64 (i : Int), .int .i64 (f : Int)] EL)
    have B3 := B2.alloc B2.size (.cells #[.int .i64 0, .int .i64 0, .int .i64 0] MT)
    have HM0 := Lib.hid hm
    have HM := Lib.hid (hm.grow B3 hm.lt)
    have BW := Lib.hid hw
    obtain ⟨lx, hlx⟩ := key_left i f (by omega) (by omega)
    have LX := Lib.hid hlx
    have ne : ¬ (i : Int) = (a.length : Int) := by omega
    unfold maxLen at ha2 hb2
    clear hlx h k ha hb hw hm B1 B2 B3
    go_enter Try.func39, Try.ntmps39
    go_wp2_with (refine wpList_memo_get rfl _ _ _ rfl Try.underlying49 keyed_left (by rfl) rfl HM.out rfl LX.out ?_ ?_)
    case refine_2 =>
      intro x hx
      obtain ⟨n, m, q, rfl, hf⟩ := hx i f rfl (by rw [sizes_length]; exact hia)
      have B1 := ((Below.refl w.heap.size w).alloc (Nat.le_refl _) (.cells #[.slice pa a.length ca, .slice pb b.length cb, .int .i64 tol, .map (some mb)] MR))
      have B2 := B1.alloc B1.size (.cells #[.int .i64 (i : Int), .int .i64 (f : Int)] EL)
      have B3 := B2.alloc B2.size (.cells #[.int .i64 n, .int .i64 m, .int .i64 q] MT)
      have B4 := B3.alloc B3.size (.cells #[.int .i64 n, .int .i64 m, .int .i64 q] MT)
      have HM := Lib.hid ((HM0.out).grow B4 hmw)
      have T := Lib.hid (turn_below B4 mb)
      have F := Lib.hid hf
      clear B1 B2 B3 B4 hf
      go_wp2_with fail
      go_returns
      exact ⟨n, m, q, rfl, F.out, HM.out, T.out⟩
    have S0 : Hid (FindAt w mb tol (sizes a) (sizes b) [.slice pa a.length ca, .slice pb b.length cb, .int .i64 tol, .map (some mb)] [.int .i64 (i : Int), .int .i64 (f : Int)]
        (((((w.alloc (.cells #[.slice pa a.length ca, .slice pb b.length cb, .int .i64 tol, .map (some mb)] MR)).alloc (.cells #[.int .i64 (i : Int), .int .i64 (f : Int)] EL)).alloc (.cells #[.int .i64 0, .int .i64 0, .int .i64 0] MT)).alloc (.cells #[.int .i64 0, .int .i64 0, .int .i64 0] MT)).alloc (.cells #[.int .i64 0, .int .i64 0, .int .i64 (-1)] MT)) 0 0 (-1)) := Lib.hid (by
      have B1 := ((Below.refl w.heap.size w).alloc (Nat.le_refl _) (.cells #[.slice pa a.length ca, .slice pb b.length cb, .int .i64 tol, .map (some mb)] MR))
      have B2 := B1.alloc B1.size (.cells #[.int .i64 (i : Int), .int .i64 (f : Int)] EL)
      have B3 := B2.alloc B2.size (.cells #[.int .i64 0, .int .i64 0, .int .i64 0] MT)
      have B4 := B3.alloc B3.size (.cells #[.int .i64 0, .int .i64 0, .int .i64 0] MT)
      have B5 := B4.alloc B4.size (.cells #[.int .i64 0, .int .i64 0, .int .i64 (-1)] MT)
      refine ⟨hmw, ((((cb_new MR w _).alloc _).alloc _).alloc _).alloc _, ((CB.alloc (CB.alloc (CB.alloc (b := w.heap.size + 1) ?_ _) _) _)), (CB.alloc (CB.alloc (b := w.heap.size + 1 + 1) ?_ _) _), ?_, HM0.out.grow B5 hmw, turn_below B5 mb⟩
      · have := cb_new EL (w.alloc (.cells #[.slice pa a.length ca, .slice pb b.length cb, .int .i64 tol, .map (some mb)] MR)) [.int .i64 (i : Int), .int .i64 (f : Int)]
        simpa using this
      · have := cb_new MT ((w.alloc (.cells #[.slice pa a.length ca, .slice pb b.length cb, .int .i64 tol, .map (some mb)] MR)).alloc (.cells #[.int .i64 (i : Int), .int .i64 (f : Int)] EL)) (foC 0 0 0)
        simpa using this
      · have := cb_new MT ((((w.alloc (.cells #[.slice pa a.length ca, .slice pb b.length cb, .int .i64 tol, .map (some mb)] MR)).alloc (.cells #[.int .i64 (i : Int), .int .i64 (f : Int)] EL)).alloc (.cells #[.int .i64 0, .int .i64 0, .int .i64 0] MT)).alloc (.cells #[.int .i64 0, .int .i64 0, .int .i64 0] MT)) (foC 0 0 (-1))
        simpa using this)
    have his : i < (sizes a).length := by rw [sizes_length]; exact hia
    have w1 : IntKind.i64.wrap ((i : Int) + 1) = ((i + 1 : Nat) : Int) := by rw [show (i : Int) + 1 = ((i + 1 : Nat) : Int) by omega]; exact IntWalk.i64_in _ (by omega)
    clear HM
    go_loopg [8] (b.length - f) (fun g x wr => ∃ (j : Nat) (N M K : Int), x = .int .i64 (j : Int) ∧ f ≤ j ∧ j + g = b.length ∧ Gath tol (sizes a) (sizes b) i f j N M K ∧ FindAt w mb tol (sizes a) (sizes b) [.slice pa a.length ca, .slice pb b.length cb, .int .i64 tol, .map (some mb)] [.int .i64 (i : Int), .int .i64 (f : Int)] wr N M K)
    case atStart => exact ⟨f, 0, 0, -1, rfl, Nat.le_refl _, by omega, gath_start _ _ _ _ _, S0.out⟩
    case round =>
      obtain ⟨j, N, M, K, rfl, hfj, hk, hg, hs⟩ := hrel
      have KK := Lib.hid hk; have G := Lib.hid hg; have S := Lib.hid hs
      have hjb : j ≤ b.length := by omega
      have m0 := hs.mt.cell 0 _ rfl
      have m1 := hs.mt.cell 1 _ rfl
      have m2 := hs.mt.cell 2 _ rfl
      have m3 := hs.mt.cell 3 _ rfl
      have l0 := hs.lf.cell 0 _ rfl
      have l1 := hs.lf.cell 1 _ rfl
      have n0 := hg.pos
      have nb := hg.bound VA.out VB.out hia
      clear hk hg hs S0
      by_cases hlt : j < b.length
      · have j1 : (j : Int) < (b.length : Int) := by omega
        have w2 : IntKind.i64.wrap ((j : Int) + 1) = ((j + 1 : Nat) : Int) := by rw [show (j : Int) + 1 = ((j + 1 : Nat) : Int) by omega]; exact IntWalk.i64_in _ (by omega)
        have hjs : j < (sizes b).length := by rw [sizes_length]; exact hlt
        have BR := Lib.hid (BW.out.trans (S.out.tn.below hmb BW.out.size))
        cases hy : like tol a[i].2 b[j].2
        · have HY := Lib.hid hy
          have G2 := Lib.hid (G.out.no hjs (like_at hia hlt hy))
          clear hy
          go_wp2_with fail
          refine (alike_any (H.out.grow BR.out) (H'.out.grow BR.out) VA.out VB.out ht hia hlt HY.out).mono ?_
          rintro e w4 ⟨rfl, b4⟩
          have S4 := Lib.hid (S.out.quiet b4)
          clear b4
          go_wp2_with fail
          go_roundg (gk - 1)
          case measure => have := KK.out; omega
          case rel => exact ⟨j + 1, N, M, K, by go_num, by omega, by have := KK.out; omega, G2.out, S4.out⟩
        · have HY := Lib.hid hy
          have LA := Lib.hid (like_at hia hlt hy)
          clear hy
          go_wp2_with fail
          refine (alike_any (H.out.grow BR.out) (H'.out.grow BR.out) VA.out VB.out ht hia hlt HY.out).mono ?_
          rintro e w4 ⟨rfl, b4⟩
          have S4 := Lib.hid (S.out.quiet b4)
          have B4 := Lib.hid (BW.out.trans (S4.out.tn.below hmb BW.out.size))
          clear b4 m0 m1 m2 m3 l0 l1
          have hs := S4.out
          have m0 := hs.mt.cell 0 _ rfl
          have m1 := hs.mt.cell 1 _ rfl
          have m2 := hs.mt.cell 2 _ rfl
          have m3 := hs.mt.cell 3 _ rfl
          have l0 := hs.lf.cell 0 _ rfl
          have l1 := hs.lf.cell 1 _ rfl
          clear hs
          go_wp2_with fail
          refine (IH.out _ (i + 1) (j + 1) (by omega) (by omega) B4.out S4.out.me).mono ?_
          rintro e w5 ⟨n, m, q, rfl, hf5, hm5, ht5⟩
          have S5 := Lib.hid (S4.out.step ht5 hm5)
          obtain ⟨nn, mm⟩ := found_bound hf5 VA.out VB.out
          obtain ⟨f1, f2, _⟩ := hf5
          have F1 := Lib.hid f1; have F2 := Lib.hid f2
          clear hm5 ht5 f1 f2 m0 m1 m2 m3 l0 l1
          by_cases hup : M < 1 + m
          · have G2 := Lib.hid (G.out.up hfj hjs LA.out (by rw [← F2.out]; omega))
            go_wp2_with fail
            refine (gather_up (p := 1) S5.out.al (by omega) nn mm (by omega) hup).mono ?_
            rintro e w6 ⟨rfl, c6, t6⟩
            have S6 := Lib.hid (S5.out.gath t6 c6)
            clear c6 t6
            go_wp2_with fail
            go_roundg (gk - 1)
            case measure => have := KK.out; omega
            case rel => exact ⟨j + 1, N + n, 1 + m, j, by go_num, by omega, by have := KK.out; omega, by rw [F1.out, Int.add_comm 1 m, F2.out]; exact G2.out, S6.out⟩
          · have G2 := Lib.hid (G.out.stay hjs LA.out (by rw [← F2.out]; omega))
            go_wp2_with fail
            refine (gather_stay (p := 1) S5.out.al (by omega) nn mm (by omega) (by omega)).mono ?_
            rintro e w6 ⟨rfl, c6, t6⟩
            have S6 := Lib.hid (S5.out.gath t6 c6)
            clear c6 t6
            go_wp2_with fail
            go_roundg (gk - 1)
            case measure => have := KK.out; omega
            case rel => exact ⟨j + 1, N + n, M, K, by go_num, by omega, by have := KK.out; omega, by rw [F1.out]; exact G2.out, S6.out⟩
      · have j1 : ¬ (j : Int) < (b.length : Int) := by omega
        have hjs : j = (sizes b).length := by rw [sizes_length]; omega
        have BR := Lib.hid (BW.out.trans (S.out.tn.below hmb BW.out.size))
        go_wp2_with fail
        refine (IH.out _ (i + 1) f (by omega) hf BR.out S.out.me).mono ?_
        rintro e w5 ⟨n, m, q, rfl, hf5, hm5, ht5⟩
        have S5 := Lib.hid (S.out.step ht5 hm5)
        obtain ⟨nn, mm⟩ := found_bound hf5 VA.out VB.out
        obtain ⟨f1, f2, _⟩ := hf5
        have F1 := Lib.hid f1; have F2 := Lib.hid f2
        clear hm5 ht5 f1 f2 m0 m1 m2 m3 l0 l1
        have done : ∃ M' K', foundV tol (sizes a) (sizes b) i f (N + n) M' K' ∧ Calls Try.prog 44 #[.pointer (some ⟨w.heap.size + 1 + 1 + 1 + 1, 0, none⟩), .int .i64 (-1), .int .i64 0, foV n m q] w5 fun e w' => e = .returned (.tuple #[]) ∧ CB MT w' (w.heap.size + 1 + 1 + 1 + 1) (foC (N + n) M' K') ∧ Turn (w.heap.size + 1 + 1 + 1 + 1) w5 w' := by
          by_cases hup : M < m
          · have g2 := G.out.without his hjs (by rw [← F2.out]; exact hup)
            have g3 := gather_up (n := n) (q := q) (k := -1) (p := 0) S5.out.al ⟨n0, by omega⟩ nn mm (by omega) (by omega)
            rw [Int.zero_add, F2.out] at g3
            exact ⟨_, _, by rw [F1.out]; exact g2, by rw [F2.out]; exact g3⟩
          · have g2 := G.out.keep his hjs (by rw [← F2.out]; omega)
            exact ⟨_, _, by rw [F1.out]; exact g2, gather_stay (n := n) (q := q) (k := -1) (p := 0) S5.out.al ⟨n0, by omega⟩ nn mm (by omega) (by omega)⟩
        obtain ⟨M', K', hfo, hgo⟩ := done
        have FO := Lib.hid hfo; have GO := Lib.hid hgo
        clear hfo hgo
        go_wp2_with fail
        refine GO.out.mono ?_
        rintro e w6 ⟨rfl, c6, t6⟩
        have S6 := Lib.hid (S5.out.gath t6 c6)
        clear c6 t6
        have hs := S6.out
        have m0 := hs.mt.cell 0 _ rfl
        have m1 := hs.mt.cell 1 _ rfl
        have m2 := hs.mt.cell 2 _ rfl
        have m3 := hs.mt.cell 3 _ rfl
        have l0 := hs.lf.cell 0 _ rfl
        have l1 := hs.lf.cell 1 _ rfl
        have a0 := hs.al.cell 0 _ rfl
        have a1 := hs.al.cell 1 _ rfl
        have a2 := hs.al.cell 2 _ rfl
        clear hs
        go_wp2_with (refine wpList_memo_put rfl _ _ _ _ rfl Try.underlying49 keyed_left rfl S6.out.me rfl rfl LX.out (foundG_new FO.out) ?_; intro w7 hm7 hs7; have S7 := Lib.hid (S6.out.step hs7.turn hm7); have hs := S7.out; have r0 := hs.rs.cell 0 _ rfl; have r1 := hs.rs.cell 1 _ rfl; have r2 := hs.rs.cell 2 _ rfl; have g0 := hs.rs.froz 0; have g1 := hs.rs.froz 1; have g2 := hs.rs.froz 2; have b0 := hs.al.cell 0 _ rfl; have b1 := hs.al.cell 1 _ rfl; have b2 := hs.al.cell 2 _ rfl; clear hs hm7 hs7)
        have T9 := Lib.hid (((S7.out.tn.set 0 (.int .i64 (N + n)) (g := w.heap.size + 1 + 1) (.inr (by omega))).set 1 (.int .i64 M') (g := w.heap.size + 1 + 1) (.inr (by omega))).set 2 (.int .i64 K') (g := w.heap.size + 1 + 1) (.inr (by omega)))
        have M9 := Lib.hid (S7.out.me.grow ((((Below.refl w.heap.size w7).setCell (p := ⟨w.heap.size + 1 + 1, 0, none⟩) (by simp; omega) (.int .i64 (N + n))).setCell (p := ⟨w.heap.size + 1 + 1, 1, none⟩) (by simp; omega) (.int .i64 M')).setCell (p := ⟨w.heap.size + 1 + 1, 2, none⟩) (by simp; omega) (.int .i64 K')) hmw)
        have C9 := Lib.hid (((S7.out.rs.set 0 (.int .i64 (N + n))).set 1 (.int .i64 M')).set 2 (.int .i64 K'))
        exact ret_cb rfl Try.underlying58 (by kernel_rfl) rfl rfl C9.out ⟨N + n, M', K', rfl, FO.out, M9.out, T9.out⟩
end Go.Proofs.Ytmibipnkjpkngaa
