/- The model's test of a core. -/
import Derived.Test.YtdljfikgmhdedaaImpl
import Derived.Deep.RegionHeld3
import Derived.Deep.AppendLies
namespace Go.Proofs.Ytdljfikgmhdedaa
open Go.RowKit

theorem valid_char {l : List Pc} : valid l = true ↔ (∀ i (_ : i < l.length), okP l[i] = true) ∧ ∀ i (_ : i + 1 < l.length), l[i].2 ≤ l[i + 1].1 := by
  induction l with
  | nil => simp [valid]
  | cons p l ih =>
    rw [valid, Bool.and_eq_true, Bool.and_eq_true, ih]
    constructor
    · rintro ⟨⟨h1, h2⟩, h3, h4⟩
      refine ⟨fun i hi => ?_, fun i hi => ?_⟩
      · cases i with
        | zero => exact h1
        | succ i => exact h3 i (by simpa using hi)
      · cases i with
        | zero =>
          cases l with
          | nil => simp at hi
          | cons q r => simpa [above] using h2
        | succ i => exact h4 i (by simpa using hi)
    · rintro ⟨h1, h2⟩
      refine ⟨⟨h1 0 (by simp), ?_⟩, fun i hi => h1 (i + 1) (by simpa using hi), fun i hi => h2 (i + 1) (by simpa using hi)⟩
      cases l with
      | nil => rfl
      | cons q r => simpa [above] using h2 0 (by simp)
theorem valid_bad {l : List Pc} {k : Nat} (hk : k < l.length) (h : okP l[k] = false) : valid l = false := by
  cases hv : valid l
  · rfl
  · rw [(valid_char.1 hv).1 k hk] at h; simp at h
theorem valid_over {l : List Pc} {k : Nat} (hk : k + 1 < l.length) (h : l[k + 1].1 < l[k].2) : valid l = false := by
  cases hv : valid l
  · rfl
  · have := (valid_char.1 hv).2 k hk; omega
theorem valid_start (l : List Pc) : valid (l.take 0) = true := by simp [valid]
theorem valid_next {l : List Pc} {k : Nat} (h : valid (l.take k) = true) (hk : k < l.length) (h1 : okP l[k] = true) (h2 : ∀ j (_ : j + 1 = k), l[j].2 ≤ l[k].1) : valid (l.take (k + 1)) = true := by
  obtain ⟨a, b⟩ := valid_char.1 h
  refine valid_char.2 ⟨fun i hi => ?_, fun i hi => ?_⟩
  · rw [List.getElem_take]
    by_cases e : i = k
    · subst e; exact h1
    · have := a i (by simp at hi ⊢; omega)
      rwa [List.getElem_take] at this
  · rw [List.getElem_take, List.getElem_take]
    by_cases e : i + 1 = k
    · subst e; exact h2 i rfl
    · have := b i (by simp at hi ⊢; omega)
      rwa [List.getElem_take, List.getElem_take] at this

theorem l6In_any (n a b : Int) (w : World) :
    Calls Try.prog 48 #[.int .i64 n, .int .i64 a, .int .i64 b] w fun e w' => e = .returned (.bool (decide (a ≤ n) && decide (n ≤ b))) ∧ w = w' := by
  by_cases h : a ≤ n
  · have hd : decide (a ≤ n) = true := by simpa using h
    go_enter Try.func48, Try.ntmps48
    go_wp2
    go_ret
    exact ⟨by first | (rw [hd]; rfl) | rfl, rfl⟩
  · have hd : decide (a ≤ n) = false := by simpa using h
    go_enter Try.func48, Try.ntmps48
    go_wp2
    go_ret
    exact ⟨by first | (rw [hd]; rfl) | rfl, rfl⟩

theorem l3Piece_any (p : Pc) (w : World) :
    Calls Try.prog 39 #[.agg #[.int .i64 p.1, .int .i64 p.2]] w fun e w' => Val w (.bool (okP p)) e w' := by
  go_enter Try.func39, Try.ntmps39
  go_wp2_with fail
  refine (l6In_any _ _ _ _).mono ?_
  rintro e w1 ⟨rfl, rfl⟩
  by_cases c1 : 0 ≤ p.1 ∧ p.1 ≤ 30000
  · obtain ⟨k1, k2⟩ := c1
    have d1 : decide (0 ≤ p.1) = true := by simpa using k1
    have d2 : decide (p.1 ≤ 30000) = true := by simpa using k2
    go_wp2_with fail
    refine (l6In_any _ _ _ _).mono ?_
    rintro e w1 ⟨rfl, rfl⟩
    by_cases c2 : 0 ≤ p.2 ∧ p.2 ≤ 30000
    · obtain ⟨k3, k4⟩ := c2
      have d3 : decide (0 ≤ p.2) = true := by simpa using k3
      have d4 : decide (p.2 ≤ 30000) = true := by simpa using k4
      have R : Hid (okP p = decide (p.1 < p.2)) := Lib.hid (by unfold okP; rw [d1, d4]; rfl)
      go_wp2_with fail
      go_ret
      exact ⟨by rw [R.out]; rfl, by go_grown⟩
    · have d3 : (decide (0 ≤ p.2) && decide (p.2 ≤ 30000)) = false := by simpa using c2
      have R : Hid (okP p = false) := Lib.hid (by unfold okP; rw [Bool.and_eq_false_iff, Bool.and_eq_false_iff]; simp; omega)
      rw [d3]
      clear d3
      go_wp2_with fail
      go_ret
      exact ⟨by rw [R.out]; rfl, by go_grown⟩
  · have d3 : (decide (0 ≤ p.1) && decide (p.1 ≤ 30000)) = false := by simpa using c1
    have R : Hid (okP p = false) := Lib.hid (by unfold okP; rw [Bool.and_eq_false_iff, Bool.and_eq_false_iff]; simp; omega)
    rw [d3]
    clear d3
    go_wp2_with fail
    go_ret
    exact ⟨by rw [R.out]; rfl, by go_grown⟩
theorem l3Piece_is {p : Pc} {b : Bool} (h : okP p = b) (w : World) :
    Calls Try.prog 39 #[.agg #[.int .i64 p.1, .int .i64 p.2]] w fun e w' => Val w (.bool b) e w' := by
  have := l3Piece_any p w
  rwa [h] at this
/-- A guarded operation of a region that is left out: number i, its slot d. -/
theorem take_no {P : Program} {md : Region.Mode} {ops : Array Oper} {Q : Exit → Act → World → Prop} (i d : Nat) {oi : Oper} {fuel : Nat} {listed : Array Bool} {a : Act} {w : World} (hi : ops[i]? = some oi) (hd : oi.dst = some d)
    (hs : Region.noSelect ops = true) (hf : Region.free md ops listed i = true) (hr : (Region.ready md ops listed).contains i = true)
    (hQ : ∀ c a w, Q (.panic c) (a.put oi.dst undef) w → Q (.panic c) a w) (hn : Region.wanted oi (yielded ops a.tmps) = false)
    (h : wpAny P md ops Q fuel (listed.setIfInBounds i true) (a.put (some d) undef) w) : wpAny P md ops Q (fuel + 1) listed a w :=
  wpAny_take hi hs hf hr hQ (Or.inr ⟨hn, rfl⟩) (by rw [hd]; exact h)
/-- An operation that yields the same in whatever world: it is taken first. -/
theorem take_yes {P : Program} {md : Region.Mode} {ops : Array Oper} {Q : Exit → Act → World → Prop} (i d : Nat) {oi : Oper} {v : Value} {fuel : Nat} {listed : Array Bool} {a : Act} {w : World} (hi : ops[i]? = some oi) (hd : oi.dst = some d)
    (hs : Region.noSelect ops = true) (hf : Region.free md ops listed i = true) (hr : (Region.ready md ops listed).contains i = true)
    (hQ : ∀ c a w, Q (.panic c) (a.put oi.dst v) w → Q (.panic c) a w) (hy : Yields P ops oi v a)
    (h : wpAny P md ops Q fuel (listed.setIfInBounds i true) (a.put (some d) v) w) : wpAny P md ops Q (fuel + 1) listed a w :=
  wpAny_take hi hs hf hr hQ hy (by rw [hd]; exact h)
theorem held2 {w w' : World} {a b : Addr} {u v : Value} (h : Below w.heap.size w w') (h1 : w.cell? a = some u) (h2 : w.cell? b = some v) : w'.cell? a = some u ∧ w'.cell? b = some v :=
  ⟨(h.cell (cell_below h1)).trans h1, (h.cell (cell_below h2)).trans h2⟩
theorem held3 {w w' : World} {a b c : Addr} {u v x : Value} (h : Below w.heap.size w w') (h1 : w.cell? a = some u) (h2 : w.cell? b = some v) (h3 : w.cell? c = some x) :
    w'.cell? a = some u ∧ w'.cell? b = some v ∧ w'.cell? c = some x :=
  ⟨(h.cell (cell_below h1)).trans h1, (h.cell (cell_below h2)).trans h2, (h.cell (cell_below h3)).trans h3⟩

set_option maxHeartbeats 800000 in
theorem specCoreValid_row {w : World} {a : Option Addr} {len cap : Nat} {l : List Pc} (hl : l.length = len) (hm : len ≤ maxLen) (hc : Lies w a l) :
    Calls Try.prog 14 #[.slice a len cap] w fun e w' => Val w (.bool (isCore l)) e w' := by
  unfold maxLen at hm
  go_enter Try.func14, Try.ntmps14
  go_wp2_with fail
  go_loopg [3] len (fun n i wr => ∃ k : Nat, i = .int .i64 k ∧ k + n = len ∧ valid (l.take k) = true ∧ Below w.heap.size w wr)
  case atStart => exact ⟨0, rfl, by omega, valid_start l, Below.refl _ _⟩
  case round =>
    obtain ⟨k, rfl, hk, hv, hb⟩ := hrel
    have V := Lib.hid hv; have B1 := Lib.hid hb; have HK := Lib.hid hk
    have hkl : k ≤ len := by omega
    clear hv hb hk
    by_cases hlt : k < len
    · rcases hc with rfl | ⟨g, o, rfl, hc⟩
      · simp at hl; omega
      obtain ⟨c1, c2⟩ := hc k (by omega)
      have d1 := (B1.out.cell (cell_below c1)).trans c1
      have d2 := (B1.out.cell (cell_below c2)).trans c2
      cases hok : okP l[k]
      · have OK := Lib.hid hok
        have HC := Lib.hid hc
        clear hok hc c1 c2
        go_wp2_with fail
        refine wp_region_any (by kernel_rfl) ?_
        change wpAny _ _ _ _ _ _ _ (World.drew _)
        refine take_yes 0 10 rfl rfl (by kernel_rfl) (by kernel_rfl) (by kernel_rfl) (fun _ _ _ h => h) (Or.inl ⟨by kernel_rfl, by intro w; go_simp; try with_reducible rfl⟩) ?_
        refine take_yes 1 11 rfl rfl (by kernel_rfl) (by kernel_rfl) (by kernel_rfl) (fun _ _ _ h => h) (Or.inl ⟨by kernel_rfl, by intro w; go_simp; try with_reducible rfl⟩) ?_
        refine take_yes 2 12 rfl rfl (by kernel_rfl) (by kernel_rfl) (by kernel_rfl) (fun _ _ _ h => h) (Or.inl ⟨by kernel_rfl, by intro w; go_simp; try with_reducible rfl⟩) ?_
        refine wpAny_ready (rs := [3]) (by kernel_rfl) (by simp) (AllReady.cons rfl (fun K hK => ?_) AllReady.nil)
        go_simp
        refine hK _ _ ?_
        clear hK K
        refine wpAny_ready (rs := [4]) (by kernel_rfl) (by simp) (AllReady.cons rfl (fun K hK => ?_) AllReady.nil)
        go_simp
        go_wp2_with (go_at_call 39; refine (l3Piece_is OK.out _).mono ?_; rintro e w' ⟨rfl, hb'⟩)
        refine take_yes 5 15 rfl rfl (by kernel_rfl) (by kernel_rfl) (by kernel_rfl) (fun _ _ _ h => h) (Or.inl ⟨by kernel_rfl, by intro w; go_simp; try with_reducible rfl⟩) ?_
        refine take_yes 6 16 rfl rfl (by kernel_rfl) (by kernel_rfl) (by kernel_rfl) (fun _ _ _ h => h) (Or.inl ⟨by kernel_rfl, by intro w; go_simp; try with_reducible rfl⟩) ?_
        refine take_no 7 17 rfl rfl (by kernel_rfl) (by kernel_rfl) (by kernel_rfl) (fun _ _ _ h => h) (by kernel_rfl) ?_
        refine take_no 8 18 rfl rfl (by kernel_rfl) (by kernel_rfl) (by kernel_rfl) (fun _ _ _ h => h) (by kernel_rfl) ?_
        refine take_no 9 19 rfl rfl (by kernel_rfl) (by kernel_rfl) (by kernel_rfl) (fun _ _ _ h => h) (by kernel_rfl) ?_
        refine take_no 10 20 rfl rfl (by kernel_rfl) (by kernel_rfl) (by kernel_rfl) (fun _ _ _ h => h) (by kernel_rfl) ?_
        refine take_no 11 21 rfl rfl (by kernel_rfl) (by kernel_rfl) (by kernel_rfl) (fun _ _ _ h => h) (by kernel_rfl) ?_
        refine take_no 12 22 rfl rfl (by kernel_rfl) (by kernel_rfl) (by kernel_rfl) (fun _ _ _ h => h) (by kernel_rfl) ?_
        refine take_no 13 23 rfl rfl (by kernel_rfl) (by kernel_rfl) (by kernel_rfl) (fun _ _ _ h => h) (by kernel_rfl) ?_
        refine take_no 14 24 rfl rfl (by kernel_rfl) (by kernel_rfl) (by kernel_rfl) (fun _ _ _ h => h) (by kernel_rfl) ?_
        refine take_no 15 25 rfl rfl (by kernel_rfl) (by kernel_rfl) (by kernel_rfl) (fun _ _ _ h => h) (by kernel_rfl) ?_
        refine take_no 16 26 rfl rfl (by kernel_rfl) (by kernel_rfl) (by kernel_rfl) (fun _ _ _ h => h) (by kernel_rfl) ?_
        refine take_no 17 27 rfl rfl (by kernel_rfl) (by kernel_rfl) (by kernel_rfl) (fun _ _ _ h => h) (by kernel_rfl) ?_
        refine take_no 18 28 rfl rfl (by kernel_rfl) (by kernel_rfl) (by kernel_rfl) (fun _ _ _ h => h) (by kernel_rfl) ?_
        refine take_no 19 29 rfl rfl (by kernel_rfl) (by kernel_rfl) (by kernel_rfl) (fun _ _ _ h => h) (by kernel_rfl) ?_
        refine take_no 20 30 rfl rfl (by kernel_rfl) (by kernel_rfl) (by kernel_rfl) (fun _ _ _ h => h) (by kernel_rfl) ?_
        refine take_no 21 31 rfl rfl (by kernel_rfl) (by kernel_rfl) (by kernel_rfl) (fun _ _ _ h => h) (by kernel_rfl) ?_
        refine take_no 22 32 rfl rfl (by kernel_rfl) (by kernel_rfl) (by kernel_rfl) (fun _ _ _ h => h) (by kernel_rfl) ?_
        refine take_yes 23 33 rfl rfl (by kernel_rfl) (by kernel_rfl) (by kernel_rfl) (fun _ _ _ h => h) (Or.inl ⟨by kernel_rfl, by intro w; go_simp; try with_reducible rfl⟩) ?_
        refine wpAny_done (by kernel_rfl) ?_ _
        simp only [Exit.then]
        simp only [Act.put, List.setIfInBounds_toArray, List.set_cons_succ, List.set_cons_zero]
        go_wp2_with fail
        go_ret
        refine ⟨?_, B1.out.drew.trans (hb'.mono B1.out.size)⟩
        unfold isCore
        rw [valid_bad (by omega) OK.out, Bool.and_false]
        rfl
      · have OK := Lib.hid hok
        have HC := Lib.hid hc
        clear hok hc c1 c2
        cases k with
        | zero =>
          simp only [Nat.zero_mul, Nat.add_zero] at d1 d2
          go_wp2_with fail
          refine wp_region_any (by kernel_rfl) ?_
          change wpAny _ _ _ _ _ _ _ (World.drew _)
          refine take_yes 0 10 rfl rfl (by kernel_rfl) (by kernel_rfl) (by kernel_rfl) (fun _ _ _ h => h) (Or.inl ⟨by kernel_rfl, by intro w; go_simp; try with_reducible rfl⟩) ?_
          refine take_yes 1 11 rfl rfl (by kernel_rfl) (by kernel_rfl) (by kernel_rfl) (fun _ _ _ h => h) (Or.inl ⟨by kernel_rfl, by intro w; go_simp; try with_reducible rfl⟩) ?_
          refine take_yes 2 12 rfl rfl (by kernel_rfl) (by kernel_rfl) (by kernel_rfl) (fun _ _ _ h => h) (Or.inl ⟨by kernel_rfl, by intro w; go_simp; try with_reducible rfl⟩) ?_
          refine wpAny_ready (rs := [3]) (by kernel_rfl) (by simp) (AllReady.cons rfl (fun K hK => ?_) AllReady.nil)
          go_simp
          refine hK _ _ ?_
          clear hK K
          refine wpAny_ready (rs := [4]) (by kernel_rfl) (by simp) (AllReady.cons rfl (fun K hK => ?_) AllReady.nil)
          go_simp
          go_wp2_with (go_at_call 39; refine (l3Piece_is OK.out _).mono ?_; rintro e w' ⟨rfl, hb'⟩)
          refine take_yes 5 15 rfl rfl (by kernel_rfl) (by kernel_rfl) (by kernel_rfl) (fun _ _ _ h => h) (Or.inl ⟨by kernel_rfl, by intro w; go_simp; try with_reducible rfl⟩) ?_
          refine take_yes 6 16 rfl rfl (by kernel_rfl) (by kernel_rfl) (by kernel_rfl) (fun _ _ _ h => h) (Or.inl ⟨by kernel_rfl, by intro w; go_simp; try with_reducible rfl⟩) ?_
          refine take_yes 7 17 rfl rfl (by kernel_rfl) (by kernel_rfl) (by kernel_rfl) (fun _ _ _ h => h) (Or.inl ⟨by kernel_rfl, by intro w; go_simp; try with_reducible rfl⟩) ?_
          refine take_yes 8 18 rfl rfl (by kernel_rfl) (by kernel_rfl) (by kernel_rfl) (fun _ _ _ h => h) (Or.inl ⟨by kernel_rfl, by intro w; go_simp; try with_reducible rfl⟩) ?_
          refine take_yes 9 19 rfl rfl (by kernel_rfl) (by kernel_rfl) (by kernel_rfl) (fun _ _ _ h => h) (Or.inl ⟨by kernel_rfl, by intro w; go_simp; try with_reducible rfl⟩) ?_
          refine take_no 10 20 rfl rfl (by kernel_rfl) (by kernel_rfl) (by kernel_rfl) (fun _ _ _ h => h) (by kernel_rfl) ?_
          refine take_no 11 21 rfl rfl (by kernel_rfl) (by kernel_rfl) (by kernel_rfl) (fun _ _ _ h => h) (by kernel_rfl) ?_
          refine take_no 12 22 rfl rfl (by kernel_rfl) (by kernel_rfl) (by kernel_rfl) (fun _ _ _ h => h) (by kernel_rfl) ?_
          refine take_no 13 23 rfl rfl (by kernel_rfl) (by kernel_rfl) (by kernel_rfl) (fun _ _ _ h => h) (by kernel_rfl) ?_
          refine take_no 14 24 rfl rfl (by kernel_rfl) (by kernel_rfl) (by kernel_rfl) (fun _ _ _ h => h) (by kernel_rfl) ?_
          refine take_no 15 25 rfl rfl (by kernel_rfl) (by kernel_rfl) (by kernel_rfl) (fun _ _ _ h => h) (by kernel_rfl) ?_
          refine take_no 16 26 rfl rfl (by kernel_rfl) (by kernel_rfl) (by kernel_rfl) (fun _ _ _ h => h) (by kernel_rfl) ?_
          refine take_no 17 27 rfl rfl (by kernel_rfl) (by kernel_rfl) (by kernel_rfl) (fun _ _ _ h => h) (by kernel_rfl) ?_
          refine take_no 18 28 rfl rfl (by kernel_rfl) (by kernel_rfl) (by kernel_rfl) (fun _ _ _ h => h) (by kernel_rfl) ?_
          refine take_no 19 29 rfl rfl (by kernel_rfl) (by kernel_rfl) (by kernel_rfl) (fun _ _ _ h => h) (by kernel_rfl) ?_
          refine take_no 20 30 rfl rfl (by kernel_rfl) (by kernel_rfl) (by kernel_rfl) (fun _ _ _ h => h) (by kernel_rfl) ?_
          refine take_no 21 31 rfl rfl (by kernel_rfl) (by kernel_rfl) (by kernel_rfl) (fun _ _ _ h => h) (by kernel_rfl) ?_
          refine take_yes 22 32 rfl rfl (by kernel_rfl) (by kernel_rfl) (by kernel_rfl) (fun _ _ _ h => h) (Or.inl ⟨by kernel_rfl, by intro w; go_simp; try with_reducible rfl⟩) ?_
          refine take_yes 23 33 rfl rfl (by kernel_rfl) (by kernel_rfl) (by kernel_rfl) (fun _ _ _ h => h) (Or.inl ⟨by kernel_rfl, by intro w; go_simp; try with_reducible rfl⟩) ?_
          refine wpAny_done (by kernel_rfl) ?_ _
          simp only [Exit.then]
          simp only [Act.put, List.setIfInBounds_toArray, List.set_cons_succ, List.set_cons_zero]
          go_wp2_with fail
          go_roundg (gk - 1)
          case measure => have := HK.out; omega
          case rel => exact ⟨1, rfl, by have := HK.out; omega, valid_next V.out (by omega) OK.out (fun j hj => by omega), B1.out.drew.trans (hb'.mono B1.out.size)⟩
        | succ j =>
          obtain ⟨c3, c4⟩ := HC.out j (by omega)
          have d4 := (B1.out.cell (cell_below c4)).trans c4
          clear c3 c4
          have s1 : IntKind.i64.wrap ((j : Int) + 1 - 1) = (j : Int) := by rw [show (j : Int) + 1 - 1 = j by omega]; exact IntWalk.i64_in _ (by omega)
          have s2 : IntKind.i64.wrap (j : Int) = (j : Int) := IntWalk.i64_in _ (by omega)
          have s3 : (0 : Int) ≤ (j : Int) := Int.natCast_nonneg _
          have s4 : (j : Int) < (len : Int) := by omega
          have s5 : (0 : Int) ≤ (j : Int) + 1 := by omega
          have s6 : (j : Int) + 1 < (len : Int) := by omega
          have s7 : ((j : Int) + 1).toNat = j + 1 := by omega
          go_wp2_with fail
          go_region_held3 (fun w' => w'.cell? ⟨g, o + (j + 1) * 2, none⟩ = some (.int .i64 l[j + 1].1) ∧ w'.cell? ⟨g, o + (j + 1) * 2 + 1, none⟩ = some (.int .i64 l[j + 1].2) ∧ w'.cell? ⟨g, o + j * 2 + 1, none⟩ = some (.int .i64 l[j].2))
            (first | go_keep | (go_split_ands; exact held3 hb' ‹_› ‹_› ‹_›))
            (((go_at_call 39); refine (l3Piece_is OK.out _).mono ?_; rintro e w' ⟨rfl, hb'⟩))
          by_cases hov : l[j + 1].1 < l[j].2
          · go_wp2_with fail
            go_ret
            refine ⟨?_, B1.out.drew.trans (hb'.mono B1.out.size)⟩
            unfold isCore
            rw [valid_over (by omega) hov, Bool.and_false]
            rfl
          · go_wp2_with fail
            go_roundg (gk - 1)
            case measure => have := HK.out; omega
            case rel => exact ⟨j + 2, by go_num, by have := HK.out; omega, valid_next V.out (by omega) OK.out (fun i hi => by (have e : i = j := (by omega)); subst e; first | exact hov | exact Int.not_lt.1 hov), B1.out.drew.trans (hb'.mono B1.out.size)⟩
    · have R : Hid (isCore l = decide ((len : Int) ≤ 20)) := Lib.hid (by
        have := V.out
        rw [List.take_of_length_le (by omega)] at this
        unfold isCore
        rw [this, Bool.and_true, hl]
        by_cases h : len ≤ 20 <;> simp <;> omega)
      go_wp2_with fail
      go_ret
      exact ⟨by rw [R.out]; rfl, B1.out⟩

theorem specCoreValid_any {w : World} {v : Value} {l : List Pc} (h : Row w v l) : Calls Try.prog 14 #[v] w fun e w' => Val w (.bool (isCore l)) e w' := by
  obtain ⟨a, len, cap, rfl, h1, h2, h3, h4⟩ := h
  exact specCoreValid_row h1 (by omega) h4
end Go.Proofs.Ytdljfikgmhdedaa
