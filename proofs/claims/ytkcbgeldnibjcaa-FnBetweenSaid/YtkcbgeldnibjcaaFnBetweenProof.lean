/- For every input, the law FnBetween of the given statements returns true over the program at this commit, and its arguments read afterwards as before: no condition. -/
import Derived.Test.YtkcbgeldnibjcaaRows
import Derived.Test.YtkcbgeldnibjcaaLawR
import Derived.WalkKit
import Derived.ProofKit
import Derived.OpenShut
import Derived.ShutString
import Derived.ChangeOld
import Derived.Below
namespace Go.Proofs.Ytkcbgeldnibjcaa.fnBetween
open Go.ChangeShapes Go.WideShapes Go.ChangeAt Go.RowKit
open Go.ChangeMaps (open_string shut_string)
set_option linter.unusedVariables false

theorem own : ownKnob Try.prog.godebug = none := by kernel_rfl
theorem laidOut : laidOutB Try.prog = true := by kernel_rfl

/-- WHAT THE WALK IS TOLD OF A SLICE OF INTEGERS THAT CAME IN: it is nil; or it leads to a row of 'cap' cells, the numbers 'zs' (the first 'len' are its elements, the rest its spare room), each fitting its kind. -/
def IsRow (k : IntKind) (w : World) (a : Option Addr) (len cap : Nat) (zs : List Int) : Prop :=
  (a = none ∧ len = 0 ∧ cap = 0 ∧ zs = []) ∨
  ∃ x, a = some x ∧ len ≤ cap ∧ cap ≤ maxLen ∧ zs.length = cap ∧ (∀ i, i < zs.length → w.cell? (x.add i) = some (.int k (zs.getD i 0))) ∧ ∀ n ∈ zs, (Lit.int k n).wf = true

set_option maxRecDepth 100000 in
set_option maxHeartbeats 3200000 in
theorem walk (a0 : Option Addr) (len0 cap0 : Nat) (z0 : List Int) (a1 : Option Addr) (len1 cap1 : Nat) (z1 : List Int) (w : World) (w0 : IsRow .u8 w a0 len0 cap0 z0) (w1 : IsRow .u8 w a1 len1 cap1 z1) :
    Calls Try.prog 5 #[.slice a0 len0 cap0, .slice a1 len1 cap1] w fun e w' => e = .returned (.bool true) ∧ Below w.heap.size w w' := by
  have hB := bytes_of w0
  have hB1 := bytes_len (bytes_of w1)
  unfold maxLen at hB1
  by_cases hl : 1048576 < len0
  · have hdec : decide (1048576 < len0) = true := by simpa using hl
    go_enter Try.func5, Try.ntmps5
    go_wp2_with fail
    go_ret
    exact ⟨rfl, Below.refl _ _⟩
  have hdec : decide (1048576 < len0) = false := by simpa using hl
  by_cases hl1 : 1048576 < len1
  · go_enter Try.func5, Try.ntmps5
    go_wp2_with fail
    go_ret
    exact ⟨rfl, Below.refl _ _⟩
  have hm : len0 ≤ 1048576 := by omega
  have hm1 : len1 ≤ 1048576 := by omega
  clear hB1
  go_enter Try.func5, Try.ntmps5
  go_wp2_with fail
  refine (DrawRecordBetween_any hB).mono ?_
  rintro e wv1 ⟨v, u, l, a, t, b, rfl, rl, ra, hl2, ha1, t0, t1, b0, b1x, b1⟩
  clear w0 w1 hB
  have S := St.start b1
  clear b1
  have R := Lib.hid (show Rec _ _ _ l a from ⟨rl, ra⟩)
  clear rl ra
  cases hb : bet l a t b with
  | none =>
    have HB := Lib.hid hb
    clear hb
    go_wp2_with fail
    refine (bet_no R.out HB.out).mono ?_
    rintro e wv2 ⟨rfl, b2⟩
    replace R := Lib.hid ((R.out.grow b2).alloc 0 0 30)
    replace S := (S.next b2).alloc 0 0
    clear b2
    have r := S.holds
    simp only [Holds, and_true] at r
    try simp only [World.size_alloc] at r
    go_wp2_with fail
    refine (betS_no R.out HB.out).mono ?_
    rintro e wv3 ⟨rfl, b3⟩
    replace R := Lib.hid ((R.out.grow b3).alloc 0 0 30)
    replace S := (S.next b3).alloc 0 0
    clear b3
    clear r
    have r := S.holds
    simp only [Holds, and_true] at r
    try simp only [World.size_alloc] at r
    go_wp2_with fail
    go_ret
    exact ⟨by simp, S.below⟩
  | some r =>
    have HB := Lib.hid hb
    clear hb
    go_wp2_with fail
    refine (bet_yes R.out HB.out).mono ?_
    rintro e wv2 ⟨n, d, rfl, hf, hq, b2⟩
    replace R := Lib.hid ((R.out.grow b2).alloc n d 30)
    replace S := (S.next b2).alloc n d
    clear b2
    have r := S.holds
    simp only [Holds, and_true] at r
    try simp only [World.size_alloc] at r
    have HF := Lib.hid hf; have HQ := Lib.hid hq
    clear hf hq
    go_wp2_with fail
    refine (got_same (betS_yes R.out HB.out) HF.out HQ.out).mono ?_
    rintro e wv3 ⟨rfl, b3⟩
    replace R := Lib.hid ((R.out.grow b3).alloc n d 30)
    replace S := (S.next b3).alloc n d
    clear b3
    clear r
    have r := S.holds
    simp only [Holds, and_true] at r
    try simp only [World.size_alloc] at r
    obtain ⟨hr, hfit, hv, ht0, htb, hb3⟩ := bet_is HB.out
    have HV := Lib.hid hv; have HR := Lib.hid hr; have FT := Lib.hid hfit
    clear hv hr hfit
    have z0 : IntKind.i64.wrap (b - t) = b - t := IntWalk.i64_in _ (by omega)
    have z1 : IntKind.i64.wrap (b - t + 1) = b - t + 1 := IntWalk.i64_in _ (by omega)
    have z2 : ¬ (b - t + 1 = 0) := by omega
    obtain ⟨y, hy⟩ : ∃ y : Int, (len1 : Int).tmod (b - t + 1) = y := ⟨_, rfl⟩
    have hy0 : 0 ≤ y := by rw [← hy]; exact Int.tmod_nonneg _ (by omega)
    have hy1 : y < b - t + 1 := by rw [← hy]; exact Int.tmod_lt_of_pos _ (by omega)
    have hye : (len1 : Int) % (b - t + 1) = y := by rw [← hy, Int.tmod_eq_emod_of_nonneg (by omega)]
    have z3 : IntKind.i64.wrap y = y := IntWalk.i64_in _ (by omega)
    have z4 : IntKind.i64.wrap (t + y) = t + y := IntWalk.i64_in _ (by omega)
    have HT := Lib.hid (total_rec HV.out)
    obtain ⟨s0, s1⟩ := rec_sum HV.out
    obtain ⟨sm, hsm⟩ : ∃ x : Int, a.sum = x := ⟨_, rfl⟩
    rw [hsm] at HT s0 s1
    have FS := fv_int (k := sm) (by omega) (by omega)
    have NN := num_nonneg HF.out (by rw [HQ.out, HR.out]; exact amt_nonneg HV.out t b)
    have LE := Lib.hid (decide_eq_false (show ¬ fq sm 1 < fq n d by rw [fq_whole, HQ.out, HR.out, ← hsm]; have := amt_le HV.out htb; grind))
    have Z0 : Hid (t < b ∨ n = 0 ∧ ¬ t < b) := Lib.hid (by
      rcases Int.lt_or_eq_of_le htb with q | q
      · exact .inl q
      · refine .inr ⟨num_zero HF.out ?_, by omega⟩
        rw [HQ.out, HR.out, q, amt_none])
    clear hsm
    cases hX : bet l a t (t + y) with
    | none =>
      have HBX := Lib.hid hX
      clear hX
      go_wp2_with fail
      refine (bet_no R.out HBX.out).mono ?_
      rintro e wv4 ⟨rfl, b4⟩
      replace R := Lib.hid ((R.out.grow b4).alloc 0 0 30)
      replace S := (S.next b4).alloc 0 0
      clear b4
      clear r
      have r := S.holds
      simp only [Holds, and_true] at r
      try simp only [World.size_alloc] at r
      go_wp2_with fail
      refine (implRecordBetween_any (t + y) b R.out).mono ?_
      rintro e wv5 ⟨nY, dY, okY, rfl, hrY, b5⟩
      replace R := Lib.hid ((R.out.grow b5).alloc nY dY 30)
      replace S := (S.next b5).alloc nY dY
      clear b5
      clear r
      have r := S.holds
      simp only [Holds, and_true] at r
      try simp only [World.size_alloc] at r
      clear hrY
      go_wp2_with fail
      refine (got_no (implFracAdd_any _ _ _ _ _) (.inl rfl)).mono ?_
      rintro e wv6 ⟨rfl, b6⟩
      replace R := Lib.hid ((R.out.grow b6).alloc 0 0 30)
      replace S := (S.next b6).alloc 0 0
      clear b6
      clear r
      have r := S.holds
      simp only [Holds, and_true] at r
      try simp only [World.size_alloc] at r
      go_wp2_with fail
      refine (total_is R.out HT.out).mono ?_
      rintro e wv7 ⟨rfl, b7⟩
      replace R := Lib.hid ((R.out.grow b7))
      replace S := (S.next b7)
      clear b7
      clear r
      have r := S.holds
      simp only [Holds, and_true] at r
      try simp only [World.size_alloc] at r
      rcases Z0.out with zt | ⟨zt, zt2⟩
      · have dt : decide (t < b) = true := by simpa using zt
        clear zt
        have Oc0 := r.2.2.2.2.1
        have Oc1 := r.2.2.2.2.2.1
        go_upto_region 13 with fail
        have mkS : ∀ w' : World, Below wv7.heap.size wv7 w' → (Below wv7.heap.size wv7 w' ∧ w'.cell? ⟨wv2.heap.size, 0, none⟩ = some (.int .i64 n) ∧ w'.cell? ⟨wv2.heap.size, 1, none⟩ = some (.int .i64 d)) := fun w' b => ⟨b, (b.cell (cell_below Oc0)).trans Oc0, (b.cell (cell_below Oc1)).trans Oc1⟩
        have held : ∀ W w' : World, Below W.heap.size W w' → (Below wv7.heap.size wv7 W ∧ W.cell? ⟨wv2.heap.size, 0, none⟩ = some (.int .i64 n) ∧ W.cell? ⟨wv2.heap.size, 1, none⟩ = some (.int .i64 d)) → (Below wv7.heap.size wv7 w' ∧ w'.cell? ⟨wv2.heap.size, 0, none⟩ = some (.int .i64 n) ∧ w'.cell? ⟨wv2.heap.size, 1, none⟩ = some (.int .i64 d)) := fun W w' b h => mkS w' (h.1.trans (b.mono h.1.size))
        have keep0 := mkS _ (Below.refl wv7.heap.size wv7).drew
        have atR := fun (W : World) (h : (Below wv7.heap.size wv7 W ∧ W.cell? ⟨wv2.heap.size, 0, none⟩ = some (.int .i64 n) ∧ W.cell? ⟨wv2.heap.size, 1, none⟩ = some (.int .i64 d))) => R.out.grow h.1
        refine wp_region_held_drew (S := (fun w' => (Below wv7.heap.size wv7 w' ∧ w'.cell? ⟨wv2.heap.size, 0, none⟩ = some (.int .i64 n) ∧ w'.cell? ⟨wv2.heap.size, 1, none⟩ = some (.int .i64 d)))) (by kernel_rfl) (by exact keep0) (fun hHeld => ?_)
        refine take_h 0 106 rfl rfl (by kernel_rfl) (by kernel_rfl) (by kernel_rfl) (fun _ _ _ h => h) (by kernel_rfl) (by intro w hSw; (try dsimp only at hSw); go_simp; try with_reducible rfl) (by assumption) ?_
        refine take_h 1 107 rfl rfl (by kernel_rfl) (by kernel_rfl) (by kernel_rfl) (fun _ _ _ h => h) (by kernel_rfl) (by intro w hSw; (try dsimp only at hSw); go_simp; try with_reducible rfl) (by assumption) ?_
        refine take_h 2 108 rfl rfl (by kernel_rfl) (by kernel_rfl) (by kernel_rfl) (fun _ _ _ h => h) (by kernel_rfl) (by intro w hSw; (try dsimp only at hSw); go_simp; try with_reducible rfl) (by assumption) ?_
        refine skip_h 3 109 rfl rfl (by kernel_rfl) (by kernel_rfl) (by kernel_rfl) (fun _ _ _ h => h) (by kernel_rfl) (by assumption) ?_
        refine skip_h 4 110 rfl rfl (by kernel_rfl) (by kernel_rfl) (by kernel_rfl) (fun _ _ _ h => h) (by kernel_rfl) (by assumption) ?_
        refine take_h 5 111 rfl rfl (by kernel_rfl) (by kernel_rfl) (by kernel_rfl) (fun _ _ _ h => h) (by kernel_rfl) (by intro w hSw; (try dsimp only at hSw); go_simp; try with_reducible rfl) (by assumption) ?_
        refine take_h 6 112 rfl rfl (by kernel_rfl) (by kernel_rfl) (by kernel_rfl) (fun _ _ _ h => h) (by kernel_rfl) (by intro w hSw; (try dsimp only at hSw); go_simp; try with_reducible rfl) (by assumption) ?_
        refine skip_h 7 113 rfl rfl (by kernel_rfl) (by kernel_rfl) (by kernel_rfl) (fun _ _ _ h => h) (by kernel_rfl) (by assumption) ?_
        refine skip_h 8 114 rfl rfl (by kernel_rfl) (by kernel_rfl) (by kernel_rfl) (fun _ _ _ h => h) (by kernel_rfl) (by assumption) ?_
        refine take_h 9 115 rfl rfl (by kernel_rfl) (by kernel_rfl) (by kernel_rfl) (fun _ _ _ h => h) (by kernel_rfl) (by intro w hSw; (try dsimp only at hSw); go_simp; try with_reducible rfl) (by assumption) ?_
        refine take_h 10 116 rfl rfl (by kernel_rfl) (by kernel_rfl) (by kernel_rfl) (fun _ _ _ h => h) (by kernel_rfl) (by intro w hSw; (try dsimp only at hSw); go_simp; try with_reducible rfl) (by assumption) ?_
        refine skip_h 11 117 rfl rfl (by kernel_rfl) (by kernel_rfl) (by kernel_rfl) (fun _ _ _ h => h) (by kernel_rfl) (by assumption) ?_
        refine skip_h 12 118 rfl rfl (by kernel_rfl) (by kernel_rfl) (by kernel_rfl) (fun _ _ _ h => h) (by kernel_rfl) (by assumption) ?_
        refine skip_h 13 119 rfl rfl (by kernel_rfl) (by kernel_rfl) (by kernel_rfl) (fun _ _ _ h => h) (by kernel_rfl) (by assumption) ?_
        refine take_h 14 120 rfl rfl (by kernel_rfl) (by kernel_rfl) (by kernel_rfl) (fun _ _ _ h => h) (by kernel_rfl) (by intro w hSw; (try dsimp only at hSw); go_simp; try with_reducible rfl) (by assumption) ?_
        refine take_h 15 121 rfl rfl (by kernel_rfl) (by kernel_rfl) (by kernel_rfl) (fun _ _ _ h => h) (by kernel_rfl) (by intro w hSw; (try dsimp only at hSw); go_simp; try with_reducible rfl) (by assumption) ?_
        refine take_h 16 122 rfl rfl (by kernel_rfl) (by kernel_rfl) (by kernel_rfl) (fun _ _ _ h => h) (by kernel_rfl) (by intro w hSw; (try dsimp only at hSw); go_simp; try with_reducible rfl) (by assumption) ?_
        refine take_h 17 123 rfl rfl (by kernel_rfl) (by kernel_rfl) (by kernel_rfl) (fun _ _ _ h => h) (by kernel_rfl) (by intro w hSw; (try dsimp only at hSw); go_simp; try with_reducible rfl) (by assumption) ?_
        refine take_h 18 124 rfl rfl (by kernel_rfl) (by kernel_rfl) (by kernel_rfl) (fun _ _ _ h => h) (by kernel_rfl) (by intro w hSw; (try dsimp only at hSw); go_simp; try with_reducible rfl) (by assumption) ?_
        refine take_h 19 125 rfl rfl (by kernel_rfl) (by kernel_rfl) (by kernel_rfl) (fun _ _ _ h => h) (by kernel_rfl) (by intro w hSw; (try dsimp only at hSw); go_simp; try with_reducible rfl) (by assumption) ?_
        refine take_h 20 126 rfl rfl (by kernel_rfl) (by kernel_rfl) (by kernel_rfl) (fun _ _ _ h => h) (by kernel_rfl) (by intro w hSw; (try dsimp only at hSw); go_simp; try with_reducible rfl) (by assumption) ?_
        refine take_h 21 127 rfl rfl (by kernel_rfl) (by kernel_rfl) (by kernel_rfl) (fun _ _ _ h => h) (by kernel_rfl) (by intro w hSw; (try dsimp only at hSw); go_simp; try with_reducible rfl) (by assumption) ?_
        refine take_h 23 129 rfl rfl (by kernel_rfl) (by kernel_rfl) (by kernel_rfl) (fun _ _ _ h => h) (by kernel_rfl) (by intro w hSw; (try dsimp only at hSw); go_simp; try with_reducible rfl) (by assumption) ?_
        refine wpAnyH_ready (rs := [22]) (by kernel_rfl) (by simp) (AllReadyH.cons rfl (fun K hK => ?_) AllReadyH.nil)
        go_simp
        go_wp2_with ((go_at_call 20; refine (frac_any _ _).mono ?_; rintro e x0 ⟨rfl, b0⟩; have hs0 := held _ _ b0 (by assumption)))
        refine hK.out _ _ (by (try dsimp only); exact hs0) (fun hHeld => ?_)
        clear hK K
        refine wpAnyH_ready (rs := [24]) (by kernel_rfl) (by simp) (AllReadyH.cons rfl (fun K hK => ?_) AllReadyH.nil)
        go_simp
        go_wp2_with ((go_at_call 24; refine (less_is' FS HF.out LE.out _).mono ?_; rintro e wv8 ⟨rfl, b1⟩; have hs1 := held _ _ b1 (by assumption)))
        refine hK.out _ _ (by (try dsimp only); exact hs1) (fun hHeld => ?_)
        clear hK K
        refine take_h 25 131 rfl rfl (by kernel_rfl) (by kernel_rfl) (by kernel_rfl) (fun _ _ _ h => h) (by kernel_rfl) (by intro w hSw; (try dsimp only at hSw); go_simp; try with_reducible rfl) (by assumption) ?_
        refine take_h 26 132 rfl rfl (by kernel_rfl) (by kernel_rfl) (by kernel_rfl) (fun _ _ _ h => h) (by kernel_rfl) (by intro w hSw; (try dsimp only at hSw); go_simp; try with_reducible rfl) (by assumption) ?_
        refine take_h 27 133 rfl rfl (by kernel_rfl) (by kernel_rfl) (by kernel_rfl) (fun _ _ _ h => h) (by kernel_rfl) (by intro w hSw; (try dsimp only at hSw); go_simp; try with_reducible rfl) (by assumption) ?_
        refine take_h 28 134 rfl rfl (by kernel_rfl) (by kernel_rfl) (by kernel_rfl) (fun _ _ _ h => h) (by kernel_rfl) (by intro w hSw; (try dsimp only at hSw); go_simp; try with_reducible rfl) (by assumption) ?_
        refine take_h 29 135 rfl rfl (by kernel_rfl) (by kernel_rfl) (by kernel_rfl) (fun _ _ _ h => h) (by kernel_rfl) (by intro w hSw; (try dsimp only at hSw); go_simp; try with_reducible rfl) (by assumption) ?_
        refine take_h 30 136 rfl rfl (by kernel_rfl) (by kernel_rfl) (by kernel_rfl) (fun _ _ _ h => h) (by kernel_rfl) (by intro w hSw; (try dsimp only at hSw); go_simp; try with_reducible rfl) (by assumption) ?_
        refine take_h 31 137 rfl rfl (by kernel_rfl) (by kernel_rfl) (by kernel_rfl) (fun _ _ _ h => h) (by kernel_rfl) (by intro w hSw; (try dsimp only at hSw); go_simp; try with_reducible rfl) (by assumption) ?_
        refine skip_h 32 138 rfl rfl (by kernel_rfl) (by kernel_rfl) (by kernel_rfl) (fun _ _ _ h => h) (by kernel_rfl) (by assumption) ?_
        refine skip_h 33 139 rfl rfl (by kernel_rfl) (by kernel_rfl) (by kernel_rfl) (fun _ _ _ h => h) (by kernel_rfl) (by assumption) ?_
        refine skip_h 34 140 rfl rfl (by kernel_rfl) (by kernel_rfl) (by kernel_rfl) (fun _ _ _ h => h) (by kernel_rfl) (by assumption) ?_
        refine take_h 35 141 rfl rfl (by kernel_rfl) (by kernel_rfl) (by kernel_rfl) (fun _ _ _ h => h) (by kernel_rfl) (by intro w hSw; (try dsimp only at hSw); go_simp; try with_reducible rfl) (by assumption) ?_
        refine take_h 36 142 rfl rfl (by kernel_rfl) (by kernel_rfl) (by kernel_rfl) (fun _ _ _ h => h) (by kernel_rfl) (by intro w hSw; (try dsimp only at hSw); go_simp; try with_reducible rfl) (by assumption) ?_
        refine take_h 37 4 rfl rfl (by kernel_rfl) (by kernel_rfl) (by kernel_rfl) (fun _ _ _ h => h) (by kernel_rfl) (by intro w hSw; (try dsimp only at hSw); go_simp; try with_reducible rfl) (by assumption) ?_
        refine wpAnyH_done (by kernel_rfl) ?_ _
        simp only [Exit.then]
        simp only [Act.put, List.setIfInBounds_toArray, List.set_cons_succ, List.set_cons_zero]
        have B9 := hs1.1
        replace R := Lib.hid (R.out.grow B9)
        replace S := S.next B9
        clear mkS held keep0 B9 atR hs0 b0 hs1 b1
        clear r
        have r := S.holds
        simp only [Holds, and_true] at r
        try simp only [World.size_alloc] at r
        go_wp2_with fail
        go_ret
        exact ⟨by first | rfl | (simp; done) | (simp; omega), S.below⟩
      · subst zt
        have dt : decide (t < b) = false := by simpa using zt2
        clear NN zt2
        have Oc0 := r.2.2.2.2.1
        have Oc1 := r.2.2.2.2.2.1
        go_upto_region 13 with fail
        have mkS : ∀ w' : World, Below wv7.heap.size wv7 w' → (Below wv7.heap.size wv7 w' ∧ w'.cell? ⟨wv2.heap.size, 0, none⟩ = some (.int .i64 0) ∧ w'.cell? ⟨wv2.heap.size, 1, none⟩ = some (.int .i64 d)) := fun w' b => ⟨b, (b.cell (cell_below Oc0)).trans Oc0, (b.cell (cell_below Oc1)).trans Oc1⟩
        have held : ∀ W w' : World, Below W.heap.size W w' → (Below wv7.heap.size wv7 W ∧ W.cell? ⟨wv2.heap.size, 0, none⟩ = some (.int .i64 0) ∧ W.cell? ⟨wv2.heap.size, 1, none⟩ = some (.int .i64 d)) → (Below wv7.heap.size wv7 w' ∧ w'.cell? ⟨wv2.heap.size, 0, none⟩ = some (.int .i64 0) ∧ w'.cell? ⟨wv2.heap.size, 1, none⟩ = some (.int .i64 d)) := fun W w' b h => mkS w' (h.1.trans (b.mono h.1.size))
        have keep0 := mkS _ (Below.refl wv7.heap.size wv7).drew
        have atR := fun (W : World) (h : (Below wv7.heap.size wv7 W ∧ W.cell? ⟨wv2.heap.size, 0, none⟩ = some (.int .i64 0) ∧ W.cell? ⟨wv2.heap.size, 1, none⟩ = some (.int .i64 d))) => R.out.grow h.1
        refine wp_region_held_drew (S := (fun w' => (Below wv7.heap.size wv7 w' ∧ w'.cell? ⟨wv2.heap.size, 0, none⟩ = some (.int .i64 0) ∧ w'.cell? ⟨wv2.heap.size, 1, none⟩ = some (.int .i64 d)))) (by kernel_rfl) (by exact keep0) (fun hHeld => ?_)
        refine take_h 0 106 rfl rfl (by kernel_rfl) (by kernel_rfl) (by kernel_rfl) (fun _ _ _ h => h) (by kernel_rfl) (by intro w hSw; (try dsimp only at hSw); go_simp; try with_reducible rfl) (by assumption) ?_
        refine take_h 1 107 rfl rfl (by kernel_rfl) (by kernel_rfl) (by kernel_rfl) (fun _ _ _ h => h) (by kernel_rfl) (by intro w hSw; (try dsimp only at hSw); go_simp; try with_reducible rfl) (by assumption) ?_
        refine take_h 2 108 rfl rfl (by kernel_rfl) (by kernel_rfl) (by kernel_rfl) (fun _ _ _ h => h) (by kernel_rfl) (by intro w hSw; (try dsimp only at hSw); go_simp; try with_reducible rfl) (by assumption) ?_
        refine skip_h 3 109 rfl rfl (by kernel_rfl) (by kernel_rfl) (by kernel_rfl) (fun _ _ _ h => h) (by kernel_rfl) (by assumption) ?_
        refine skip_h 4 110 rfl rfl (by kernel_rfl) (by kernel_rfl) (by kernel_rfl) (fun _ _ _ h => h) (by kernel_rfl) (by assumption) ?_
        refine take_h 5 111 rfl rfl (by kernel_rfl) (by kernel_rfl) (by kernel_rfl) (fun _ _ _ h => h) (by kernel_rfl) (by intro w hSw; (try dsimp only at hSw); go_simp; try with_reducible rfl) (by assumption) ?_
        refine take_h 6 112 rfl rfl (by kernel_rfl) (by kernel_rfl) (by kernel_rfl) (fun _ _ _ h => h) (by kernel_rfl) (by intro w hSw; (try dsimp only at hSw); go_simp; try with_reducible rfl) (by assumption) ?_
        refine skip_h 7 113 rfl rfl (by kernel_rfl) (by kernel_rfl) (by kernel_rfl) (fun _ _ _ h => h) (by kernel_rfl) (by assumption) ?_
        refine skip_h 8 114 rfl rfl (by kernel_rfl) (by kernel_rfl) (by kernel_rfl) (fun _ _ _ h => h) (by kernel_rfl) (by assumption) ?_
        refine take_h 9 115 rfl rfl (by kernel_rfl) (by kernel_rfl) (by kernel_rfl) (fun _ _ _ h => h) (by kernel_rfl) (by intro w hSw; (try dsimp only at hSw); go_simp; try with_reducible rfl) (by assumption) ?_
        refine take_h 10 116 rfl rfl (by kernel_rfl) (by kernel_rfl) (by kernel_rfl) (fun _ _ _ h => h) (by kernel_rfl) (by intro w hSw; (try dsimp only at hSw); go_simp; try with_reducible rfl) (by assumption) ?_
        refine skip_h 11 117 rfl rfl (by kernel_rfl) (by kernel_rfl) (by kernel_rfl) (fun _ _ _ h => h) (by kernel_rfl) (by assumption) ?_
        refine skip_h 12 118 rfl rfl (by kernel_rfl) (by kernel_rfl) (by kernel_rfl) (fun _ _ _ h => h) (by kernel_rfl) (by assumption) ?_
        refine skip_h 13 119 rfl rfl (by kernel_rfl) (by kernel_rfl) (by kernel_rfl) (fun _ _ _ h => h) (by kernel_rfl) (by assumption) ?_
        refine take_h 14 120 rfl rfl (by kernel_rfl) (by kernel_rfl) (by kernel_rfl) (fun _ _ _ h => h) (by kernel_rfl) (by intro w hSw; (try dsimp only at hSw); go_simp; try with_reducible rfl) (by assumption) ?_
        refine take_h 15 121 rfl rfl (by kernel_rfl) (by kernel_rfl) (by kernel_rfl) (fun _ _ _ h => h) (by kernel_rfl) (by intro w hSw; (try dsimp only at hSw); go_simp; try with_reducible rfl) (by assumption) ?_
        refine take_h 16 122 rfl rfl (by kernel_rfl) (by kernel_rfl) (by kernel_rfl) (fun _ _ _ h => h) (by kernel_rfl) (by intro w hSw; (try dsimp only at hSw); go_simp; try with_reducible rfl) (by assumption) ?_
        refine take_h 17 123 rfl rfl (by kernel_rfl) (by kernel_rfl) (by kernel_rfl) (fun _ _ _ h => h) (by kernel_rfl) (by intro w hSw; (try dsimp only at hSw); go_simp; try with_reducible rfl) (by assumption) ?_
        refine take_h 18 124 rfl rfl (by kernel_rfl) (by kernel_rfl) (by kernel_rfl) (fun _ _ _ h => h) (by kernel_rfl) (by intro w hSw; (try dsimp only at hSw); go_simp; try with_reducible rfl) (by assumption) ?_
        refine take_h 19 125 rfl rfl (by kernel_rfl) (by kernel_rfl) (by kernel_rfl) (fun _ _ _ h => h) (by kernel_rfl) (by intro w hSw; (try dsimp only at hSw); go_simp; try with_reducible rfl) (by assumption) ?_
        refine take_h 20 126 rfl rfl (by kernel_rfl) (by kernel_rfl) (by kernel_rfl) (fun _ _ _ h => h) (by kernel_rfl) (by intro w hSw; (try dsimp only at hSw); go_simp; try with_reducible rfl) (by assumption) ?_
        refine take_h 21 127 rfl rfl (by kernel_rfl) (by kernel_rfl) (by kernel_rfl) (fun _ _ _ h => h) (by kernel_rfl) (by intro w hSw; (try dsimp only at hSw); go_simp; try with_reducible rfl) (by assumption) ?_
        refine take_h 23 129 rfl rfl (by kernel_rfl) (by kernel_rfl) (by kernel_rfl) (fun _ _ _ h => h) (by kernel_rfl) (by intro w hSw; (try dsimp only at hSw); go_simp; try with_reducible rfl) (by assumption) ?_
        refine wpAnyH_ready (rs := [22]) (by kernel_rfl) (by simp) (AllReadyH.cons rfl (fun K hK => ?_) AllReadyH.nil)
        go_simp
        go_wp2_with ((go_at_call 20; refine (frac_any _ _).mono ?_; rintro e x0 ⟨rfl, b0⟩; have hs0 := held _ _ b0 (by assumption)))
        refine hK.out _ _ (by (try dsimp only); exact hs0) (fun hHeld => ?_)
        clear hK K
        refine wpAnyH_ready (rs := [24]) (by kernel_rfl) (by simp) (AllReadyH.cons rfl (fun K hK => ?_) AllReadyH.nil)
        go_simp
        go_wp2_with ((go_at_call 24; refine (less_is' FS HF.out LE.out _).mono ?_; rintro e wv8 ⟨rfl, b1⟩; have hs1 := held _ _ b1 (by assumption)))
        refine hK.out _ _ (by (try dsimp only); exact hs1) (fun hHeld => ?_)
        clear hK K
        refine take_h 25 131 rfl rfl (by kernel_rfl) (by kernel_rfl) (by kernel_rfl) (fun _ _ _ h => h) (by kernel_rfl) (by intro w hSw; (try dsimp only at hSw); go_simp; try with_reducible rfl) (by assumption) ?_
        refine take_h 26 132 rfl rfl (by kernel_rfl) (by kernel_rfl) (by kernel_rfl) (fun _ _ _ h => h) (by kernel_rfl) (by intro w hSw; (try dsimp only at hSw); go_simp; try with_reducible rfl) (by assumption) ?_
        refine take_h 27 133 rfl rfl (by kernel_rfl) (by kernel_rfl) (by kernel_rfl) (fun _ _ _ h => h) (by kernel_rfl) (by intro w hSw; (try dsimp only at hSw); go_simp; try with_reducible rfl) (by assumption) ?_
        refine take_h 28 134 rfl rfl (by kernel_rfl) (by kernel_rfl) (by kernel_rfl) (fun _ _ _ h => h) (by kernel_rfl) (by intro w hSw; (try dsimp only at hSw); go_simp; try with_reducible rfl) (by assumption) ?_
        refine take_h 29 135 rfl rfl (by kernel_rfl) (by kernel_rfl) (by kernel_rfl) (fun _ _ _ h => h) (by kernel_rfl) (by intro w hSw; (try dsimp only at hSw); go_simp; try with_reducible rfl) (by assumption) ?_
        refine take_h 30 136 rfl rfl (by kernel_rfl) (by kernel_rfl) (by kernel_rfl) (fun _ _ _ h => h) (by kernel_rfl) (by intro w hSw; (try dsimp only at hSw); go_simp; try with_reducible rfl) (by assumption) ?_
        refine take_h 31 137 rfl rfl (by kernel_rfl) (by kernel_rfl) (by kernel_rfl) (fun _ _ _ h => h) (by kernel_rfl) (by intro w hSw; (try dsimp only at hSw); go_simp; try with_reducible rfl) (by assumption) ?_
        refine take_h 32 138 rfl rfl (by kernel_rfl) (by kernel_rfl) (by kernel_rfl) (fun _ _ _ h => h) (by kernel_rfl) (by intro w hSw; (try dsimp only at hSw); go_simp; try with_reducible rfl) (by assumption) ?_
        refine take_h 33 139 rfl rfl (by kernel_rfl) (by kernel_rfl) (by kernel_rfl) (fun _ _ _ h => h) (by kernel_rfl) (by intro w hSw; (try dsimp only at hSw); go_simp; try with_reducible rfl) (by assumption) ?_
        refine take_h 34 140 rfl rfl (by kernel_rfl) (by kernel_rfl) (by kernel_rfl) (fun _ _ _ h => h) (by kernel_rfl) (by intro w hSw; (try dsimp only at hSw); go_simp; try with_reducible rfl) (by assumption) ?_
        refine take_h 35 141 rfl rfl (by kernel_rfl) (by kernel_rfl) (by kernel_rfl) (fun _ _ _ h => h) (by kernel_rfl) (by intro w hSw; (try dsimp only at hSw); go_simp; try with_reducible rfl) (by assumption) ?_
        refine take_h 36 142 rfl rfl (by kernel_rfl) (by kernel_rfl) (by kernel_rfl) (fun _ _ _ h => h) (by kernel_rfl) (by intro w hSw; (try dsimp only at hSw); go_simp; try with_reducible rfl) (by assumption) ?_
        refine take_h 37 4 rfl rfl (by kernel_rfl) (by kernel_rfl) (by kernel_rfl) (fun _ _ _ h => h) (by kernel_rfl) (by intro w hSw; (try dsimp only at hSw); go_simp; try with_reducible rfl) (by assumption) ?_
        refine wpAnyH_done (by kernel_rfl) ?_ _
        simp only [Exit.then]
        simp only [Act.put, List.setIfInBounds_toArray, List.set_cons_succ, List.set_cons_zero]
        have B9 := hs1.1
        replace R := Lib.hid (R.out.grow B9)
        replace S := S.next B9
        clear mkS held keep0 B9 atR hs0 b0 hs1 b1
        clear r
        have r := S.holds
        simp only [Holds, and_true] at r
        try simp only [World.size_alloc] at r
        go_wp2_with fail
        go_ret
        exact ⟨by first | rfl | (simp; done) | (simp; omega), S.below⟩
    | some rX =>
      have HBX := Lib.hid hX
      clear hX
      go_wp2_with fail
      refine (bet_yes R.out HBX.out).mono ?_
      rintro e wv4 ⟨nX, dX, rfl, hf, hq, b4⟩
      replace R := Lib.hid ((R.out.grow b4).alloc nX dX 30)
      replace S := (S.next b4).alloc nX dX
      clear b4
      clear r
      have r := S.holds
      simp only [Holds, and_true] at r
      try simp only [World.size_alloc] at r
      have HFX := Lib.hid hf; have HQX := Lib.hid hq
      clear hf hq
      cases hY : bet l a (t + y) b with
      | none =>
        have HBY := Lib.hid hY
        clear hY
        go_wp2_with fail
        refine (bet_no R.out HBY.out).mono ?_
        rintro e wv5 ⟨rfl, b5⟩
        replace R := Lib.hid ((R.out.grow b5).alloc 0 0 30)
        replace S := (S.next b5).alloc 0 0
        clear b5
        clear r
        have r := S.holds
        simp only [Holds, and_true] at r
        try simp only [World.size_alloc] at r
        go_wp2_with fail
        refine (got_no (implFracAdd_any _ _ _ _ _) (.inl (by rw [HFX.out]; rfl))).mono ?_
        rintro e wv6 ⟨rfl, b6⟩
        replace R := Lib.hid ((R.out.grow b6).alloc 0 0 30)
        replace S := (S.next b6).alloc 0 0
        clear b6
        clear r
        have r := S.holds
        simp only [Holds, and_true] at r
        try simp only [World.size_alloc] at r
        go_wp2_with fail
        refine (total_is R.out HT.out).mono ?_
        rintro e wv7 ⟨rfl, b7⟩
        replace R := Lib.hid ((R.out.grow b7))
        replace S := (S.next b7)
        clear b7
        clear r
        have r := S.holds
        simp only [Holds, and_true] at r
        try simp only [World.size_alloc] at r
        rcases Z0.out with zt | ⟨zt, zt2⟩
        · have dt : decide (t < b) = true := by simpa using zt
          clear zt
          have Oc0 := r.2.2.2.2.1
          have Oc1 := r.2.2.2.2.2.1
          go_upto_region 13 with fail
          have mkS : ∀ w' : World, Below wv7.heap.size wv7 w' → (Below wv7.heap.size wv7 w' ∧ w'.cell? ⟨wv2.heap.size, 0, none⟩ = some (.int .i64 n) ∧ w'.cell? ⟨wv2.heap.size, 1, none⟩ = some (.int .i64 d)) := fun w' b => ⟨b, (b.cell (cell_below Oc0)).trans Oc0, (b.cell (cell_below Oc1)).trans Oc1⟩
          have held : ∀ W w' : World, Below W.heap.size W w' → (Below wv7.heap.size wv7 W ∧ W.cell? ⟨wv2.heap.size, 0, none⟩ = some (.int .i64 n) ∧ W.cell? ⟨wv2.heap.size, 1, none⟩ = some (.int .i64 d)) → (Below wv7.heap.size wv7 w' ∧ w'.cell? ⟨wv2.heap.size, 0, none⟩ = some (.int .i64 n) ∧ w'.cell? ⟨wv2.heap.size, 1, none⟩ = some (.int .i64 d)) := fun W w' b h => mkS w' (h.1.trans (b.mono h.1.size))
          have keep0 := mkS _ (Below.refl wv7.heap.size wv7).drew
          have atR := fun (W : World) (h : (Below wv7.heap.size wv7 W ∧ W.cell? ⟨wv2.heap.size, 0, none⟩ = some (.int .i64 n) ∧ W.cell? ⟨wv2.heap.size, 1, none⟩ = some (.int .i64 d))) => R.out.grow h.1
          refine wp_region_held_drew (S := (fun w' => (Below wv7.heap.size wv7 w' ∧ w'.cell? ⟨wv2.heap.size, 0, none⟩ = some (.int .i64 n) ∧ w'.cell? ⟨wv2.heap.size, 1, none⟩ = some (.int .i64 d)))) (by kernel_rfl) (by exact keep0) (fun hHeld => ?_)
          refine take_h 0 106 rfl rfl (by kernel_rfl) (by kernel_rfl) (by kernel_rfl) (fun _ _ _ h => h) (by kernel_rfl) (by intro w hSw; (try dsimp only at hSw); go_simp; try with_reducible rfl) (by assumption) ?_
          refine take_h 1 107 rfl rfl (by kernel_rfl) (by kernel_rfl) (by kernel_rfl) (fun _ _ _ h => h) (by kernel_rfl) (by intro w hSw; (try dsimp only at hSw); go_simp; try with_reducible rfl) (by assumption) ?_
          refine take_h 2 108 rfl rfl (by kernel_rfl) (by kernel_rfl) (by kernel_rfl) (fun _ _ _ h => h) (by kernel_rfl) (by intro w hSw; (try dsimp only at hSw); go_simp; try with_reducible rfl) (by assumption) ?_
          refine take_h 3 109 rfl rfl (by kernel_rfl) (by kernel_rfl) (by kernel_rfl) (fun _ _ _ h => h) (by kernel_rfl) (by intro w hSw; (try dsimp only at hSw); go_simp; try with_reducible rfl) (by assumption) ?_
          refine take_h 4 110 rfl rfl (by kernel_rfl) (by kernel_rfl) (by kernel_rfl) (fun _ _ _ h => h) (by kernel_rfl) (by intro w hSw; (try dsimp only at hSw); go_simp; try with_reducible rfl) (by assumption) ?_
          refine take_h 5 111 rfl rfl (by kernel_rfl) (by kernel_rfl) (by kernel_rfl) (fun _ _ _ h => h) (by kernel_rfl) (by intro w hSw; (try dsimp only at hSw); go_simp; try with_reducible rfl) (by assumption) ?_
          refine take_h 6 112 rfl rfl (by kernel_rfl) (by kernel_rfl) (by kernel_rfl) (fun _ _ _ h => h) (by kernel_rfl) (by intro w hSw; (try dsimp only at hSw); go_simp; try with_reducible rfl) (by assumption) ?_
          refine skip_h 7 113 rfl rfl (by kernel_rfl) (by kernel_rfl) (by kernel_rfl) (fun _ _ _ h => h) (by kernel_rfl) (by assumption) ?_
          refine skip_h 8 114 rfl rfl (by kernel_rfl) (by kernel_rfl) (by kernel_rfl) (fun _ _ _ h => h) (by kernel_rfl) (by assumption) ?_
          refine take_h 9 115 rfl rfl (by kernel_rfl) (by kernel_rfl) (by kernel_rfl) (fun _ _ _ h => h) (by kernel_rfl) (by intro w hSw; (try dsimp only at hSw); go_simp; try with_reducible rfl) (by assumption) ?_
          refine take_h 10 116 rfl rfl (by kernel_rfl) (by kernel_rfl) (by kernel_rfl) (fun _ _ _ h => h) (by kernel_rfl) (by intro w hSw; (try dsimp only at hSw); go_simp; try with_reducible rfl) (by assumption) ?_
          refine skip_h 11 117 rfl rfl (by kernel_rfl) (by kernel_rfl) (by kernel_rfl) (fun _ _ _ h => h) (by kernel_rfl) (by assumption) ?_
          refine skip_h 12 118 rfl rfl (by kernel_rfl) (by kernel_rfl) (by kernel_rfl) (fun _ _ _ h => h) (by kernel_rfl) (by assumption) ?_
          refine skip_h 13 119 rfl rfl (by kernel_rfl) (by kernel_rfl) (by kernel_rfl) (fun _ _ _ h => h) (by kernel_rfl) (by assumption) ?_
          refine take_h 14 120 rfl rfl (by kernel_rfl) (by kernel_rfl) (by kernel_rfl) (fun _ _ _ h => h) (by kernel_rfl) (by intro w hSw; (try dsimp only at hSw); go_simp; try with_reducible rfl) (by assumption) ?_
          refine take_h 15 121 rfl rfl (by kernel_rfl) (by kernel_rfl) (by kernel_rfl) (fun _ _ _ h => h) (by kernel_rfl) (by intro w hSw; (try dsimp only at hSw); go_simp; try with_reducible rfl) (by assumption) ?_
          refine take_h 16 122 rfl rfl (by kernel_rfl) (by kernel_rfl) (by kernel_rfl) (fun _ _ _ h => h) (by kernel_rfl) (by intro w hSw; (try dsimp only at hSw); go_simp; try with_reducible rfl) (by assumption) ?_
          refine take_h 17 123 rfl rfl (by kernel_rfl) (by kernel_rfl) (by kernel_rfl) (fun _ _ _ h => h) (by kernel_rfl) (by intro w hSw; (try dsimp only at hSw); go_simp; try with_reducible rfl) (by assumption) ?_
          refine take_h 18 124 rfl rfl (by kernel_rfl) (by kernel_rfl) (by kernel_rfl) (fun _ _ _ h => h) (by kernel_rfl) (by intro w hSw; (try dsimp only at hSw); go_simp; try with_reducible rfl) (by assumption) ?_
          refine take_h 19 125 rfl rfl (by kernel_rfl) (by kernel_rfl) (by kernel_rfl) (fun _ _ _ h => h) (by kernel_rfl) (by intro w hSw; (try dsimp only at hSw); go_simp; try with_reducible rfl) (by assumption) ?_
          refine take_h 20 126 rfl rfl (by kernel_rfl) (by kernel_rfl) (by kernel_rfl) (fun _ _ _ h => h) (by kernel_rfl) (by intro w hSw; (try dsimp only at hSw); go_simp; try with_reducible rfl) (by assumption) ?_
          refine take_h 21 127 rfl rfl (by kernel_rfl) (by kernel_rfl) (by kernel_rfl) (fun _ _ _ h => h) (by kernel_rfl) (by intro w hSw; (try dsimp only at hSw); go_simp; try with_reducible rfl) (by assumption) ?_
          refine take_h 23 129 rfl rfl (by kernel_rfl) (by kernel_rfl) (by kernel_rfl) (fun _ _ _ h => h) (by kernel_rfl) (by intro w hSw; (try dsimp only at hSw); go_simp; try with_reducible rfl) (by assumption) ?_
          refine wpAnyH_ready (rs := [22]) (by kernel_rfl) (by simp) (AllReadyH.cons rfl (fun K hK => ?_) AllReadyH.nil)
          go_simp
          go_wp2_with ((go_at_call 20; refine (frac_any _ _).mono ?_; rintro e x0 ⟨rfl, b0⟩; have hs0 := held _ _ b0 (by assumption)))
          refine hK.out _ _ (by (try dsimp only); exact hs0) (fun hHeld => ?_)
          clear hK K
          refine wpAnyH_ready (rs := [24]) (by kernel_rfl) (by simp) (AllReadyH.cons rfl (fun K hK => ?_) AllReadyH.nil)
          go_simp
          go_wp2_with ((go_at_call 24; refine (less_is' FS HF.out LE.out _).mono ?_; rintro e wv8 ⟨rfl, b1⟩; have hs1 := held _ _ b1 (by assumption)))
          refine hK.out _ _ (by (try dsimp only); exact hs1) (fun hHeld => ?_)
          clear hK K
          refine take_h 25 131 rfl rfl (by kernel_rfl) (by kernel_rfl) (by kernel_rfl) (fun _ _ _ h => h) (by kernel_rfl) (by intro w hSw; (try dsimp only at hSw); go_simp; try with_reducible rfl) (by assumption) ?_
          refine take_h 26 132 rfl rfl (by kernel_rfl) (by kernel_rfl) (by kernel_rfl) (fun _ _ _ h => h) (by kernel_rfl) (by intro w hSw; (try dsimp only at hSw); go_simp; try with_reducible rfl) (by assumption) ?_
          refine take_h 27 133 rfl rfl (by kernel_rfl) (by kernel_rfl) (by kernel_rfl) (fun _ _ _ h => h) (by kernel_rfl) (by intro w hSw; (try dsimp only at hSw); go_simp; try with_reducible rfl) (by assumption) ?_
          refine take_h 28 134 rfl rfl (by kernel_rfl) (by kernel_rfl) (by kernel_rfl) (fun _ _ _ h => h) (by kernel_rfl) (by intro w hSw; (try dsimp only at hSw); go_simp; try with_reducible rfl) (by assumption) ?_
          refine take_h 29 135 rfl rfl (by kernel_rfl) (by kernel_rfl) (by kernel_rfl) (fun _ _ _ h => h) (by kernel_rfl) (by intro w hSw; (try dsimp only at hSw); go_simp; try with_reducible rfl) (by assumption) ?_
          refine take_h 30 136 rfl rfl (by kernel_rfl) (by kernel_rfl) (by kernel_rfl) (fun _ _ _ h => h) (by kernel_rfl) (by intro w hSw; (try dsimp only at hSw); go_simp; try with_reducible rfl) (by assumption) ?_
          refine take_h 31 137 rfl rfl (by kernel_rfl) (by kernel_rfl) (by kernel_rfl) (fun _ _ _ h => h) (by kernel_rfl) (by intro w hSw; (try dsimp only at hSw); go_simp; try with_reducible rfl) (by assumption) ?_
          refine skip_h 32 138 rfl rfl (by kernel_rfl) (by kernel_rfl) (by kernel_rfl) (fun _ _ _ h => h) (by kernel_rfl) (by assumption) ?_
          refine skip_h 33 139 rfl rfl (by kernel_rfl) (by kernel_rfl) (by kernel_rfl) (fun _ _ _ h => h) (by kernel_rfl) (by assumption) ?_
          refine skip_h 34 140 rfl rfl (by kernel_rfl) (by kernel_rfl) (by kernel_rfl) (fun _ _ _ h => h) (by kernel_rfl) (by assumption) ?_
          refine take_h 35 141 rfl rfl (by kernel_rfl) (by kernel_rfl) (by kernel_rfl) (fun _ _ _ h => h) (by kernel_rfl) (by intro w hSw; (try dsimp only at hSw); go_simp; try with_reducible rfl) (by assumption) ?_
          refine take_h 36 142 rfl rfl (by kernel_rfl) (by kernel_rfl) (by kernel_rfl) (fun _ _ _ h => h) (by kernel_rfl) (by intro w hSw; (try dsimp only at hSw); go_simp; try with_reducible rfl) (by assumption) ?_
          refine take_h 37 4 rfl rfl (by kernel_rfl) (by kernel_rfl) (by kernel_rfl) (fun _ _ _ h => h) (by kernel_rfl) (by intro w hSw; (try dsimp only at hSw); go_simp; try with_reducible rfl) (by assumption) ?_
          refine wpAnyH_done (by kernel_rfl) ?_ _
          simp only [Exit.then]
          simp only [Act.put, List.setIfInBounds_toArray, List.set_cons_succ, List.set_cons_zero]
          have B9 := hs1.1
          replace R := Lib.hid (R.out.grow B9)
          replace S := S.next B9
          clear mkS held keep0 B9 atR hs0 b0 hs1 b1
          clear r
          have r := S.holds
          simp only [Holds, and_true] at r
          try simp only [World.size_alloc] at r
          go_wp2_with fail
          go_ret
          exact ⟨by first | rfl | (simp; done) | (simp; omega), S.below⟩
        · subst zt
          have dt : decide (t < b) = false := by simpa using zt2
          clear NN zt2
          have Oc0 := r.2.2.2.2.1
          have Oc1 := r.2.2.2.2.2.1
          go_upto_region 13 with fail
          have mkS : ∀ w' : World, Below wv7.heap.size wv7 w' → (Below wv7.heap.size wv7 w' ∧ w'.cell? ⟨wv2.heap.size, 0, none⟩ = some (.int .i64 0) ∧ w'.cell? ⟨wv2.heap.size, 1, none⟩ = some (.int .i64 d)) := fun w' b => ⟨b, (b.cell (cell_below Oc0)).trans Oc0, (b.cell (cell_below Oc1)).trans Oc1⟩
          have held : ∀ W w' : World, Below W.heap.size W w' → (Below wv7.heap.size wv7 W ∧ W.cell? ⟨wv2.heap.size, 0, none⟩ = some (.int .i64 0) ∧ W.cell? ⟨wv2.heap.size, 1, none⟩ = some (.int .i64 d)) → (Below wv7.heap.size wv7 w' ∧ w'.cell? ⟨wv2.heap.size, 0, none⟩ = some (.int .i64 0) ∧ w'.cell? ⟨wv2.heap.size, 1, none⟩ = some (.int .i64 d)) := fun W w' b h => mkS w' (h.1.trans (b.mono h.1.size))
          have keep0 := mkS _ (Below.refl wv7.heap.size wv7).drew
          have atR := fun (W : World) (h : (Below wv7.heap.size wv7 W ∧ W.cell? ⟨wv2.heap.size, 0, none⟩ = some (.int .i64 0) ∧ W.cell? ⟨wv2.heap.size, 1, none⟩ = some (.int .i64 d))) => R.out.grow h.1
          refine wp_region_held_drew (S := (fun w' => (Below wv7.heap.size wv7 w' ∧ w'.cell? ⟨wv2.heap.size, 0, none⟩ = some (.int .i64 0) ∧ w'.cell? ⟨wv2.heap.size, 1, none⟩ = some (.int .i64 d)))) (by kernel_rfl) (by exact keep0) (fun hHeld => ?_)
          refine take_h 0 106 rfl rfl (by kernel_rfl) (by kernel_rfl) (by kernel_rfl) (fun _ _ _ h => h) (by kernel_rfl) (by intro w hSw; (try dsimp only at hSw); go_simp; try with_reducible rfl) (by assumption) ?_
          refine take_h 1 107 rfl rfl (by kernel_rfl) (by kernel_rfl) (by kernel_rfl) (fun _ _ _ h => h) (by kernel_rfl) (by intro w hSw; (try dsimp only at hSw); go_simp; try with_reducible rfl) (by assumption) ?_
          refine take_h 2 108 rfl rfl (by kernel_rfl) (by kernel_rfl) (by kernel_rfl) (fun _ _ _ h => h) (by kernel_rfl) (by intro w hSw; (try dsimp only at hSw); go_simp; try with_reducible rfl) (by assumption) ?_
          refine take_h 3 109 rfl rfl (by kernel_rfl) (by kernel_rfl) (by kernel_rfl) (fun _ _ _ h => h) (by kernel_rfl) (by intro w hSw; (try dsimp only at hSw); go_simp; try with_reducible rfl) (by assumption) ?_
          refine take_h 4 110 rfl rfl (by kernel_rfl) (by kernel_rfl) (by kernel_rfl) (fun _ _ _ h => h) (by kernel_rfl) (by intro w hSw; (try dsimp only at hSw); go_simp; try with_reducible rfl) (by assumption) ?_
          refine take_h 5 111 rfl rfl (by kernel_rfl) (by kernel_rfl) (by kernel_rfl) (fun _ _ _ h => h) (by kernel_rfl) (by intro w hSw; (try dsimp only at hSw); go_simp; try with_reducible rfl) (by assumption) ?_
          refine take_h 6 112 rfl rfl (by kernel_rfl) (by kernel_rfl) (by kernel_rfl) (fun _ _ _ h => h) (by kernel_rfl) (by intro w hSw; (try dsimp only at hSw); go_simp; try with_reducible rfl) (by assumption) ?_
          refine skip_h 7 113 rfl rfl (by kernel_rfl) (by kernel_rfl) (by kernel_rfl) (fun _ _ _ h => h) (by kernel_rfl) (by assumption) ?_
          refine skip_h 8 114 rfl rfl (by kernel_rfl) (by kernel_rfl) (by kernel_rfl) (fun _ _ _ h => h) (by kernel_rfl) (by assumption) ?_
          refine take_h 9 115 rfl rfl (by kernel_rfl) (by kernel_rfl) (by kernel_rfl) (fun _ _ _ h => h) (by kernel_rfl) (by intro w hSw; (try dsimp only at hSw); go_simp; try with_reducible rfl) (by assumption) ?_
          refine take_h 10 116 rfl rfl (by kernel_rfl) (by kernel_rfl) (by kernel_rfl) (fun _ _ _ h => h) (by kernel_rfl) (by intro w hSw; (try dsimp only at hSw); go_simp; try with_reducible rfl) (by assumption) ?_
          refine skip_h 11 117 rfl rfl (by kernel_rfl) (by kernel_rfl) (by kernel_rfl) (fun _ _ _ h => h) (by kernel_rfl) (by assumption) ?_
          refine skip_h 12 118 rfl rfl (by kernel_rfl) (by kernel_rfl) (by kernel_rfl) (fun _ _ _ h => h) (by kernel_rfl) (by assumption) ?_
          refine skip_h 13 119 rfl rfl (by kernel_rfl) (by kernel_rfl) (by kernel_rfl) (fun _ _ _ h => h) (by kernel_rfl) (by assumption) ?_
          refine take_h 14 120 rfl rfl (by kernel_rfl) (by kernel_rfl) (by kernel_rfl) (fun _ _ _ h => h) (by kernel_rfl) (by intro w hSw; (try dsimp only at hSw); go_simp; try with_reducible rfl) (by assumption) ?_
          refine take_h 15 121 rfl rfl (by kernel_rfl) (by kernel_rfl) (by kernel_rfl) (fun _ _ _ h => h) (by kernel_rfl) (by intro w hSw; (try dsimp only at hSw); go_simp; try with_reducible rfl) (by assumption) ?_
          refine take_h 16 122 rfl rfl (by kernel_rfl) (by kernel_rfl) (by kernel_rfl) (fun _ _ _ h => h) (by kernel_rfl) (by intro w hSw; (try dsimp only at hSw); go_simp; try with_reducible rfl) (by assumption) ?_
          refine take_h 17 123 rfl rfl (by kernel_rfl) (by kernel_rfl) (by kernel_rfl) (fun _ _ _ h => h) (by kernel_rfl) (by intro w hSw; (try dsimp only at hSw); go_simp; try with_reducible rfl) (by assumption) ?_
          refine take_h 18 124 rfl rfl (by kernel_rfl) (by kernel_rfl) (by kernel_rfl) (fun _ _ _ h => h) (by kernel_rfl) (by intro w hSw; (try dsimp only at hSw); go_simp; try with_reducible rfl) (by assumption) ?_
          refine take_h 19 125 rfl rfl (by kernel_rfl) (by kernel_rfl) (by kernel_rfl) (fun _ _ _ h => h) (by kernel_rfl) (by intro w hSw; (try dsimp only at hSw); go_simp; try with_reducible rfl) (by assumption) ?_
          refine take_h 20 126 rfl rfl (by kernel_rfl) (by kernel_rfl) (by kernel_rfl) (fun _ _ _ h => h) (by kernel_rfl) (by intro w hSw; (try dsimp only at hSw); go_simp; try with_reducible rfl) (by assumption) ?_
          refine take_h 21 127 rfl rfl (by kernel_rfl) (by kernel_rfl) (by kernel_rfl) (fun _ _ _ h => h) (by kernel_rfl) (by intro w hSw; (try dsimp only at hSw); go_simp; try with_reducible rfl) (by assumption) ?_
          refine take_h 23 129 rfl rfl (by kernel_rfl) (by kernel_rfl) (by kernel_rfl) (fun _ _ _ h => h) (by kernel_rfl) (by intro w hSw; (try dsimp only at hSw); go_simp; try with_reducible rfl) (by assumption) ?_
          refine wpAnyH_ready (rs := [22]) (by kernel_rfl) (by simp) (AllReadyH.cons rfl (fun K hK => ?_) AllReadyH.nil)
          go_simp
          go_wp2_with ((go_at_call 20; refine (frac_any _ _).mono ?_; rintro e x0 ⟨rfl, b0⟩; have hs0 := held _ _ b0 (by assumption)))
          refine hK.out _ _ (by (try dsimp only); exact hs0) (fun hHeld => ?_)
          clear hK K
          refine wpAnyH_ready (rs := [24]) (by kernel_rfl) (by simp) (AllReadyH.cons rfl (fun K hK => ?_) AllReadyH.nil)
          go_simp
          go_wp2_with ((go_at_call 24; refine (less_is' FS HF.out LE.out _).mono ?_; rintro e wv8 ⟨rfl, b1⟩; have hs1 := held _ _ b1 (by assumption)))
          refine hK.out _ _ (by (try dsimp only); exact hs1) (fun hHeld => ?_)
          clear hK K
          refine take_h 25 131 rfl rfl (by kernel_rfl) (by kernel_rfl) (by kernel_rfl) (fun _ _ _ h => h) (by kernel_rfl) (by intro w hSw; (try dsimp only at hSw); go_simp; try with_reducible rfl) (by assumption) ?_
          refine take_h 26 132 rfl rfl (by kernel_rfl) (by kernel_rfl) (by kernel_rfl) (fun _ _ _ h => h) (by kernel_rfl) (by intro w hSw; (try dsimp only at hSw); go_simp; try with_reducible rfl) (by assumption) ?_
          refine take_h 27 133 rfl rfl (by kernel_rfl) (by kernel_rfl) (by kernel_rfl) (fun _ _ _ h => h) (by kernel_rfl) (by intro w hSw; (try dsimp only at hSw); go_simp; try with_reducible rfl) (by assumption) ?_
          refine take_h 28 134 rfl rfl (by kernel_rfl) (by kernel_rfl) (by kernel_rfl) (fun _ _ _ h => h) (by kernel_rfl) (by intro w hSw; (try dsimp only at hSw); go_simp; try with_reducible rfl) (by assumption) ?_
          refine take_h 29 135 rfl rfl (by kernel_rfl) (by kernel_rfl) (by kernel_rfl) (fun _ _ _ h => h) (by kernel_rfl) (by intro w hSw; (try dsimp only at hSw); go_simp; try with_reducible rfl) (by assumption) ?_
          refine take_h 30 136 rfl rfl (by kernel_rfl) (by kernel_rfl) (by kernel_rfl) (fun _ _ _ h => h) (by kernel_rfl) (by intro w hSw; (try dsimp only at hSw); go_simp; try with_reducible rfl) (by assumption) ?_
          refine take_h 31 137 rfl rfl (by kernel_rfl) (by kernel_rfl) (by kernel_rfl) (fun _ _ _ h => h) (by kernel_rfl) (by intro w hSw; (try dsimp only at hSw); go_simp; try with_reducible rfl) (by assumption) ?_
          refine take_h 32 138 rfl rfl (by kernel_rfl) (by kernel_rfl) (by kernel_rfl) (fun _ _ _ h => h) (by kernel_rfl) (by intro w hSw; (try dsimp only at hSw); go_simp; try with_reducible rfl) (by assumption) ?_
          refine take_h 33 139 rfl rfl (by kernel_rfl) (by kernel_rfl) (by kernel_rfl) (fun _ _ _ h => h) (by kernel_rfl) (by intro w hSw; (try dsimp only at hSw); go_simp; try with_reducible rfl) (by assumption) ?_
          refine take_h 34 140 rfl rfl (by kernel_rfl) (by kernel_rfl) (by kernel_rfl) (fun _ _ _ h => h) (by kernel_rfl) (by intro w hSw; (try dsimp only at hSw); go_simp; try with_reducible rfl) (by assumption) ?_
          refine take_h 35 141 rfl rfl (by kernel_rfl) (by kernel_rfl) (by kernel_rfl) (fun _ _ _ h => h) (by kernel_rfl) (by intro w hSw; (try dsimp only at hSw); go_simp; try with_reducible rfl) (by assumption) ?_
          refine take_h 36 142 rfl rfl (by kernel_rfl) (by kernel_rfl) (by kernel_rfl) (fun _ _ _ h => h) (by kernel_rfl) (by intro w hSw; (try dsimp only at hSw); go_simp; try with_reducible rfl) (by assumption) ?_
          refine take_h 37 4 rfl rfl (by kernel_rfl) (by kernel_rfl) (by kernel_rfl) (fun _ _ _ h => h) (by kernel_rfl) (by intro w hSw; (try dsimp only at hSw); go_simp; try with_reducible rfl) (by assumption) ?_
          refine wpAnyH_done (by kernel_rfl) ?_ _
          simp only [Exit.then]
          simp only [Act.put, List.setIfInBounds_toArray, List.set_cons_succ, List.set_cons_zero]
          have B9 := hs1.1
          replace R := Lib.hid (R.out.grow B9)
          replace S := S.next B9
          clear mkS held keep0 B9 atR hs0 b0 hs1 b1
          clear r
          have r := S.holds
          simp only [Holds, and_true] at r
          try simp only [World.size_alloc] at r
          go_wp2_with fail
          go_ret
          exact ⟨by first | rfl | (simp; done) | (simp; omega), S.below⟩
      | some rY =>
        have HBY := Lib.hid hY
        clear hY
        go_wp2_with fail
        refine (bet_yes R.out HBY.out).mono ?_
        rintro e wv5 ⟨nY, dY, rfl, hf, hq, b5⟩
        replace R := Lib.hid ((R.out.grow b5).alloc nY dY 30)
        replace S := (S.next b5).alloc nY dY
        clear b5
        clear r
        have r := S.holds
        simp only [Holds, and_true] at r
        try simp only [World.size_alloc] at r
        have HFY := Lib.hid hf; have HQY := Lib.hid hq
        clear hf hq
        have HS : Hid (fq nX dX + fq nY dY = amt t b l a) := Lib.hid (by rw [HQX.out, HQY.out, (bet_is HBX.out).1, (bet_is HBY.out).1]; exact amt_split (rec_edges HV.out) (by omega) (by omega))
        go_wp2_with fail
        refine (got_same (got_yes (implFracAdd_any _ _ _ _ _) (by rw [HFX.out, HFY.out]; rfl) (by rw [HS.out, ← HR.out]; exact FT.out)) HF.out (by rw [HQ.out, HR.out, HS.out])).mono ?_
        rintro e wv6 ⟨rfl, b6⟩
        replace R := Lib.hid ((R.out.grow b6).alloc n d 30)
        replace S := (S.next b6).alloc n d
        clear b6
        clear r
        have r := S.holds
        simp only [Holds, and_true] at r
        try simp only [World.size_alloc] at r
        go_wp2_with fail
        refine (total_is R.out HT.out).mono ?_
        rintro e wv7 ⟨rfl, b7⟩
        replace R := Lib.hid ((R.out.grow b7))
        replace S := (S.next b7)
        clear b7
        clear r
        have r := S.holds
        simp only [Holds, and_true] at r
        try simp only [World.size_alloc] at r
        rcases Z0.out with zt | ⟨zt, zt2⟩
        · have dt : decide (t < b) = true := by simpa using zt
          clear zt
          have Oc0 := r.2.2.2.2.1
          have Oc1 := r.2.2.2.2.2.1
          have Zc0 := r.1.1
          have Zc1 := r.1.2.1
          go_upto_region 13 with fail
          have mkS : ∀ w' : World, Below wv7.heap.size wv7 w' → (Below wv7.heap.size wv7 w' ∧ w'.cell? ⟨wv2.heap.size, 0, none⟩ = some (.int .i64 n) ∧ w'.cell? ⟨wv2.heap.size, 1, none⟩ = some (.int .i64 d) ∧ w'.cell? ⟨wv6.heap.size, 0, none⟩ = some (.int .i64 n) ∧ w'.cell? ⟨wv6.heap.size, 1, none⟩ = some (.int .i64 d)) := fun w' b => ⟨b, (b.cell (cell_below Oc0)).trans Oc0, (b.cell (cell_below Oc1)).trans Oc1, (b.cell (cell_below Zc0)).trans Zc0, (b.cell (cell_below Zc1)).trans Zc1⟩
          have held : ∀ W w' : World, Below W.heap.size W w' → (Below wv7.heap.size wv7 W ∧ W.cell? ⟨wv2.heap.size, 0, none⟩ = some (.int .i64 n) ∧ W.cell? ⟨wv2.heap.size, 1, none⟩ = some (.int .i64 d) ∧ W.cell? ⟨wv6.heap.size, 0, none⟩ = some (.int .i64 n) ∧ W.cell? ⟨wv6.heap.size, 1, none⟩ = some (.int .i64 d)) → (Below wv7.heap.size wv7 w' ∧ w'.cell? ⟨wv2.heap.size, 0, none⟩ = some (.int .i64 n) ∧ w'.cell? ⟨wv2.heap.size, 1, none⟩ = some (.int .i64 d) ∧ w'.cell? ⟨wv6.heap.size, 0, none⟩ = some (.int .i64 n) ∧ w'.cell? ⟨wv6.heap.size, 1, none⟩ = some (.int .i64 d)) := fun W w' b h => mkS w' (h.1.trans (b.mono h.1.size))
          have keep0 := mkS _ (Below.refl wv7.heap.size wv7).drew
          have atR := fun (W : World) (h : (Below wv7.heap.size wv7 W ∧ W.cell? ⟨wv2.heap.size, 0, none⟩ = some (.int .i64 n) ∧ W.cell? ⟨wv2.heap.size, 1, none⟩ = some (.int .i64 d) ∧ W.cell? ⟨wv6.heap.size, 0, none⟩ = some (.int .i64 n) ∧ W.cell? ⟨wv6.heap.size, 1, none⟩ = some (.int .i64 d))) => R.out.grow h.1
          refine wp_region_held_drew (S := (fun w' => (Below wv7.heap.size wv7 w' ∧ w'.cell? ⟨wv2.heap.size, 0, none⟩ = some (.int .i64 n) ∧ w'.cell? ⟨wv2.heap.size, 1, none⟩ = some (.int .i64 d) ∧ w'.cell? ⟨wv6.heap.size, 0, none⟩ = some (.int .i64 n) ∧ w'.cell? ⟨wv6.heap.size, 1, none⟩ = some (.int .i64 d)))) (by kernel_rfl) (by exact keep0) (fun hHeld => ?_)
          refine take_h 0 106 rfl rfl (by kernel_rfl) (by kernel_rfl) (by kernel_rfl) (fun _ _ _ h => h) (by kernel_rfl) (by intro w hSw; (try dsimp only at hSw); go_simp; try with_reducible rfl) (by assumption) ?_
          refine take_h 1 107 rfl rfl (by kernel_rfl) (by kernel_rfl) (by kernel_rfl) (fun _ _ _ h => h) (by kernel_rfl) (by intro w hSw; (try dsimp only at hSw); go_simp; try with_reducible rfl) (by assumption) ?_
          refine take_h 2 108 rfl rfl (by kernel_rfl) (by kernel_rfl) (by kernel_rfl) (fun _ _ _ h => h) (by kernel_rfl) (by intro w hSw; (try dsimp only at hSw); go_simp; try with_reducible rfl) (by assumption) ?_
          refine take_h 3 109 rfl rfl (by kernel_rfl) (by kernel_rfl) (by kernel_rfl) (fun _ _ _ h => h) (by kernel_rfl) (by intro w hSw; (try dsimp only at hSw); go_simp; try with_reducible rfl) (by assumption) ?_
          refine take_h 4 110 rfl rfl (by kernel_rfl) (by kernel_rfl) (by kernel_rfl) (fun _ _ _ h => h) (by kernel_rfl) (by intro w hSw; (try dsimp only at hSw); go_simp; try with_reducible rfl) (by assumption) ?_
          refine take_h 5 111 rfl rfl (by kernel_rfl) (by kernel_rfl) (by kernel_rfl) (fun _ _ _ h => h) (by kernel_rfl) (by intro w hSw; (try dsimp only at hSw); go_simp; try with_reducible rfl) (by assumption) ?_
          refine take_h 6 112 rfl rfl (by kernel_rfl) (by kernel_rfl) (by kernel_rfl) (fun _ _ _ h => h) (by kernel_rfl) (by intro w hSw; (try dsimp only at hSw); go_simp; try with_reducible rfl) (by assumption) ?_
          refine take_h 7 113 rfl rfl (by kernel_rfl) (by kernel_rfl) (by kernel_rfl) (fun _ _ _ h => h) (by kernel_rfl) (by intro w hSw; (try dsimp only at hSw); go_simp; try with_reducible rfl) (by assumption) ?_
          refine take_h 8 114 rfl rfl (by kernel_rfl) (by kernel_rfl) (by kernel_rfl) (fun _ _ _ h => h) (by kernel_rfl) (by intro w hSw; (try dsimp only at hSw); go_simp; try with_reducible rfl) (by assumption) ?_
          refine take_h 9 115 rfl rfl (by kernel_rfl) (by kernel_rfl) (by kernel_rfl) (fun _ _ _ h => h) (by kernel_rfl) (by intro w hSw; (try dsimp only at hSw); go_simp; try with_reducible rfl) (by assumption) ?_
          refine take_h 10 116 rfl rfl (by kernel_rfl) (by kernel_rfl) (by kernel_rfl) (fun _ _ _ h => h) (by kernel_rfl) (by intro w hSw; (try dsimp only at hSw); go_simp; try with_reducible rfl) (by assumption) ?_
          refine take_h 11 117 rfl rfl (by kernel_rfl) (by kernel_rfl) (by kernel_rfl) (fun _ _ _ h => h) (by kernel_rfl) (by intro w hSw; (try dsimp only at hSw); go_simp; try with_reducible rfl) (by assumption) ?_
          refine take_h 12 118 rfl rfl (by kernel_rfl) (by kernel_rfl) (by kernel_rfl) (fun _ _ _ h => h) (by kernel_rfl) (by intro w hSw; (try dsimp only at hSw); go_simp; try with_reducible rfl) (by assumption) ?_
          refine take_h 13 119 rfl rfl (by kernel_rfl) (by kernel_rfl) (by kernel_rfl) (fun _ _ _ h => h) (by kernel_rfl) (by intro w hSw; (try dsimp only at hSw); go_simp; try with_reducible rfl) (by assumption) ?_
          refine take_h 14 120 rfl rfl (by kernel_rfl) (by kernel_rfl) (by kernel_rfl) (fun _ _ _ h => h) (by kernel_rfl) (by intro w hSw; (try dsimp only at hSw); go_simp; try with_reducible rfl) (by assumption) ?_
          refine take_h 15 121 rfl rfl (by kernel_rfl) (by kernel_rfl) (by kernel_rfl) (fun _ _ _ h => h) (by kernel_rfl) (by intro w hSw; (try dsimp only at hSw); go_simp; try with_reducible rfl) (by assumption) ?_
          refine take_h 16 122 rfl rfl (by kernel_rfl) (by kernel_rfl) (by kernel_rfl) (fun _ _ _ h => h) (by kernel_rfl) (by intro w hSw; (try dsimp only at hSw); go_simp; try with_reducible rfl) (by assumption) ?_
          refine take_h 17 123 rfl rfl (by kernel_rfl) (by kernel_rfl) (by kernel_rfl) (fun _ _ _ h => h) (by kernel_rfl) (by intro w hSw; (try dsimp only at hSw); go_simp; try with_reducible rfl) (by assumption) ?_
          refine take_h 18 124 rfl rfl (by kernel_rfl) (by kernel_rfl) (by kernel_rfl) (fun _ _ _ h => h) (by kernel_rfl) (by intro w hSw; (try dsimp only at hSw); go_simp; try with_reducible rfl) (by assumption) ?_
          refine take_h 19 125 rfl rfl (by kernel_rfl) (by kernel_rfl) (by kernel_rfl) (fun _ _ _ h => h) (by kernel_rfl) (by intro w hSw; (try dsimp only at hSw); go_simp; try with_reducible rfl) (by assumption) ?_
          refine take_h 20 126 rfl rfl (by kernel_rfl) (by kernel_rfl) (by kernel_rfl) (fun _ _ _ h => h) (by kernel_rfl) (by intro w hSw; (try dsimp only at hSw); go_simp; try with_reducible rfl) (by assumption) ?_
          refine take_h 21 127 rfl rfl (by kernel_rfl) (by kernel_rfl) (by kernel_rfl) (fun _ _ _ h => h) (by kernel_rfl) (by intro w hSw; (try dsimp only at hSw); go_simp; try with_reducible rfl) (by assumption) ?_
          refine take_h 23 129 rfl rfl (by kernel_rfl) (by kernel_rfl) (by kernel_rfl) (fun _ _ _ h => h) (by kernel_rfl) (by intro w hSw; (try dsimp only at hSw); go_simp; try with_reducible rfl) (by assumption) ?_
          refine wpAnyH_ready (rs := [22]) (by kernel_rfl) (by simp) (AllReadyH.cons rfl (fun K hK => ?_) AllReadyH.nil)
          go_simp
          go_wp2_with ((go_at_call 20; refine (frac_any _ _).mono ?_; rintro e x0 ⟨rfl, b0⟩; have hs0 := held _ _ b0 (by assumption)))
          refine hK.out _ _ (by (try dsimp only); exact hs0) (fun hHeld => ?_)
          clear hK K
          refine wpAnyH_ready (rs := [24]) (by kernel_rfl) (by simp) (AllReadyH.cons rfl (fun K hK => ?_) AllReadyH.nil)
          go_simp
          go_wp2_with ((go_at_call 24; refine (less_is' FS HF.out LE.out _).mono ?_; rintro e wv8 ⟨rfl, b1⟩; have hs1 := held _ _ b1 (by assumption)))
          refine hK.out _ _ (by (try dsimp only); exact hs1) (fun hHeld => ?_)
          clear hK K
          refine take_h 25 131 rfl rfl (by kernel_rfl) (by kernel_rfl) (by kernel_rfl) (fun _ _ _ h => h) (by kernel_rfl) (by intro w hSw; (try dsimp only at hSw); go_simp; try with_reducible rfl) (by assumption) ?_
          refine take_h 26 132 rfl rfl (by kernel_rfl) (by kernel_rfl) (by kernel_rfl) (fun _ _ _ h => h) (by kernel_rfl) (by intro w hSw; (try dsimp only at hSw); go_simp; try with_reducible rfl) (by assumption) ?_
          refine take_h 27 133 rfl rfl (by kernel_rfl) (by kernel_rfl) (by kernel_rfl) (fun _ _ _ h => h) (by kernel_rfl) (by intro w hSw; (try dsimp only at hSw); go_simp; try with_reducible rfl) (by assumption) ?_
          refine take_h 28 134 rfl rfl (by kernel_rfl) (by kernel_rfl) (by kernel_rfl) (fun _ _ _ h => h) (by kernel_rfl) (by intro w hSw; (try dsimp only at hSw); go_simp; try with_reducible rfl) (by assumption) ?_
          refine take_h 29 135 rfl rfl (by kernel_rfl) (by kernel_rfl) (by kernel_rfl) (fun _ _ _ h => h) (by kernel_rfl) (by intro w hSw; (try dsimp only at hSw); go_simp; try with_reducible rfl) (by assumption) ?_
          refine take_h 30 136 rfl rfl (by kernel_rfl) (by kernel_rfl) (by kernel_rfl) (fun _ _ _ h => h) (by kernel_rfl) (by intro w hSw; (try dsimp only at hSw); go_simp; try with_reducible rfl) (by assumption) ?_
          refine take_h 31 137 rfl rfl (by kernel_rfl) (by kernel_rfl) (by kernel_rfl) (fun _ _ _ h => h) (by kernel_rfl) (by intro w hSw; (try dsimp only at hSw); go_simp; try with_reducible rfl) (by assumption) ?_
          refine skip_h 32 138 rfl rfl (by kernel_rfl) (by kernel_rfl) (by kernel_rfl) (fun _ _ _ h => h) (by kernel_rfl) (by assumption) ?_
          refine skip_h 33 139 rfl rfl (by kernel_rfl) (by kernel_rfl) (by kernel_rfl) (fun _ _ _ h => h) (by kernel_rfl) (by assumption) ?_
          refine skip_h 34 140 rfl rfl (by kernel_rfl) (by kernel_rfl) (by kernel_rfl) (fun _ _ _ h => h) (by kernel_rfl) (by assumption) ?_
          refine take_h 35 141 rfl rfl (by kernel_rfl) (by kernel_rfl) (by kernel_rfl) (fun _ _ _ h => h) (by kernel_rfl) (by intro w hSw; (try dsimp only at hSw); go_simp; try with_reducible rfl) (by assumption) ?_
          refine take_h 36 142 rfl rfl (by kernel_rfl) (by kernel_rfl) (by kernel_rfl) (fun _ _ _ h => h) (by kernel_rfl) (by intro w hSw; (try dsimp only at hSw); go_simp; try with_reducible rfl) (by assumption) ?_
          refine take_h 37 4 rfl rfl (by kernel_rfl) (by kernel_rfl) (by kernel_rfl) (fun _ _ _ h => h) (by kernel_rfl) (by intro w hSw; (try dsimp only at hSw); go_simp; try with_reducible rfl) (by assumption) ?_
          refine wpAnyH_done (by kernel_rfl) ?_ _
          simp only [Exit.then]
          simp only [Act.put, List.setIfInBounds_toArray, List.set_cons_succ, List.set_cons_zero]
          have B9 := hs1.1
          replace R := Lib.hid (R.out.grow B9)
          replace S := S.next B9
          clear mkS held keep0 B9 atR hs0 b0 hs1 b1
          clear r
          have r := S.holds
          simp only [Holds, and_true] at r
          try simp only [World.size_alloc] at r
          go_wp2_with fail
          go_ret
          exact ⟨by first | rfl | (simp; done) | (simp; omega), S.below⟩
        · subst zt
          have dt : decide (t < b) = false := by simpa using zt2
          clear NN zt2
          have Oc0 := r.2.2.2.2.1
          have Oc1 := r.2.2.2.2.2.1
          have Zc0 := r.1.1
          have Zc1 := r.1.2.1
          go_upto_region 13 with fail
          have mkS : ∀ w' : World, Below wv7.heap.size wv7 w' → (Below wv7.heap.size wv7 w' ∧ w'.cell? ⟨wv2.heap.size, 0, none⟩ = some (.int .i64 0) ∧ w'.cell? ⟨wv2.heap.size, 1, none⟩ = some (.int .i64 d) ∧ w'.cell? ⟨wv6.heap.size, 0, none⟩ = some (.int .i64 0) ∧ w'.cell? ⟨wv6.heap.size, 1, none⟩ = some (.int .i64 d)) := fun w' b => ⟨b, (b.cell (cell_below Oc0)).trans Oc0, (b.cell (cell_below Oc1)).trans Oc1, (b.cell (cell_below Zc0)).trans Zc0, (b.cell (cell_below Zc1)).trans Zc1⟩
          have held : ∀ W w' : World, Below W.heap.size W w' → (Below wv7.heap.size wv7 W ∧ W.cell? ⟨wv2.heap.size, 0, none⟩ = some (.int .i64 0) ∧ W.cell? ⟨wv2.heap.size, 1, none⟩ = some (.int .i64 d) ∧ W.cell? ⟨wv6.heap.size, 0, none⟩ = some (.int .i64 0) ∧ W.cell? ⟨wv6.heap.size, 1, none⟩ = some (.int .i64 d)) → (Below wv7.heap.size wv7 w' ∧ w'.cell? ⟨wv2.heap.size, 0, none⟩ = some (.int .i64 0) ∧ w'.cell? ⟨wv2.heap.size, 1, none⟩ = some (.int .i64 d) ∧ w'.cell? ⟨wv6.heap.size, 0, none⟩ = some (.int .i64 0) ∧ w'.cell? ⟨wv6.heap.size, 1, none⟩ = some (.int .i64 d)) := fun W w' b h => mkS w' (h.1.trans (b.mono h.1.size))
          have keep0 := mkS _ (Below.refl wv7.heap.size wv7).drew
          have atR := fun (W : World) (h : (Below wv7.heap.size wv7 W ∧ W.cell? ⟨wv2.heap.size, 0, none⟩ = some (.int .i64 0) ∧ W.cell? ⟨wv2.heap.size, 1, none⟩ = some (.int .i64 d) ∧ W.cell? ⟨wv6.heap.size, 0, none⟩ = some (.int .i64 0) ∧ W.cell? ⟨wv6.heap.size, 1, none⟩ = some (.int .i64 d))) => R.out.grow h.1
          refine wp_region_held_drew (S := (fun w' => (Below wv7.heap.size wv7 w' ∧ w'.cell? ⟨wv2.heap.size, 0, none⟩ = some (.int .i64 0) ∧ w'.cell? ⟨wv2.heap.size, 1, none⟩ = some (.int .i64 d) ∧ w'.cell? ⟨wv6.heap.size, 0, none⟩ = some (.int .i64 0) ∧ w'.cell? ⟨wv6.heap.size, 1, none⟩ = some (.int .i64 d)))) (by kernel_rfl) (by exact keep0) (fun hHeld => ?_)
          refine take_h 0 106 rfl rfl (by kernel_rfl) (by kernel_rfl) (by kernel_rfl) (fun _ _ _ h => h) (by kernel_rfl) (by intro w hSw; (try dsimp only at hSw); go_simp; try with_reducible rfl) (by assumption) ?_
          refine take_h 1 107 rfl rfl (by kernel_rfl) (by kernel_rfl) (by kernel_rfl) (fun _ _ _ h => h) (by kernel_rfl) (by intro w hSw; (try dsimp only at hSw); go_simp; try with_reducible rfl) (by assumption) ?_
          refine take_h 2 108 rfl rfl (by kernel_rfl) (by kernel_rfl) (by kernel_rfl) (fun _ _ _ h => h) (by kernel_rfl) (by intro w hSw; (try dsimp only at hSw); go_simp; try with_reducible rfl) (by assumption) ?_
          refine take_h 3 109 rfl rfl (by kernel_rfl) (by kernel_rfl) (by kernel_rfl) (fun _ _ _ h => h) (by kernel_rfl) (by intro w hSw; (try dsimp only at hSw); go_simp; try with_reducible rfl) (by assumption) ?_
          refine take_h 4 110 rfl rfl (by kernel_rfl) (by kernel_rfl) (by kernel_rfl) (fun _ _ _ h => h) (by kernel_rfl) (by intro w hSw; (try dsimp only at hSw); go_simp; try with_reducible rfl) (by assumption) ?_
          refine take_h 5 111 rfl rfl (by kernel_rfl) (by kernel_rfl) (by kernel_rfl) (fun _ _ _ h => h) (by kernel_rfl) (by intro w hSw; (try dsimp only at hSw); go_simp; try with_reducible rfl) (by assumption) ?_
          refine take_h 6 112 rfl rfl (by kernel_rfl) (by kernel_rfl) (by kernel_rfl) (fun _ _ _ h => h) (by kernel_rfl) (by intro w hSw; (try dsimp only at hSw); go_simp; try with_reducible rfl) (by assumption) ?_
          refine take_h 7 113 rfl rfl (by kernel_rfl) (by kernel_rfl) (by kernel_rfl) (fun _ _ _ h => h) (by kernel_rfl) (by intro w hSw; (try dsimp only at hSw); go_simp; try with_reducible rfl) (by assumption) ?_
          refine take_h 8 114 rfl rfl (by kernel_rfl) (by kernel_rfl) (by kernel_rfl) (fun _ _ _ h => h) (by kernel_rfl) (by intro w hSw; (try dsimp only at hSw); go_simp; try with_reducible rfl) (by assumption) ?_
          refine take_h 9 115 rfl rfl (by kernel_rfl) (by kernel_rfl) (by kernel_rfl) (fun _ _ _ h => h) (by kernel_rfl) (by intro w hSw; (try dsimp only at hSw); go_simp; try with_reducible rfl) (by assumption) ?_
          refine take_h 10 116 rfl rfl (by kernel_rfl) (by kernel_rfl) (by kernel_rfl) (fun _ _ _ h => h) (by kernel_rfl) (by intro w hSw; (try dsimp only at hSw); go_simp; try with_reducible rfl) (by assumption) ?_
          refine take_h 11 117 rfl rfl (by kernel_rfl) (by kernel_rfl) (by kernel_rfl) (fun _ _ _ h => h) (by kernel_rfl) (by intro w hSw; (try dsimp only at hSw); go_simp; try with_reducible rfl) (by assumption) ?_
          refine take_h 12 118 rfl rfl (by kernel_rfl) (by kernel_rfl) (by kernel_rfl) (fun _ _ _ h => h) (by kernel_rfl) (by intro w hSw; (try dsimp only at hSw); go_simp; try with_reducible rfl) (by assumption) ?_
          refine take_h 13 119 rfl rfl (by kernel_rfl) (by kernel_rfl) (by kernel_rfl) (fun _ _ _ h => h) (by kernel_rfl) (by intro w hSw; (try dsimp only at hSw); go_simp; try with_reducible rfl) (by assumption) ?_
          refine take_h 14 120 rfl rfl (by kernel_rfl) (by kernel_rfl) (by kernel_rfl) (fun _ _ _ h => h) (by kernel_rfl) (by intro w hSw; (try dsimp only at hSw); go_simp; try with_reducible rfl) (by assumption) ?_
          refine take_h 15 121 rfl rfl (by kernel_rfl) (by kernel_rfl) (by kernel_rfl) (fun _ _ _ h => h) (by kernel_rfl) (by intro w hSw; (try dsimp only at hSw); go_simp; try with_reducible rfl) (by assumption) ?_
          refine take_h 16 122 rfl rfl (by kernel_rfl) (by kernel_rfl) (by kernel_rfl) (fun _ _ _ h => h) (by kernel_rfl) (by intro w hSw; (try dsimp only at hSw); go_simp; try with_reducible rfl) (by assumption) ?_
          refine take_h 17 123 rfl rfl (by kernel_rfl) (by kernel_rfl) (by kernel_rfl) (fun _ _ _ h => h) (by kernel_rfl) (by intro w hSw; (try dsimp only at hSw); go_simp; try with_reducible rfl) (by assumption) ?_
          refine take_h 18 124 rfl rfl (by kernel_rfl) (by kernel_rfl) (by kernel_rfl) (fun _ _ _ h => h) (by kernel_rfl) (by intro w hSw; (try dsimp only at hSw); go_simp; try with_reducible rfl) (by assumption) ?_
          refine take_h 19 125 rfl rfl (by kernel_rfl) (by kernel_rfl) (by kernel_rfl) (fun _ _ _ h => h) (by kernel_rfl) (by intro w hSw; (try dsimp only at hSw); go_simp; try with_reducible rfl) (by assumption) ?_
          refine take_h 20 126 rfl rfl (by kernel_rfl) (by kernel_rfl) (by kernel_rfl) (fun _ _ _ h => h) (by kernel_rfl) (by intro w hSw; (try dsimp only at hSw); go_simp; try with_reducible rfl) (by assumption) ?_
          refine take_h 21 127 rfl rfl (by kernel_rfl) (by kernel_rfl) (by kernel_rfl) (fun _ _ _ h => h) (by kernel_rfl) (by intro w hSw; (try dsimp only at hSw); go_simp; try with_reducible rfl) (by assumption) ?_
          refine take_h 23 129 rfl rfl (by kernel_rfl) (by kernel_rfl) (by kernel_rfl) (fun _ _ _ h => h) (by kernel_rfl) (by intro w hSw; (try dsimp only at hSw); go_simp; try with_reducible rfl) (by assumption) ?_
          refine wpAnyH_ready (rs := [22]) (by kernel_rfl) (by simp) (AllReadyH.cons rfl (fun K hK => ?_) AllReadyH.nil)
          go_simp
          go_wp2_with ((go_at_call 20; refine (frac_any _ _).mono ?_; rintro e x0 ⟨rfl, b0⟩; have hs0 := held _ _ b0 (by assumption)))
          refine hK.out _ _ (by (try dsimp only); exact hs0) (fun hHeld => ?_)
          clear hK K
          refine wpAnyH_ready (rs := [24]) (by kernel_rfl) (by simp) (AllReadyH.cons rfl (fun K hK => ?_) AllReadyH.nil)
          go_simp
          go_wp2_with ((go_at_call 24; refine (less_is' FS HF.out LE.out _).mono ?_; rintro e wv8 ⟨rfl, b1⟩; have hs1 := held _ _ b1 (by assumption)))
          refine hK.out _ _ (by (try dsimp only); exact hs1) (fun hHeld => ?_)
          clear hK K
          refine take_h 25 131 rfl rfl (by kernel_rfl) (by kernel_rfl) (by kernel_rfl) (fun _ _ _ h => h) (by kernel_rfl) (by intro w hSw; (try dsimp only at hSw); go_simp; try with_reducible rfl) (by assumption) ?_
          refine take_h 26 132 rfl rfl (by kernel_rfl) (by kernel_rfl) (by kernel_rfl) (fun _ _ _ h => h) (by kernel_rfl) (by intro w hSw; (try dsimp only at hSw); go_simp; try with_reducible rfl) (by assumption) ?_
          refine take_h 27 133 rfl rfl (by kernel_rfl) (by kernel_rfl) (by kernel_rfl) (fun _ _ _ h => h) (by kernel_rfl) (by intro w hSw; (try dsimp only at hSw); go_simp; try with_reducible rfl) (by assumption) ?_
          refine take_h 28 134 rfl rfl (by kernel_rfl) (by kernel_rfl) (by kernel_rfl) (fun _ _ _ h => h) (by kernel_rfl) (by intro w hSw; (try dsimp only at hSw); go_simp; try with_reducible rfl) (by assumption) ?_
          refine take_h 29 135 rfl rfl (by kernel_rfl) (by kernel_rfl) (by kernel_rfl) (fun _ _ _ h => h) (by kernel_rfl) (by intro w hSw; (try dsimp only at hSw); go_simp; try with_reducible rfl) (by assumption) ?_
          refine take_h 30 136 rfl rfl (by kernel_rfl) (by kernel_rfl) (by kernel_rfl) (fun _ _ _ h => h) (by kernel_rfl) (by intro w hSw; (try dsimp only at hSw); go_simp; try with_reducible rfl) (by assumption) ?_
          refine take_h 31 137 rfl rfl (by kernel_rfl) (by kernel_rfl) (by kernel_rfl) (fun _ _ _ h => h) (by kernel_rfl) (by intro w hSw; (try dsimp only at hSw); go_simp; try with_reducible rfl) (by assumption) ?_
          refine take_h 32 138 rfl rfl (by kernel_rfl) (by kernel_rfl) (by kernel_rfl) (fun _ _ _ h => h) (by kernel_rfl) (by intro w hSw; (try dsimp only at hSw); go_simp; try with_reducible rfl) (by assumption) ?_
          refine take_h 33 139 rfl rfl (by kernel_rfl) (by kernel_rfl) (by kernel_rfl) (fun _ _ _ h => h) (by kernel_rfl) (by intro w hSw; (try dsimp only at hSw); go_simp; try with_reducible rfl) (by assumption) ?_
          refine take_h 34 140 rfl rfl (by kernel_rfl) (by kernel_rfl) (by kernel_rfl) (fun _ _ _ h => h) (by kernel_rfl) (by intro w hSw; (try dsimp only at hSw); go_simp; try with_reducible rfl) (by assumption) ?_
          refine take_h 35 141 rfl rfl (by kernel_rfl) (by kernel_rfl) (by kernel_rfl) (fun _ _ _ h => h) (by kernel_rfl) (by intro w hSw; (try dsimp only at hSw); go_simp; try with_reducible rfl) (by assumption) ?_
          refine take_h 36 142 rfl rfl (by kernel_rfl) (by kernel_rfl) (by kernel_rfl) (fun _ _ _ h => h) (by kernel_rfl) (by intro w hSw; (try dsimp only at hSw); go_simp; try with_reducible rfl) (by assumption) ?_
          refine take_h 37 4 rfl rfl (by kernel_rfl) (by kernel_rfl) (by kernel_rfl) (fun _ _ _ h => h) (by kernel_rfl) (by intro w hSw; (try dsimp only at hSw); go_simp; try with_reducible rfl) (by assumption) ?_
          refine wpAnyH_done (by kernel_rfl) ?_ _
          simp only [Exit.then]
          simp only [Act.put, List.setIfInBounds_toArray, List.set_cons_succ, List.set_cons_zero]
          have B9 := hs1.1
          replace R := Lib.hid (R.out.grow B9)
          replace S := S.next B9
          clear mkS held keep0 B9 atR hs0 b0 hs1 b1
          clear r
          have r := S.holds
          simp only [Holds, and_true] at r
          try simp only [World.size_alloc] at r
          go_wp2_with fail
          go_ret
          exact ⟨by first | rfl | (simp; done) | (simp; omega), S.below⟩

set_option maxRecDepth 100000 in
theorem lifted (os : Os) (started : os.Started) (H : Type) (enc : TypeId × Value → H) :
    ReturnsInHanded {} Try.checked os 5 .any (Rows.fnBetweenSpec.pre6 enc Try.prog Try.f5 Rows.fnBetweenRow.domain false) (Rows.fnBetweenSpec.post enc Try.prog Try.f5 false true false false) := by
  refine returnsInHanded_of_change (C := Try.checked) own started (by kernel_rfl) Try.func5
    (ChangeSpec.witness6 (enc := enc) (C := Try.checked) false ⟨#[], #[.slice none 0 0, .slice none 0 0], []⟩ 8 (by kernel_rfl) (by kernel_rfl) (by kernel_rfl) (by kernel_rfl)) ?_
  intro W base args ds gs before hval0 hW hcnd _
  have hval : ∀ (j : Nat) t v, Try.f5.params[j]? = some t → args[j]? = some v → Value.okWide Try.prog W .any base t v := hval0
  have hW' := hW
  obtain ⟨p, q, hA0, hV, rfl, hfz, hnd⟩ := hW
  have hA : DataW.TrodAll enc Try.prog W 0 (fun _ => true) true Try.f5.params.toList args.toList ds p := hA0
  rw [Try.params5] at hA hval
  obtain ⟨v0, vs0, d0, ds0, p0, q0, hargs, rfl, rfl, h0, r0⟩ := trodAll_cons hA
  obtain ⟨v1, vs1, d1, ds1, p1, q1, rfl, rfl, rfl, h1, r1⟩ := trodAll_cons r0
  obtain ⟨rfl, rfl, rfl⟩ := trodAll_nil r1
  obtain rfl : args = #[v0, v1] := by cases args; simp_all
  obtain ⟨rfl, rfl⟩ := trodVars_none hV
  obtain ⟨a0, len0, cap0, rfl⟩ := okWide_slice Try.underlying22 (hval 0 22 v0 rfl rfl)
  have k0 := h0
  have lt0 : ∀ x ∈ p0, x.block < W.heap.size := by obtain ⟨m, hm⟩ := k0; exact DataW.trod_lt m _ _ _ hm
  obtain ⟨z0, w0⟩ : ∃ zs, IsRow .u8 W a0 len0 cap0 zs := by
    obtain ⟨fuel, hf⟩ := h0
    rcases open_ints Try.underlying22 Try.underlying5 (by kernel_rfl) hf with ⟨hcs, _⟩ | ⟨x, l, c, zs, hcs, _, hl, hm, hz, _, hcell, hwz⟩
    · simp [Value.cells] at hcs
      obtain ⟨rfl, rfl, rfl⟩ := hcs
      exact ⟨[], .inl ⟨rfl, rfl, rfl, rfl⟩⟩
    · simp [Value.cells] at hcs
      obtain ⟨rfl, rfl, rfl⟩ := hcs
      exact ⟨zs, .inr ⟨_, rfl, hl, hm, by simpa using hz, hcell, hwz⟩⟩
  obtain ⟨a1, len1, cap1, rfl⟩ := okWide_slice Try.underlying22 (hval 1 22 v1 rfl rfl)
  have k1 := h1
  have lt1 : ∀ x ∈ p1, x.block < W.heap.size := by obtain ⟨m, hm⟩ := k1; exact DataW.trod_lt m _ _ _ hm
  obtain ⟨z1, w1⟩ : ∃ zs, IsRow .u8 W a1 len1 cap1 zs := by
    obtain ⟨fuel, hf⟩ := h1
    rcases open_ints Try.underlying22 Try.underlying5 (by kernel_rfl) hf with ⟨hcs, _⟩ | ⟨x, l, c, zs, hcs, _, hl, hm, hz, _, hcell, hwz⟩
    · simp [Value.cells] at hcs
      obtain ⟨rfl, rfl, rfl⟩ := hcs
      exact ⟨[], .inl ⟨rfl, rfl, rfl, rfl⟩⟩
    · simp [Value.cells] at hcs
      obtain ⟨rfl, rfl, rfl⟩ := hcs
      exact ⟨zs, .inr ⟨_, rfl, hl, hm, by simpa using hz, hcell, hwz⟩⟩
  clear hA0 hval0
  refine (walk a0 len0 cap0 z0 a1 len1 cap1 z1 W w0 w1).mono fun e W' ⟨he, bel⟩ => ?_
  subst he
  exact ⟨_, rfl, _, _, _, [], _, [], hW', trodAll_mk1 (shut_bool Try.underlying4 _), (trodAll_cons_mk (Below.trod laidOut (by kernel_rfl) (of_decide_eq_true (by kernel_rfl)) k0 bel lt0) (trodAll_cons_mk (Below.trod laidOut (by kernel_rfl) (of_decide_eq_true (by kernel_rfl)) k1 bel lt1) trodAll_mk0)), rfl, bel.frame _, fun h => by cases h⟩

theorem over : Rows.fnBetweenRow.holds Try.pinned (OpenSpec.ofChange Rows.fnBetweenSpec) :=
  OpenClaim.holds_of_wide 5 Try.f5 rfl rfl rfl rfl rfl rfl rfl ⟨rfl, rfl, rfl, rfl, rfl⟩ rfl rfl rfl rfl rfl (by kernel_rfl) Try.func5 (by kernel_rfl)
    (of_decide_eq_true (by kernel_rfl)) (by unfold Func.isWrapper; first | (rw [if_pos (by decide +kernel)]; kernel_rfl) | (rw [if_neg (by decide +kernel)]; exact ⟨rfl, rfl⟩))
    (fun os started H enc _ => lifted os started H enc)

/-- ████ THE STATEMENT ████ -/
theorem proved : Rows.FnBetweenSaid := over
#print axioms proved
end Go.Proofs.Ytkcbgeldnibjcaa.fnBetween
