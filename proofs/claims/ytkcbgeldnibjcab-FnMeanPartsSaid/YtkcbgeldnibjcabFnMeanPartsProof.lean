/- For every input, the law FnMeanParts of the given statements returns true over the program at this commit, and its arguments read afterwards as before: no condition. -/
import Derived.Test.YtkcbgeldnibjcabRows
import Derived.Test.YtkcbgeldnibjcabLawR
import Derived.WalkKit
import Derived.ProofKit
import Derived.OpenShut
import Derived.ShutString
import Derived.ChangeOld
import Derived.Below
namespace Go.Proofs.Ytkcbgeldnibjcab.fnMeanParts
open Go.ChangeShapes Go.WideShapes Go.ChangeAt Go.RowKit
open Go.ChangeMaps (open_string shut_string)
set_option linter.unusedVariables false

theorem own : ownKnob Try.prog.godebug = none := by kernel_rfl
theorem laidOut : laidOutB Try.prog = true := by kernel_rfl

/-- WHAT THE WALK IS TOLD OF A SLICE OF INTEGERS THAT CAME IN: it is nil; or it leads to a row of 'cap' cells, the numbers 'zs' (the first 'len' are its elements, the rest its spare room), each fitting its kind. -/
def IsRow (k : IntKind) (w : World) (a : Option Addr) (len cap : Nat) (zs : List Int) : Prop :=
  (a = none ∧ len = 0 ∧ cap = 0 ∧ zs = []) ∨
  ∃ x, a = some x ∧ len ≤ cap ∧ cap ≤ maxLen ∧ zs.length = cap ∧ (∀ i, i < zs.length → w.cell? (x.add i) = some (.int k (zs.getD i 0))) ∧ ∀ n ∈ zs, (Lit.int k n).wf = true

set_option maxRecDepth 100000 in
set_option maxHeartbeats 3200000 in
theorem walk (a0 : Option Addr) (len0 cap0 : Nat) (z0 : List Int) (a1 : Option Addr) (len1 cap1 : Nat) (z1 : List Int) (w : World) (w0 : IsRow .u8 w a0 len0 cap0 z0) (w1 : IsRow .u8 w a1 len1 cap1 z1) :
    Calls Try.prog 9 #[.slice a0 len0 cap0, .slice a1 len1 cap1] w fun e w' => e = .returned (.bool true) ∧ Below w.heap.size w w' := by
  have hB := bytes_of w0
  have hB1 := bytes_len (bytes_of w1)
  unfold maxLen at hB1
  by_cases hl : 1048576 < len0
  · have hdec : decide (1048576 < len0) = true := by simpa using hl
    go_enter Try.func9, Try.ntmps9
    go_wp2_with fail
    go_ret
    exact ⟨rfl, Below.refl _ _⟩
  have hdec : decide (1048576 < len0) = false := by simpa using hl
  by_cases hl1 : 1048576 < len1
  · go_enter Try.func9, Try.ntmps9
    go_wp2_with fail
    go_ret
    exact ⟨rfl, Below.refl _ _⟩
  have hm : len0 ≤ 1048576 := by omega
  have hm1 : len1 ≤ 1048576 := by omega
  clear hB1
  go_enter Try.func9, Try.ntmps9
  go_wp2_with fail
  refine (DrawRecordMean_any hB).mono ?_
  rintro e wv1 ⟨v, u, l, a, t, b, rfl, rl, ra, hl2, ha1, t0, t1, b0, b1x, b1⟩
  clear w0 w1 hB
  have S := St.start b1
  clear b1
  have R := Lib.hid (show Rec _ _ _ l a from ⟨rl, ra⟩)
  clear rl ra
  cases hb : meanOf l a t b with
  | none =>
    have HB := Lib.hid hb
    clear hb
    go_wp2_with fail
    refine (mean_no R.out HB.out).mono ?_
    rintro e wv2 ⟨rfl, b2⟩
    replace R := Lib.hid ((R.out.grow b2).alloc 0 0 27)
    replace S := (S.next b2).alloc 0 0
    clear b2
    have r := S.holds
    simp only [Holds, and_true] at r
    try simp only [World.size_alloc] at r
    go_wp2_with fail
    refine (meanS_no R.out HB.out).mono ?_
    rintro e wv3 ⟨rfl, b3⟩
    replace R := Lib.hid ((R.out.grow b3).alloc 0 0 27)
    replace S := (S.next b3).alloc 0 0
    clear b3
    clear r
    have r := S.holds
    simp only [Holds, and_true] at r
    try simp only [World.size_alloc] at r
    go_wp2_with fail
    go_ret
    exact ⟨by simp, S.below⟩
  | some r =>
    have HB := Lib.hid hb
    clear hb
    go_wp2_with fail
    refine (mean_yes R.out HB.out).mono ?_
    rintro e wv2 ⟨n, d, rfl, hf, hq, b2⟩
    replace R := Lib.hid ((R.out.grow b2).alloc n d 27)
    replace S := (S.next b2).alloc n d
    clear b2
    have r := S.holds
    simp only [Holds, and_true] at r
    try simp only [World.size_alloc] at r
    have HF := Lib.hid hf; have HQ := Lib.hid hq
    clear hf hq
    go_wp2_with fail
    refine (got_same (meanS_yes R.out HB.out) HF.out HQ.out).mono ?_
    rintro e wv3 ⟨rfl, b3⟩
    replace R := Lib.hid ((R.out.grow b3).alloc n d 27)
    replace S := (S.next b3).alloc n d
    clear b3
    clear r
    have r := S.holds
    simp only [Holds, and_true] at r
    try simp only [World.size_alloc] at r
    obtain ⟨r1, hb1, hr1, htb, hfit⟩ := meanOf_is HB.out
    obtain ⟨hr, hfit1, hv, ht0, _, hb3⟩ := bet_is hb1
    have HB1 := Lib.hid hb1; have HV := Lib.hid hv; have HR1 := Lib.hid hr1; have FT := Lib.hid hfit; have FT1 := Lib.hid hfit1; have HR := Lib.hid hr
    clear hv hr1 hfit hfit1 hr hb1
    have z0 : IntKind.i64.wrap (b - t) = b - t := IntWalk.i64_in _ (by omega)
    have z1 : IntKind.i64.wrap (b - t + 1) = b - t + 1 := IntWalk.i64_in _ (by omega)
    have z2 : ¬ (b - t + 1 = 0) := by omega
    obtain ⟨y, hy⟩ : ∃ y : Int, (len1 : Int).tmod (b - t + 1) = y := ⟨_, rfl⟩
    have hy0 : 0 ≤ y := by rw [← hy]; exact Int.tmod_nonneg _ (by omega)
    have hy1 : y < b - t + 1 := by rw [← hy]; exact Int.tmod_lt_of_pos _ (by omega)
    have hye : (len1 : Int) % (b - t + 1) = y := by rw [← hy, Int.tmod_eq_emod_of_nonneg (by omega)]
    have z3 : IntKind.i64.wrap y = y := IntWalk.i64_in _ (by omega)
    have z4 : IntKind.i64.wrap (t + y) = t + y := IntWalk.i64_in _ (by omega)
    cases hX : meanOf l a t (t + y) with
    | none =>
      have HBX := Lib.hid hX
      clear hX
      go_wp2_with fail
      refine (mean_no R.out HBX.out).mono ?_
      rintro e wv4 ⟨rfl, b4⟩
      replace R := Lib.hid ((R.out.grow b4).alloc 0 0 27)
      replace S := (S.next b4).alloc 0 0
      clear b4
      clear r
      have r := S.holds
      simp only [Holds, and_true] at r
      try simp only [World.size_alloc] at r
      cases hY : meanOf l a (t + y) b with
      | none =>
        have HBY := Lib.hid hY
        clear hY
        go_wp2_with fail
        refine (mean_no R.out HBY.out).mono ?_
        rintro e wv5 ⟨rfl, b5⟩
        replace R := Lib.hid ((R.out.grow b5).alloc 0 0 27)
        replace S := (S.next b5).alloc 0 0
        clear b5
        clear r
        have r := S.holds
        simp only [Holds, and_true] at r
        try simp only [World.size_alloc] at r
        go_wp2_with fail
        go_ret
        exact ⟨by first | rfl | (simp; done) | (simp; omega), S.below⟩
      | some rY =>
        have HBY := Lib.hid hY
        clear hY
        go_wp2_with fail
        refine (mean_yes R.out HBY.out).mono ?_
        rintro e wv5 ⟨nY, dY, rfl, hf, hq, b5⟩
        replace R := Lib.hid ((R.out.grow b5).alloc nY dY 27)
        replace S := (S.next b5).alloc nY dY
        clear b5
        clear r
        have r := S.holds
        simp only [Holds, and_true] at r
        try simp only [World.size_alloc] at r
        have HFY := Lib.hid hf; have HQY := Lib.hid hq
        clear hf hq
        go_wp2_with fail
        go_ret
        exact ⟨by first | rfl | (simp; done) | (simp; omega), S.below⟩
    | some rX =>
      have HBX := Lib.hid hX
      clear hX
      go_wp2_with fail
      refine (mean_yes R.out HBX.out).mono ?_
      rintro e wv4 ⟨nX, dX, rfl, hf, hq, b4⟩
      replace R := Lib.hid ((R.out.grow b4).alloc nX dX 27)
      replace S := (S.next b4).alloc nX dX
      clear b4
      clear r
      have r := S.holds
      simp only [Holds, and_true] at r
      try simp only [World.size_alloc] at r
      have HFX := Lib.hid hf; have HQX := Lib.hid hq
      clear hf hq
      cases hY : meanOf l a (t + y) b with
      | none =>
        have HBY := Lib.hid hY
        clear hY
        go_wp2_with fail
        refine (mean_no R.out HBY.out).mono ?_
        rintro e wv5 ⟨rfl, b5⟩
        replace R := Lib.hid ((R.out.grow b5).alloc 0 0 27)
        replace S := (S.next b5).alloc 0 0
        clear b5
        clear r
        have r := S.holds
        simp only [Holds, and_true] at r
        try simp only [World.size_alloc] at r
        go_wp2_with fail
        go_ret
        exact ⟨by first | rfl | (simp; done) | (simp; omega), S.below⟩
      | some rY =>
        have HBY := Lib.hid hY
        clear hY
        go_wp2_with fail
        refine (mean_yes R.out HBY.out).mono ?_
        rintro e wv5 ⟨nY, dY, rfl, hf, hq, b5⟩
        replace R := Lib.hid ((R.out.grow b5).alloc nY dY 27)
        replace S := (S.next b5).alloc nY dY
        clear b5
        clear r
        have r := S.holds
        simp only [Holds, and_true] at r
        try simp only [World.size_alloc] at r
        have HFY := Lib.hid hf; have HQY := Lib.hid hq
        clear hf hq
        obtain ⟨rx, hbx, hrx, hlx, _⟩ := meanOf_is HBX.out
        obtain ⟨ry, hby, hry, hly, _⟩ := meanOf_is HBY.out
        obtain ⟨NL, NG⟩ := mean_mid (a := rx) (b := ry) hlx hly
        have hs : rx + ry = r1 := by rw [(bet_is hbx).1, (bet_is hby).1, HR.out]; exact amt_split (rec_edges HV.out) (Int.le_of_lt hlx) (Int.le_of_lt hly)
        rw [hs, ← HR1.out, ← hrx, ← hry, ← HQX.out, ← HQY.out, ← HQ.out] at NL NG
        clear hs hbx hby hrx hry
        cases h1 : decide (fq nX dX < fq n d)
        · have H1 := Lib.hid h1
          go_wp2_with fail
          refine (less_is' HFX.out HF.out H1.out _).mono ?_
          rintro e wv6 ⟨rfl, b6⟩
          replace R := Lib.hid ((R.out.grow b6))
          replace S := (S.next b6)
          clear b6
          clear r
          have r := S.holds
          simp only [Holds, and_true] at r
          try simp only [World.size_alloc] at r
          cases h3 : decide (fq n d < fq nX dX)
          · have H3 := Lib.hid h3
            go_wp2_with fail
            refine (less_is' HF.out HFX.out H3.out _).mono ?_
            rintro e wv7 ⟨rfl, b7⟩
            replace R := Lib.hid ((R.out.grow b7))
            replace S := (S.next b7)
            clear b7
            clear r
            have r := S.holds
            simp only [Holds, and_true] at r
            try simp only [World.size_alloc] at r
            go_wp2_with fail
            go_ret
            exact ⟨by first | rfl | (simp; done) | (simp; omega), S.below⟩
          · have H3 := Lib.hid h3
            go_wp2_with fail
            refine (less_is' HF.out HFX.out H3.out _).mono ?_
            rintro e wv7 ⟨rfl, b7⟩
            replace R := Lib.hid ((R.out.grow b7))
            replace S := (S.next b7)
            clear b7
            clear r
            have r := S.holds
            simp only [Holds, and_true] at r
            try simp only [World.size_alloc] at r
            cases h4 : decide (fq n d < fq nY dY)
            · have H4 := Lib.hid h4
              go_wp2_with fail
              refine (less_is' HF.out HFY.out H4.out _).mono ?_
              rintro e wv8 ⟨rfl, b8⟩
              replace R := Lib.hid ((R.out.grow b8))
              replace S := (S.next b8)
              clear b8
              clear r
              have r := S.holds
              simp only [Holds, and_true] at r
              try simp only [World.size_alloc] at r
              go_wp2_with fail
              go_ret
              exact ⟨by first | rfl | (simp; done) | (simp; omega), S.below⟩
            · have H4 := Lib.hid h4
              go_wp2_with fail
              refine (less_is' HF.out HFY.out H4.out _).mono ?_
              rintro e wv8 ⟨rfl, b8⟩
              replace R := Lib.hid ((R.out.grow b8))
              replace S := (S.next b8)
              clear b8
              clear r
              have r := S.holds
              simp only [Holds, and_true] at r
              try simp only [World.size_alloc] at r
              exact absurd ⟨of_decide_eq_true H3.out, of_decide_eq_true H4.out⟩ NG
        · have H1 := Lib.hid h1
          go_wp2_with fail
          refine (less_is' HFX.out HF.out H1.out _).mono ?_
          rintro e wv6 ⟨rfl, b6⟩
          replace R := Lib.hid ((R.out.grow b6))
          replace S := (S.next b6)
          clear b6
          clear r
          have r := S.holds
          simp only [Holds, and_true] at r
          try simp only [World.size_alloc] at r
          cases h2 : decide (fq nY dY < fq n d)
          · have H2 := Lib.hid h2
            go_wp2_with fail
            refine (less_is' HFY.out HF.out H2.out _).mono ?_
            rintro e wv7 ⟨rfl, b7⟩
            replace R := Lib.hid ((R.out.grow b7))
            replace S := (S.next b7)
            clear b7
            clear r
            have r := S.holds
            simp only [Holds, and_true] at r
            try simp only [World.size_alloc] at r
            cases h3 : decide (fq n d < fq nX dX)
            · have H3 := Lib.hid h3
              go_wp2_with fail
              refine (less_is' HF.out HFX.out H3.out _).mono ?_
              rintro e wv8 ⟨rfl, b8⟩
              replace R := Lib.hid ((R.out.grow b8))
              replace S := (S.next b8)
              clear b8
              clear r
              have r := S.holds
              simp only [Holds, and_true] at r
              try simp only [World.size_alloc] at r
              go_wp2_with fail
              go_ret
              exact ⟨by first | rfl | (simp; done) | (simp; omega), S.below⟩
            · have H3 := Lib.hid h3
              go_wp2_with fail
              refine (less_is' HF.out HFX.out H3.out _).mono ?_
              rintro e wv8 ⟨rfl, b8⟩
              replace R := Lib.hid ((R.out.grow b8))
              replace S := (S.next b8)
              clear b8
              clear r
              have r := S.holds
              simp only [Holds, and_true] at r
              try simp only [World.size_alloc] at r
              cases h4 : decide (fq n d < fq nY dY)
              · have H4 := Lib.hid h4
                go_wp2_with fail
                refine (less_is' HF.out HFY.out H4.out _).mono ?_
                rintro e wv9 ⟨rfl, b9⟩
                replace R := Lib.hid ((R.out.grow b9))
                replace S := (S.next b9)
                clear b9
                clear r
                have r := S.holds
                simp only [Holds, and_true] at r
                try simp only [World.size_alloc] at r
                go_wp2_with fail
                go_ret
                exact ⟨by first | rfl | (simp; done) | (simp; omega), S.below⟩
              · have H4 := Lib.hid h4
                go_wp2_with fail
                refine (less_is' HF.out HFY.out H4.out _).mono ?_
                rintro e wv9 ⟨rfl, b9⟩
                replace R := Lib.hid ((R.out.grow b9))
                replace S := (S.next b9)
                clear b9
                clear r
                have r := S.holds
                simp only [Holds, and_true] at r
                try simp only [World.size_alloc] at r
                exact absurd ⟨of_decide_eq_true H3.out, of_decide_eq_true H4.out⟩ NG
          · have H2 := Lib.hid h2
            go_wp2_with fail
            refine (less_is' HFY.out HF.out H2.out _).mono ?_
            rintro e wv7 ⟨rfl, b7⟩
            replace R := Lib.hid ((R.out.grow b7))
            replace S := (S.next b7)
            clear b7
            clear r
            have r := S.holds
            simp only [Holds, and_true] at r
            try simp only [World.size_alloc] at r
            exact absurd ⟨of_decide_eq_true H1.out, of_decide_eq_true H2.out⟩ NL

set_option maxRecDepth 100000 in
theorem lifted (os : Os) (started : os.Started) (H : Type) (enc : TypeId × Value → H) :
    ReturnsInHanded {} Try.checked os 9 .any (Rows.fnMeanPartsSpec.pre6 enc Try.prog Try.f9 Rows.fnMeanPartsRow.domain false) (Rows.fnMeanPartsSpec.post enc Try.prog Try.f9 false true false false) := by
  refine returnsInHanded_of_change (C := Try.checked) own started (by kernel_rfl) Try.func9
    (ChangeSpec.witness6 (enc := enc) (C := Try.checked) false ⟨#[], #[.slice none 0 0, .slice none 0 0], []⟩ 8 (by kernel_rfl) (by kernel_rfl) (by kernel_rfl) (by kernel_rfl)) ?_
  intro W base args ds gs before hval0 hW hcnd _
  have hval : ∀ (j : Nat) t v, Try.f9.params[j]? = some t → args[j]? = some v → Value.okWide Try.prog W .any base t v := hval0
  have hW' := hW
  obtain ⟨p, q, hA0, hV, rfl, hfz, hnd⟩ := hW
  have hA : DataW.TrodAll enc Try.prog W 0 (fun _ => true) true Try.f9.params.toList args.toList ds p := hA0
  rw [Try.params9] at hA hval
  obtain ⟨v0, vs0, d0, ds0, p0, q0, hargs, rfl, rfl, h0, r0⟩ := trodAll_cons hA
  obtain ⟨v1, vs1, d1, ds1, p1, q1, rfl, rfl, rfl, h1, r1⟩ := trodAll_cons r0
  obtain ⟨rfl, rfl, rfl⟩ := trodAll_nil r1
  obtain rfl : args = #[v0, v1] := by cases args; simp_all
  obtain ⟨rfl, rfl⟩ := trodVars_none hV
  obtain ⟨a0, len0, cap0, rfl⟩ := okWide_slice Try.underlying22 (hval 0 22 v0 rfl rfl)
  have k0 := h0
  have lt0 : ∀ x ∈ p0, x.block < W.heap.size := by obtain ⟨m, hm⟩ := k0; exact DataW.trod_lt m _ _ _ hm
  obtain ⟨z0, w0⟩ : ∃ zs, IsRow .u8 W a0 len0 cap0 zs := by
    obtain ⟨fuel, hf⟩ := h0
    rcases open_ints Try.underlying22 Try.underlying5 (by kernel_rfl) hf with ⟨hcs, _⟩ | ⟨x, l, c, zs, hcs, _, hl, hm, hz, _, hcell, hwz⟩
    · simp [Value.cells] at hcs
      obtain ⟨rfl, rfl, rfl⟩ := hcs
      exact ⟨[], .inl ⟨rfl, rfl, rfl, rfl⟩⟩
    · simp [Value.cells] at hcs
      obtain ⟨rfl, rfl, rfl⟩ := hcs
      exact ⟨zs, .inr ⟨_, rfl, hl, hm, by simpa using hz, hcell, hwz⟩⟩
  obtain ⟨a1, len1, cap1, rfl⟩ := okWide_slice Try.underlying22 (hval 1 22 v1 rfl rfl)
  have k1 := h1
  have lt1 : ∀ x ∈ p1, x.block < W.heap.size := by obtain ⟨m, hm⟩ := k1; exact DataW.trod_lt m _ _ _ hm
  obtain ⟨z1, w1⟩ : ∃ zs, IsRow .u8 W a1 len1 cap1 zs := by
    obtain ⟨fuel, hf⟩ := h1
    rcases open_ints Try.underlying22 Try.underlying5 (by kernel_rfl) hf with ⟨hcs, _⟩ | ⟨x, l, c, zs, hcs, _, hl, hm, hz, _, hcell, hwz⟩
    · simp [Value.cells] at hcs
      obtain ⟨rfl, rfl, rfl⟩ := hcs
      exact ⟨[], .inl ⟨rfl, rfl, rfl, rfl⟩⟩
    · simp [Value.cells] at hcs
      obtain ⟨rfl, rfl, rfl⟩ := hcs
      exact ⟨zs, .inr ⟨_, rfl, hl, hm, by simpa using hz, hcell, hwz⟩⟩
  clear hA0 hval0
  refine (walk a0 len0 cap0 z0 a1 len1 cap1 z1 W w0 w1).mono fun e W' ⟨he, bel⟩ => ?_
  subst he
  exact ⟨_, rfl, _, _, _, [], _, [], hW', trodAll_mk1 (shut_bool Try.underlying4 _), (trodAll_cons_mk (Below.trod laidOut (by kernel_rfl) (of_decide_eq_true (by kernel_rfl)) k0 bel lt0) (trodAll_cons_mk (Below.trod laidOut (by kernel_rfl) (of_decide_eq_true (by kernel_rfl)) k1 bel lt1) trodAll_mk0)), rfl, bel.frame _, fun h => by cases h⟩

theorem over : Rows.fnMeanPartsRow.holds Try.pinned (OpenSpec.ofChange Rows.fnMeanPartsSpec) :=
  OpenClaim.holds_of_wide 9 Try.f9 rfl rfl rfl rfl rfl rfl rfl ⟨rfl, rfl, rfl, rfl, rfl⟩ rfl rfl rfl rfl rfl (by kernel_rfl) Try.func9 (by kernel_rfl)
    (of_decide_eq_true (by kernel_rfl)) (by unfold Func.isWrapper; first | (rw [if_pos (by decide +kernel)]; kernel_rfl) | (rw [if_neg (by decide +kernel)]; exact ⟨rfl, rfl⟩))
    (fun os started H enc _ => lifted os started H enc)

/-- ████ THE STATEMENT ████ -/
theorem proved : Rows.FnMeanPartsSaid := over
#print axioms proved
end Go.Proofs.Ytkcbgeldnibjcab.fnMeanParts
