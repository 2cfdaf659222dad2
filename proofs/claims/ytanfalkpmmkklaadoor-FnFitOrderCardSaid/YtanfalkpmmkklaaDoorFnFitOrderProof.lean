/- For every input, the law FnFitOrder of the given statements returns true over the program at this commit, and its arguments read afterwards as before: its conditions: the package-level variables that the row lists hold what the program's own text lays into them, which the card ties. -/
import Derived.Test.YtanfalkpmmkklaaDoorRows
import Derived.Test.YtanfalkpmmkklaaDoorCards
import Derived.Test.YtanfalkpmmkklaaDoorTie
import Derived.Test.YtanfalkpmmkklaaDoorLawW
import Derived.Test.YtanfalkpmmkklaaDoorTwoI
import Derived.Deep.DeepWitnessRowRef
import Derived.LaidMore
import Derived.MakeChecks
import Derived.SevenTiedAt
import Derived.WalkKit
import Derived.ProofKit
import Derived.OpenShut
import Derived.ShutString
import Derived.ChangeOld
import Derived.Below
namespace Go.Proofs.YtanfalkpmmkklaaDoor.fnFitOrder
open Go.ChangeShapes Go.WideShapes Go.ChangeAt Go.RowKit
open Go.ChangeMaps (open_string shut_string)
set_option linter.unusedVariables false

theorem own : ownKnob Tryd.prog.godebug = none := by kernel_rfl
theorem laidOut : laidOutB Tryd.prog = true := by kernel_rfl

/-- WHAT THE WALK IS TOLD OF A SLICE OF INTEGERS THAT CAME IN: it is nil; or it leads to a row of 'cap' cells, the numbers 'zs' (the first 'len' are its elements, the rest its spare room), each fitting its kind. -/
def IsRow (k : IntKind) (w : World) (a : Option Addr) (len cap : Nat) (zs : List Int) : Prop :=
  (a = none ∧ len = 0 ∧ cap = 0 ∧ zs = []) ∨
  ∃ x, a = some x ∧ len ≤ cap ∧ cap ≤ maxLen ∧ zs.length = cap ∧ (∀ i, i < zs.length → w.cell? (x.add i) = some (.int k (zs.getD i 0))) ∧ ∀ n ∈ zs, (Lit.int k n).wf = true

set_option maxRecDepth 100000 in
set_option maxHeartbeats 6400000 in
theorem walk (a0 : Option Addr) (len0 cap0 : Nat) (z0 : List Int) (w : World) (w0 : IsRow .u8 w a0 len0 cap0 z0) (hL : laidMet Tryd.prog Rows.fnFitOrderRow.laid w) (hSh : w.ShapedOpen Tryd.prog) :
    Calls Tryd.prog 4 #[.slice a0 len0 cap0] w fun e w' => e = .returned (.bool true) ∧ Below w.heap.size w w' := by
  have hB := bytes_of w0
  by_cases hl : 1048576 < len0
  · have hdec : decide (1048576 < len0) = true := by simpa using hl
    go_enter Tryd.func4, Tryd.ntmps4
    go_wp2_with fail
    go_ret
    exact ⟨rfl, Below.refl _ _⟩
  have hdec : decide (1048576 < len0) = false := by simpa using hl
  have hm : len0 ≤ 1048576 := by omega
  go_enter Tryd.func4, Tryd.ntmps4
  go_wp2_with fail
  refine (DrawWindowsFit_any hB).mono ?_
  rintro e wv1 ⟨v, u, x, l, s, a, rfl, r0, r1, r2, l1, l6, s6, a12, b1⟩
  clear w0 hB
  have BB := Lib.hid b1
  clear b1
  have R := Lib.hid r0
  clear r0
  have U := Lib.hid r1
  clear r1
  have A := Lib.hid r2
  clear r2
  have SN := Lib.hid ((sent_of hL).grow BB.out)
  obtain ⟨aR, cR, rfl, kR, mR⟩ := tlen_n R.out.row
  obtain ⟨aU, cU, rfl, kU, mU⟩ := tlen_n U.out.row
  obtain ⟨aA, cA, rfl, kA, mA⟩ := len_n A.out.row
  cases hb : fitB l s a
  · have FB := Lib.hid hb
    clear hb
    go_wp2_with fail
    refine (valw_is (implFitW_any R.out.row U.out.row A.out.row) (congrArg Value.bool FB.out)).mono ?_
    rintro e wv2 ⟨rfl, b9⟩
    replace R := Lib.hid (R.out.grow b9)
    replace U := Lib.hid (U.out.grow b9)
    replace A := Lib.hid (A.out.grow b9)
    replace SN := Lib.hid (SN.out.grow b9)
    replace BB := Lib.hid (BB.out.trans (b9.mono BB.out.size))
    clear b9
    go_wp2_with fail
    refine (valw_is (specFitW_any R.out.row U.out.row A.out.row) (congrArg Value.bool FB.out)).mono ?_
    rintro e wv3 ⟨rfl, b9⟩
    replace R := Lib.hid (R.out.grow b9)
    replace U := Lib.hid (U.out.grow b9)
    replace A := Lib.hid (A.out.grow b9)
    replace SN := Lib.hid (SN.out.grow b9)
    replace BB := Lib.hid (BB.out.trans (b9.mono BB.out.size))
    clear b9
    go_wp2_with fail
    go_ret
    exact ⟨by first | rfl | (simp; done) | (simp; omega), BB.out⟩
  · have FB := Lib.hid hb
    obtain ⟨m, hm9, tg, al, ab⟩ := fit_tight hb
    have HB := Lib.hid hm9; have TG := Lib.hid tg; have ML := Lib.hid tg.len; have AB := Lib.hid ab; have AL := Lib.hid al
    clear hb hm9 tg ab
    rw [al] at A kA ⊢
    clear al
    go_wp2_with fail
    refine (valw_is (implFitW_any R.out.row U.out.row A.out.row) (congrArg Value.bool FB.out)).mono ?_
    rintro e wv2 ⟨rfl, b9⟩
    replace R := Lib.hid (R.out.grow b9)
    replace U := Lib.hid (U.out.grow b9)
    replace A := Lib.hid (A.out.grow b9)
    replace SN := Lib.hid (SN.out.grow b9)
    replace BB := Lib.hid (BB.out.trans (b9.mono BB.out.size))
    clear b9
    go_wp2_with fail
    refine (valw_is (specFitW_any R.out.row U.out.row A.out.row) (congrArg Value.bool FB.out)).mono ?_
    rintro e wv3 ⟨rfl, b9⟩
    replace R := Lib.hid (R.out.grow b9)
    replace U := Lib.hid (U.out.grow b9)
    replace A := Lib.hid (A.out.grow b9)
    replace SN := Lib.hid (SN.out.grow b9)
    replace BB := Lib.hid (BB.out.trans (b9.mono BB.out.size))
    clear b9
    have ml := ML.out
    obtain ⟨y, hy⟩ : ∃ y, m.map Prod.fst = y := ⟨_, rfl⟩
    have yl : y.length = l.length := by rw [← hy, List.length_map]; exact ml
    have YL := Lib.hid yl
    have YO : Hid (youngOf l s = some y) := Lib.hid (by rw [← hy]; exact (tight_drop TG.out).1)
    have YG : Hid (∀ j (h : j < y.length) (h2 : j < m.length), y[j] = m[j].1) := Lib.hid (by subst hy; intro j h h2; simp)
    have YF : Hid (fitB l s y = true) := Lib.hid (by rw [← hy]; exact young_fit TG.out)
    have YE := Lib.hid hy
    clear hy
    obtain ⟨z, hz⟩ : ∃ y, m.map Prod.snd = y := ⟨_, rfl⟩
    have zl : z.length = l.length := by rw [← hz, List.length_map]; exact ml
    have ZL := Lib.hid zl
    have ZO : Hid (oldOf l s = some z) := Lib.hid (by rw [← hz]; exact (tight_drop TG.out).2.1)
    have ZG : Hid (∀ j (h : j < z.length) (h2 : j < m.length), z[j] = m[j].2) := Lib.hid (by subst hz; intro j h h2; simp)
    have ZF : Hid (fitB l s z = true) := Lib.hid (by rw [← hz]; exact old_fit TG.out)
    have ZE := Lib.hid hz
    clear hz
    clear ml
    go_wp2_with fail
    refine (il_yes (implYoung_any SN.out R.out.row U.out.row) YO.out).mono ?_
    rintro e wv4 ⟨vY, rfl, o9, b9⟩
    replace R := Lib.hid (R.out.grow b9)
    replace U := Lib.hid (U.out.grow b9)
    replace A := Lib.hid (A.out.grow b9)
    replace SN := Lib.hid (SN.out.grow b9)
    replace BB := Lib.hid (BB.out.trans (b9.mono BB.out.size))
    clear b9
    have Y := Lib.hid o9
    clear o9
    obtain ⟨aY, cY, rfl, kY, mY⟩ := len_n Y.out.row
    rw [yl] at Y kY ⊢
    clear yl
    go_wp2_with fail
    refine (il_yes (implOldW_any SN.out R.out.row U.out.row) ZO.out).mono ?_
    rintro e wv5 ⟨vZ2, rfl, o9, b9⟩
    replace R := Lib.hid (R.out.grow b9)
    replace U := Lib.hid (U.out.grow b9)
    replace A := Lib.hid (A.out.grow b9)
    replace SN := Lib.hid (SN.out.grow b9)
    replace Y := Lib.hid (Y.out.grow b9)
    replace BB := Lib.hid (BB.out.trans (b9.mono BB.out.size))
    clear b9
    have Z2 := Lib.hid o9
    clear o9
    obtain ⟨aZ2, cZ2, rfl, kZ2, mZ2⟩ := len_n Z2.out.row
    rw [zl] at Z2 kZ2 ⊢
    clear zl
    have al := AL.out; have yl := YL.out; have zl := ZL.out
    obtain ⟨gA, qA, eA, k5, k6, k7, k8, hpA⟩ := A.out.at (by omega)
    simp only [Value.slice.injEq] at eA
    obtain ⟨rfl, hclA, rfl⟩ := eA
    clear k5 k6 k7 k8 hclA
    obtain ⟨gY, qY, eY, k5, k6, k7, k8, hpY⟩ := Y.out.at (by omega)
    simp only [Value.slice.injEq] at eY
    obtain ⟨rfl, hclY, rfl⟩ := eY
    clear k5 k6 k7 k8 hclY
    obtain ⟨gZ2, qZ2, eZ2, k5, k6, k7, k8, hpZ2⟩ := Z2.out.at (by omega)
    simp only [Value.slice.injEq] at eZ2
    obtain ⟨rfl, hclZ2, rfl⟩ := eZ2
    clear k5 k6 k7 k8 hclZ2
    have CA : Hid (∀ j (h : j < a.length), wv5.cell? ⟨gA, j, none⟩ = some (.int .i64 a[j])) := Lib.hid (fun j h => (hpA j h).cell)
    have CY : Hid (∀ j (h : j < y.length), wv5.cell? ⟨gY, j, none⟩ = some (.int .i64 y[j])) := Lib.hid (fun j h => (hpY j h).cell)
    have CZ : Hid (∀ j (h : j < z.length), wv5.cell? ⟨gZ2, j, none⟩ = some (.int .i64 z[j])) := Lib.hid (fun j h => (hpZ2 j h).cell)
    clear hpA hpY hpZ2 al yl zl
    have L0 : Hid (IBlk ((wv5.alloc (.cells #[] 3)).alloc (.cells #[] 3)) wv5.heap.size (.slice (some ⟨wv5.heap.size, 0, none⟩) 0 0) []) := Lib.hid ((iblk_new (Nat.le_refl _)).grow ((Below.refl _ _).alloc (Nat.le_refl _) _))
    have H0 : Hid (IBlk ((wv5.alloc (.cells #[] 3)).alloc (.cells #[] 3)) wv5.heap.size (.slice (some ⟨wv5.heap.size + 1, 0, none⟩) 0 0) []) := Lib.hid (by
      have h9 := iblk_new (w := wv5.alloc (.cells #[] 3)) (B := wv5.heap.size) (by simp)
      rw [World.size_alloc] at h9
      exact h9)
    have B0 : Hid (Below wv5.heap.size wv5 ((wv5.alloc (.cells #[] 3)).alloc (.cells #[] 3))) := Lib.hid (((Below.refl _ _).alloc (Nat.le_refl _) _).alloc (by simp) _)
    have P0 : Hid (Apt (.slice (some ⟨wv5.heap.size, 0, none⟩) 0 0) (.slice (some ⟨wv5.heap.size + 1, 0, none⟩) 0 0)) := Lib.hid (fun b hb he => by have h8 : wv5.heap.size = b := Option.some.inj hb; have h9 : wv5.heap.size + 1 = b := Option.some.inj he; omega)
    go_wp2_with fail
    go_loopg [12, 13, 14] l.length (fun k x y t wr => ∃ j : Nat, t = .int .i64 j ∧ j + k = l.length ∧ IBlk wr wv5.heap.size x (a.take j) ∧ IBlk wr wv5.heap.size y (a.take j) ∧ Apt x y ∧ Below wv5.heap.size wv5 wr)
    case atStart => exact ⟨0, rfl, by omega, L0.out, H0.out, P0.out, B0.out⟩
    case round =>
      obtain ⟨wv6, rfl⟩ : ∃ x, x = wr := ⟨wr, rfl⟩
      obtain ⟨j, rfl, hk, hl9, hh9, hp9, hb⟩ := hrel
      obtain ⟨vL, rfl, hl9⟩ : ∃ v, v = _ ∧ IBlk wv6 wv5.heap.size v (a.take j) := ⟨_, rfl, hl9⟩
      obtain ⟨vH, rfl, hh9⟩ : ∃ v, v = _ ∧ IBlk wv6 wv5.heap.size v (a.take j) := ⟨_, rfl, hh9⟩
      have K := Lib.hid hk; have L := Lib.hid hl9; have H := Lib.hid hh9; have AP := Lib.hid hp9; have B := Lib.hid hb
      have hjn : j ≤ l.length := by omega
      clear hk hl9 hh9 hp9 hb L0 H0 P0 B0
      replace R := Lib.hid (R.out.grow B.out)
      replace U := Lib.hid (U.out.grow B.out)
      replace A := Lib.hid (A.out.grow B.out)
      replace SN := Lib.hid (SN.out.grow B.out)
      replace Y := Lib.hid (Y.out.grow B.out)
      replace Z2 := Lib.hid (Z2.out.grow B.out)
      replace BB := Lib.hid (BB.out.trans (B.out.mono BB.out.size))
      by_cases hlt : j < l.length
      · have i1 : (j : Int) < (l.length : Int) := by omega
        have i2 : (0 : Int) ≤ (j : Int) := by omega
        have hlm : j < m.length := by have := ML.out; omega
        have hly : j < y.length := by have := YL.out; omega
        have hlz : j < z.length := by have := ZL.out; omega
        have hla : j < a.length := by have := AL.out; omega
        have ab := AB.out j hlt
        rw [gW_get hlm, gI_get hla] at ab
        have g1 := YG.out j hly hlm
        have g2 := ZG.out j hlz hlm
        have st : a.take (j + 1) = a.take j ++ [a[j]] := List.take_succ_eq_append_getElem hla
        have lt : (a.take j).length ≤ 12 := by rw [List.length_take]; have := TG.out.win.most; omega
        have dA := CA.out j hla; have dY := CY.out j hly; have dZ := CZ.out j hlz
        obtain ⟨yj, hyj⟩ : ∃ x, y[j] = x := ⟨_, rfl⟩
        obtain ⟨zj, hzj⟩ : ∃ x, z[j] = x := ⟨_, rfl⟩
        obtain ⟨aj, haj⟩ : ∃ x, a[j] = x := ⟨_, rfl⟩
        rw [hyj] at dY g1
        rw [hzj] at dZ g2
        rw [haj] at dA ab st
        have e1 : min aj zj = aj := by omega
        have e2 : max aj yj = aj := by omega
        have ST := Lib.hid st; have LT := Lib.hid lt
        clear ab g1 g2 hyj hzj haj st lt
        have mkS : ∀ w' : World, Below wv5.heap.size wv5 w' → (Below wv5.heap.size wv5 w' ∧ w'.cell? ⟨gA, j, none⟩ = some (.int .i64 aj) ∧ w'.cell? ⟨gY, j, none⟩ = some (.int .i64 yj) ∧ w'.cell? ⟨gZ2, j, none⟩ = some (.int .i64 zj)) := fun w' b => ⟨b, (b.cell (cell_below dA)).trans dA, (b.cell (cell_below dY)).trans dY, (b.cell (cell_below dZ)).trans dZ⟩
        have hz := B.out.size
        go_wp2_with fail
        refine wp_region_held_drew (S := (fun w' => (Below wv5.heap.size wv5 w' ∧ w'.cell? ⟨gA, j, none⟩ = some (.int .i64 aj) ∧ w'.cell? ⟨gY, j, none⟩ = some (.int .i64 yj) ∧ w'.cell? ⟨gZ2, j, none⟩ = some (.int .i64 zj)))) (by kernel_rfl) (by exact mkS _ (B.out).drew) (fun hHeld => ?_)
        refine take_h 0 76 rfl rfl (by kernel_rfl) (by kernel_rfl) (by kernel_rfl) (fun _ _ _ h => h) (by kernel_rfl) (by intro w hSw; (try dsimp only at hSw); go_simp; try with_reducible rfl) (by assumption) ?_
        refine take_h 1 77 rfl rfl (by kernel_rfl) (by kernel_rfl) (by kernel_rfl) (fun _ _ _ h => h) (by kernel_rfl) (by intro w hSw; (try dsimp only at hSw); go_simp; try with_reducible rfl) (by assumption) ?_
        refine take_h 2 78 rfl rfl (by kernel_rfl) (by kernel_rfl) (by kernel_rfl) (fun _ _ _ h => h) (by kernel_rfl) (by intro w hSw; (try dsimp only at hSw); go_simp; try with_reducible rfl) (by assumption) ?_
        refine take_h 3 79 rfl rfl (by kernel_rfl) (by kernel_rfl) (by kernel_rfl) (fun _ _ _ h => h) (by kernel_rfl) (by intro w hSw; (try dsimp only at hSw); go_simp; try with_reducible rfl) (by assumption) ?_
        refine take_h 4 80 rfl rfl (by kernel_rfl) (by kernel_rfl) (by kernel_rfl) (fun _ _ _ h => h) (by kernel_rfl) (by intro w hSw; (try dsimp only at hSw); go_simp; try with_reducible rfl) (by assumption) ?_
        refine take_h 5 81 rfl rfl (by kernel_rfl) (by kernel_rfl) (by kernel_rfl) (fun _ _ _ h => h) (by kernel_rfl) (by intro w hSw; (try dsimp only at hSw); go_simp; try with_reducible rfl) (by assumption) ?_
        refine take_h 6 82 rfl rfl (by kernel_rfl) (by kernel_rfl) (by kernel_rfl) (fun _ _ _ h => h) (by kernel_rfl) (by intro w hSw; (try dsimp only at hSw); go_simp; try with_reducible rfl) (by assumption) ?_
        refine take_h 7 83 rfl rfl (by kernel_rfl) (by kernel_rfl) (by kernel_rfl) (fun _ _ _ h => h) (by kernel_rfl) (by intro w hSw; (try dsimp only at hSw); go_simp; try with_reducible rfl) (by assumption) ?_
        refine take_h 8 84 rfl rfl (by kernel_rfl) (by kernel_rfl) (by kernel_rfl) (fun _ _ _ h => h) (by kernel_rfl) (by intro w hSw; (try dsimp only at hSw); go_simp; try with_reducible rfl) (by assumption) ?_
        refine take_h 9 85 rfl rfl (by kernel_rfl) (by kernel_rfl) (by kernel_rfl) (fun _ _ _ h => h) (by kernel_rfl) (by intro w hSw; (try dsimp only at hSw); go_simp; try with_reducible rfl) (by assumption) ?_
        refine wpAnyH_ready (rs := [10]) (by kernel_rfl) (by simp) (AllReadyH.cons rfl (fun K hK => ?_) AllReadyH.nil)
        go_simp
        refine hK.out _ _ (by (try dsimp only); exact mkS _ (Below.alloc hHeld.1 (Below.size hHeld.1) _)) (fun hHeld => ?_)
        clear hK K
        refine wpAnyH_ready (rs := [11]) (by kernel_rfl) (by simp) (AllReadyH.cons rfl (fun K hK => ?_) AllReadyH.nil)
        refine step_iblk inT rfl _ _ rfl (B := wv5.heap.size) _ _ rfl (L.out.grow (by go_grown)) ⟨wv6.heap.size, 0, none⟩ aj rfl (new_one wv6 _ _) (by have := LT.out; omega) (by first | exact Below.size hHeld.1 | (simp; omega)) ?_
        intro v7 w7 hb7 hg7 ht7
        refine hK.out _ _ (by (try dsimp only); exact mkS _ (Below.grown hHeld.1 hg7 (Below.size hHeld.1) (fun k hk => (L.out.own.lt k hk).1))) (fun hHeld => ?_)
        clear hK K
        refine take_h 12 12 rfl rfl (by kernel_rfl) (by kernel_rfl) (by kernel_rfl) (fun _ _ _ h => h) (by kernel_rfl) (by intro w hSw; (try dsimp only at hSw); go_simp; try with_reducible rfl) (by assumption) ?_
        refine wpAnyH_done (by kernel_rfl) ?_ _
        try simp only [Exit.then]
        have bX : Below wv6.heap.size wv6 (wv6.alloc (.cells #[.int .i64 aj] 3)).drew := ((Below.refl wv6.heap.size wv6).alloc (Nat.le_refl _) _).drew
        have L7 := Lib.hid hb7; have H7 := Lib.hid ((H.out.grow bX).stays hg7 AP.out.symm)
        have A7 := Lib.hid (AP.out.new (w := (wv6.alloc (.cells #[.int .i64 aj] 3)).drew) (fun k hk => by have := (H.out.own.lt k hk).2; have := bX.size; omega) ht7)
        have B7 := Lib.hid hHeld.1
        clear hb7 hg7 ht7 hHeld bX L H AP
        have hz7 := B7.out.size
        go_wp2_with fail
        refine wp_region_held_drew (S := (fun w' => (Below wv5.heap.size wv5 w' ∧ w'.cell? ⟨gA, j, none⟩ = some (.int .i64 aj) ∧ w'.cell? ⟨gY, j, none⟩ = some (.int .i64 yj) ∧ w'.cell? ⟨gZ2, j, none⟩ = some (.int .i64 zj)))) (by kernel_rfl) (by exact mkS _ (B7.out).drew) (fun hHeld => ?_)
        refine take_h 0 88 rfl rfl (by kernel_rfl) (by kernel_rfl) (by kernel_rfl) (fun _ _ _ h => h) (by kernel_rfl) (by intro w hSw; (try dsimp only at hSw); go_simp; try with_reducible rfl) (by assumption) ?_
        refine take_h 1 89 rfl rfl (by kernel_rfl) (by kernel_rfl) (by kernel_rfl) (fun _ _ _ h => h) (by kernel_rfl) (by intro w hSw; (try dsimp only at hSw); go_simp; try with_reducible rfl) (by assumption) ?_
        refine take_h 2 90 rfl rfl (by kernel_rfl) (by kernel_rfl) (by kernel_rfl) (fun _ _ _ h => h) (by kernel_rfl) (by intro w hSw; (try dsimp only at hSw); go_simp; try with_reducible rfl) (by assumption) ?_
        refine take_h 3 91 rfl rfl (by kernel_rfl) (by kernel_rfl) (by kernel_rfl) (fun _ _ _ h => h) (by kernel_rfl) (by intro w hSw; (try dsimp only at hSw); go_simp; try with_reducible rfl) (by assumption) ?_
        refine take_h 4 92 rfl rfl (by kernel_rfl) (by kernel_rfl) (by kernel_rfl) (fun _ _ _ h => h) (by kernel_rfl) (by intro w hSw; (try dsimp only at hSw); go_simp; try with_reducible rfl) (by assumption) ?_
        refine take_h 5 93 rfl rfl (by kernel_rfl) (by kernel_rfl) (by kernel_rfl) (fun _ _ _ h => h) (by kernel_rfl) (by intro w hSw; (try dsimp only at hSw); go_simp; try with_reducible rfl) (by assumption) ?_
        refine take_h 6 94 rfl rfl (by kernel_rfl) (by kernel_rfl) (by kernel_rfl) (fun _ _ _ h => h) (by kernel_rfl) (by intro w hSw; (try dsimp only at hSw); go_simp; try with_reducible rfl) (by assumption) ?_
        refine take_h 7 95 rfl rfl (by kernel_rfl) (by kernel_rfl) (by kernel_rfl) (fun _ _ _ h => h) (by kernel_rfl) (by intro w hSw; (try dsimp only at hSw); go_simp; try with_reducible rfl) (by assumption) ?_
        refine take_h 8 96 rfl rfl (by kernel_rfl) (by kernel_rfl) (by kernel_rfl) (fun _ _ _ h => h) (by kernel_rfl) (by intro w hSw; (try dsimp only at hSw); go_simp; try with_reducible rfl) (by assumption) ?_
        refine take_h 9 97 rfl rfl (by kernel_rfl) (by kernel_rfl) (by kernel_rfl) (fun _ _ _ h => h) (by kernel_rfl) (by intro w hSw; (try dsimp only at hSw); go_simp; try with_reducible rfl) (by assumption) ?_
        refine wpAnyH_ready (rs := [10]) (by kernel_rfl) (by simp) (AllReadyH.cons rfl (fun K hK => ?_) AllReadyH.nil)
        go_simp
        refine hK.out _ _ (by (try dsimp only); exact mkS _ (Below.alloc hHeld.1 (Below.size hHeld.1) _)) (fun hHeld => ?_)
        clear hK K
        refine wpAnyH_ready (rs := [11]) (by kernel_rfl) (by simp) (AllReadyH.cons rfl (fun K hK => ?_) AllReadyH.nil)
        refine step_iblk inT rfl _ _ rfl (B := wv5.heap.size) _ _ rfl (H7.out.grow (by go_grown)) ⟨w7.heap.size, 0, none⟩ aj rfl (new_one w7 _ _) (by have := LT.out; omega) (by first | exact Below.size hHeld.1 | (simp; omega)) ?_
        intro v8 w8 hb8 hg8 ht8
        refine hK.out _ _ (by (try dsimp only); exact mkS _ (Below.grown hHeld.1 hg8 (Below.size hHeld.1) (fun k hk => (H7.out.own.lt k hk).1))) (fun hHeld => ?_)
        clear hK K
        refine take_h 12 13 rfl rfl (by kernel_rfl) (by kernel_rfl) (by kernel_rfl) (fun _ _ _ h => h) (by kernel_rfl) (by intro w hSw; (try dsimp only at hSw); go_simp; try with_reducible rfl) (by assumption) ?_
        refine wpAnyH_done (by kernel_rfl) ?_ _
        try simp only [Exit.then]
        have bX : Below w7.heap.size w7 (w7.alloc (.cells #[.int .i64 aj] 3)).drew := ((Below.refl w7.heap.size w7).alloc (Nat.le_refl _) _).drew
        have H8 := Lib.hid hb8; have L8 := Lib.hid ((L7.out.grow bX).stays hg8 A7.out)
        have A8 := Lib.hid (A7.out.symm.new (w := (w7.alloc (.cells #[.int .i64 aj] 3)).drew) (fun k hk => by have := (L7.out.own.lt k hk).2; have := bX.size; omega) ht8)
        have B8 := Lib.hid hHeld.1
        rw [← ST.out] at L8 H8
        clear hb8 hg8 ht8 hHeld bX
        go_wp2_with fail
        go_roundg (gk - 1)
        case measure => have := K.out; omega
        case rel => exact ⟨j + 1, by go_num, by have := K.out; omega, L8.out, H8.out, A8.out.symm, B8.out⟩
      · have hj : j = l.length := by omega
        have i1 : ¬ (j : Int) < (l.length : Int) := by omega
        have ta : a.take j = a := List.take_of_length_le (by rw [AL.out]; omega)
        rw [ta] at L H
        have RL := Lib.hid L.out.own.row; have RH := Lib.hid H.out.own.row
        obtain ⟨aL, cL, rfl, kL, mL⟩ := len_n RL.out
        obtain ⟨aH, cH, rfl, kH, mH⟩ := len_n RH.out
        have al := AL.out
        rw [al] at RL RH kL kH ⊢
        clear hj hlt ta L H AP al
        go_wp2_with fail
        refine (isame_yes RL.out A.out.row rfl).mono ?_
        rintro e wv7 ⟨rfl, b9⟩
        replace R := Lib.hid (R.out.grow b9)
        replace U := Lib.hid (U.out.grow b9)
        replace A := Lib.hid (A.out.grow b9)
        replace SN := Lib.hid (SN.out.grow b9)
        replace Y := Lib.hid (Y.out.grow b9)
        replace Z2 := Lib.hid (Z2.out.grow b9)
        replace RL := Lib.hid (RL.out.grow b9)
        replace RH := Lib.hid (RH.out.grow b9)
        replace BB := Lib.hid (BB.out.trans (b9.mono BB.out.size))
        clear b9
        go_wp2_with fail
        refine (isame_yes RH.out A.out.row rfl).mono ?_
        rintro e wv8 ⟨rfl, b9⟩
        replace R := Lib.hid (R.out.grow b9)
        replace U := Lib.hid (U.out.grow b9)
        replace A := Lib.hid (A.out.grow b9)
        replace SN := Lib.hid (SN.out.grow b9)
        replace Y := Lib.hid (Y.out.grow b9)
        replace Z2 := Lib.hid (Z2.out.grow b9)
        replace RL := Lib.hid (RL.out.grow b9)
        replace RH := Lib.hid (RH.out.grow b9)
        replace BB := Lib.hid (BB.out.trans (b9.mono BB.out.size))
        clear b9
        go_wp2_with fail
        go_ret
        exact ⟨by first | rfl | (simp; done) | (simp; omega), BB.out⟩

/-- A start that fits: the heap that the program's own start-up code for the listed variables leaves. -/
noncomputable def laidWorld (os : Os) : World := World.doorLaid Tryd.prog 600 os
theorem laid_met (os : Os) (args : Array Value) : laidMetH Tryd.prog Rows.fnFitOrderRow.laid ((laidWorld os).forCall (fun _ _ => 0) ⟨#[], args, []⟩).memory := by
  rw [MakeChecks.laidMetH_plain _ _ _ (by kernel_rfl)]
  exact laidMet_of_run' 8 (by kernel_rfl) (by kernel_rfl)
theorem reads (os : Os) {H : Type} (enc : TypeId × Value → H) : ∃ x, DataW.whole enc Tryd.prog ((laidWorld os).forCall (fun _ _ => 0) ⟨#[], #[.slice none 0 0], []⟩).memory Tryd.f4.params.toList Rows.fnFitOrderSpec.vars false #[(Value.slice none 0 0)].toList 8 = some x :=
  Option.isSome_iff_exists.1 (by kernel_rfl)

set_option maxRecDepth 100000 in
theorem lifted (os : Os) (started : os.Started) (H : Type) (enc : TypeId × Value → H) (F : Stop.Interp) :
    ReturnsInHanded {} Tryd.checked os 4 .any ((OpenSpec.ofChange Rows.fnFitOrderSpec).preRow enc Tryd.prog Tryd.f4 Rows.fnFitOrderRow.domain false Rows.fnFitOrderRow.laid) (((OpenSpec.ofChange Rows.fnFitOrderSpec).at F).post enc Tryd.prog Tryd.f4 false true false false) := by
  obtain ⟨x, hx⟩ := reads os enc
  refine returnsInHanded_of_row (C := Tryd.checked) (s := OpenSpec.ofChange Rows.fnFitOrderSpec) own started (by kernel_rfl) Tryd.func4
    (witness_row_atRef (enc := enc) (C := Tryd.checked) false (laidWorld os) #[.slice none 0 0] rfl (by kernel_rfl) (by kernel_rfl) (by kernel_rfl)
      (OpenSpec.preRow_of_cond 8 hx (by kernel_rfl) (fun k hk => by cases hk) (by kernel_rfl) (laid_met os _))) ?_
  intro W base args ds gs before hval0 hW hcnd _ hsz hLH hSh _
  have hL : laidMet Tryd.prog Rows.fnFitOrderRow.laid W := by rw [← MakeChecks.laidMetH_plain _ _ _ (by kernel_rfl)]; exact hLH
  have hval : ∀ (j : Nat) t v, Tryd.f4.params[j]? = some t → args[j]? = some v → Value.okWide Tryd.prog W .any base t v := hval0
  have hW' := hW
  obtain ⟨p, q, hA0, hV, rfl, hfz, hnd⟩ := hW
  have hA : DataW.TrodAll enc Tryd.prog W 0 (fun _ => true) true Tryd.f4.params.toList args.toList ds p := hA0
  rw [Tryd.params4] at hA hval
  obtain ⟨v0, vs0, d0, ds0, p0, q0, hargs, rfl, rfl, h0, r0⟩ := trodAll_cons hA
  obtain ⟨rfl, rfl, rfl⟩ := trodAll_nil r0
  obtain rfl : args = #[v0] := by cases args; simp_all
  obtain ⟨g1, rfl, hback⟩ := sent_back0 hL hV
  obtain ⟨a0, len0, cap0, rfl⟩ := okWide_slice Tryd.underlying22 (hval 0 22 v0 rfl rfl)
  have k0 := h0
  have lt0 : ∀ x ∈ p0, x.block < W.heap.size := by obtain ⟨m, hm⟩ := k0; exact DataW.trod_lt m _ _ _ hm
  obtain ⟨z0, w0⟩ : ∃ zs, IsRow .u8 W a0 len0 cap0 zs := by
    obtain ⟨fuel, hf⟩ := h0
    rcases open_ints Tryd.underlying22 Tryd.underlying5 (by kernel_rfl) hf with ⟨hcs, _⟩ | ⟨x, l, c, zs, hcs, _, hl, hm, hz, _, hcell, hwz⟩
    · simp [Value.cells] at hcs
      obtain ⟨rfl, rfl, rfl⟩ := hcs
      exact ⟨[], .inl ⟨rfl, rfl, rfl, rfl⟩⟩
    · simp [Value.cells] at hcs
      obtain ⟨rfl, rfl, rfl⟩ := hcs
      exact ⟨zs, .inr ⟨_, rfl, hl, hm, by simpa using hz, hcell, hwz⟩⟩
  clear hA0 hval0
  refine (walk a0 len0 cap0 z0 W w0 hL hSh).mono fun e W' ⟨he, bel⟩ => ?_
  subst he
  exact ⟨_, rfl, _, _, _, [], _, _, hW', trodAll_mk1 (shut_bool Tryd.underlying4 _), (trodAll_cons_mk (Below.trod laidOut (by kernel_rfl) (of_decide_eq_true (by kernel_rfl)) k0 bel lt0) trodAll_mk0), hback _ _ bel, bel.frame _, fun h => by cases h⟩

theorem said : Rows.fnFitOrderRow.holds Tryd.pinned (OpenSpec.ofChange Rows.fnFitOrderSpec) :=
  OpenClaim.holds_of_cond 4 Tryd.f4 rfl rfl rfl rfl rfl rfl rfl ⟨rfl, rfl, rfl, rfl, rfl⟩ rfl rfl rfl rfl rfl (by kernel_rfl) Tryd.func4 (by kernel_rfl)
    (of_decide_eq_true (by kernel_rfl)) (by unfold Func.isWrapper; first | (rw [if_pos (by decide +kernel)]; kernel_rfl) | (rw [if_neg (by decide +kernel)]; exact ⟨rfl, rfl⟩))
    (fun os started H enc _ F => by rw [OpenClaim.pre_eq_preRow]; exact lifted os started H enc F)

/-- No parameter wants a stand-in; the program's own looks are as the card says. -/
theorem plain (f : FuncId) (fn : Func) (hf : Tryd.pinned.checked.prog.funcNamed "loop.example/icecores/laws.FnFitOrder" = some f) (hfn : Tryd.pinned.checked.prog.funcs[f]? = some fn) :
    true = Tryd.pinned.checked.prog.looks [] ∧ ∀ (j : Nat) t, fn.params[j]? = some t → Tryd.pinned.checked.prog.wantsStandIn t = false := by
  obtain rfl : f = 4 := Option.some.inj ((show Tryd.prog.funcNamed "loop.example/icecores/laws.FnFitOrder" = some 4 by kernel_rfl).symm.trans hf) |>.symm
  obtain rfl : fn = Tryd.f4 := (Option.some.inj (Tryd.func4.symm.trans hfn)).symm
  refine ⟨by kernel_rfl, fun j t ht => ?_⟩
  have hall : (Tryd.f4.params.toList.all fun u => !Tryd.prog.wantsStandIn u) = true := by kernel_rfl
  exact (show Tryd.prog.wantsStandIn t = false by simpa using List.all_eq_true.1 hall t (by simpa using Array.mem_of_getElem? ht))

/-- The card: the row, and what its listed variables hold tied to the program's text. -/
theorem proved : Rows.FnFitOrderCardSaid :=
  Claim7.holds_tied_plain_at .later [] _ _ _ _ said (fun _ h => by cases h) (by kernel_rfl) (fun _ h => by cases h) fnFitOrder_row_tie rfl ⟨rfl, rfl⟩ (by kernel_rfl) rfl plain (by kernel_rfl)
#print axioms proved
end Go.Proofs.YtanfalkpmmkklaaDoor.fnFitOrder
