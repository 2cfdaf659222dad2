/- The contracts of the model's functions on cuts: the best ones. -/
import Derived.Test.YtihgfhddljicaabCutSpec
import Derived.Test.YtihgfhddljicaabBox
import Derived.Test.YtihgfhddljicaabTab
import Derived.ArgAppend
namespace Go.Proofs.Ytihgfhddljicaab
open Go.RowKit

/-- A list of numbers of the call's own, or none. -/
def ListB (w : World) (o : Option (List Int)) (e : Ending) (w' : World) : Prop :=
  ∃ v, e = .returned (.tuple #[v, .bool o.isSome]) ∧ IOwn w' w.heap.size v (o.getD []) ∧ Below w.heap.size w w'
/-- A list that the call builds up: empty as yet (a slice without room), or in a block of the call's own. -/
def Grw (w : World) (B : Nat) (v : Value) (l : List Int) : Prop := (l = [] ∧ ∃ a, v = .slice a 0 0) ∨ IOwn w B v l
theorem Grw.grow {w w' : World} {B : Nat} {v : Value} {l : List Int} (h : Grw w B v l) (k : Below w.heap.size w w') : Grw w' B v l := by
  rcases h with h | h
  · exact .inl h
  · exact .inr (h.grow k)
theorem Grw.own {w : World} {B : Nat} {v : Value} {l : List Int} (h : Grw w B v l) (h0 : 1 ≤ l.length) : IOwn w B v l := by
  rcases h with ⟨rfl, _⟩ | h
  · simp at h0
  · exact h
theorem grw_append {S : TypeId} (PT : IntT S) {w : World} {ops : Array Oper} {rest : List Oper} {o : Oper} {a : Act} {Q : Exit → Act → World → Prop} (hgd : o.guard = none) (s x : Operand)
    (ho : o.op = .call { callee := .builtin .append, args := #[s, x], argTypes := #[S, S] }) {B : Nat} (v : Value) (m : List Int) (hs : a.eval s = v) (hown : Grw w B v m)
    (ad : Addr) (p : Int) (hx : a.eval x = .slice (some ad) 1 1) (h0 : w.cell? (ad.add 0) = some (.int .i64 p)) (hm : m.length ≤ 1000000) (hB : B ≤ w.heap.size)
    (h : ∀ v' w', IOwn w' B v' (m ++ [p]) → Below B w w' → wpList Try.prog ops Q rest (a.put o.dst v') w') : wpList Try.prog ops Q (o :: rest) a w := by
  rcases hown with ⟨rfl, ao, rfl⟩ | hown
  · obtain ⟨i0, hi, hz0, hz1, hz2⟩ := info_parts intInfo
    refine wpList_append_grows w hgd s x S ho 3 i0 (.int .i64 0) 1 8 PT hi hz0 hz1 hz2 rfl (by decide) ao 0 0 [] hs (fun _ => ⟨rfl, rfl⟩) rfl (fun b _ j u hu => by simp at hu) ad 1 1 [.int .i64 p] hx rfl (fun j u hj => by
      match j, hj with
      | 0, hj => cases hj; exact h0) (by simp [Value.oneCell']) (by omega) (by unfold maxLen; omega) (by omega) ?_
    intro v' w' h2 h3
    refine h v' w' (IOwn.mono (B := w.heap.size) ?_ hB) ((Below.refl _ _).grown h3 hB fun k hk => by cases hk)
    exact h2
  · exact iappend_one PT hgd s x ho v m hs hown ad p hx h0 hm hB fun v' w' h2 h3 => h v' w' h2 (hown.below h3 hB)
/-- A table of integers, made anew. -/
theorem made_ints {w w1 : World} {B n : Nat} (hown : w1.ownsRow B 3 1 (.slice (some ⟨w.heap.size, 0, none⟩) n n) n (madeCells #[Value.int .i64 0] (n * 1)).toList) : IB 3 w1 w.heap.size (List.replicate n 0) ∧ B ≤ w.heap.size := by
  have e : cells1 (List.replicate n (0 : Int)) = (madeCells #[Value.int .i64 0] (n * 1)).toList := by
    rw [Nat.mul_one, toList_madeCells_one]; simp [cells1]
  refine own_block (n := n) ?_ (by simp)
  show w1.ownsRow _ _ 1 _ (List.replicate n (0 : Int)).length (cells1 (List.replicate n 0))
  rw [e, List.length_replicate]; exact hown
set_option maxRecDepth 100000 in
set_option maxHeartbeats 3200000 in
theorem specBestT_any {w : World} {v : Value} {c : List Int} {a b : Nat} (h : IRow w v c) (hs : isSig c = true) (h1 : 1 ≤ a) (h2 : a ≤ b) (h3 : b ≤ 16) :
    Calls Try.prog 37 #[v, .int .i64 a, .int .i64 b] w fun e w' => ILst w (bestL a b c) e w' := by
  obtain ⟨s1, s2, s3⟩ := isSig_iff.1 hs
  obtain ⟨n, hn⟩ : ∃ n, c.length = n := ⟨_, rfl⟩
  have H := Lib.hid h
  obtain ⟨g, o, cp, rfl, k1, k2⟩ := h.known (by omega)
  have HS := Lib.hid hs
  have HN := Lib.hid hn
  rw [hn] at s1 s2 k1 H ⊢
  unfold maxLen at k2
  clear h hs hn s3
  obtain ⟨i0, hi0, hz0, hz1, hz2⟩ := info_parts intInfo
  have e1 : IntKind.i64.wrap ((n : Int) + 1) = ((n + 1 : Nat) : Int) := by rw [show (n : Int) + 1 = ((n + 1 : Nat) : Int) by omega]; exact IntWalk.i64_in _ (by omega)
  have e2 : IntKind.i64.wrap ((n : Int) - 1) = (n : Int) - 1 := IntWalk.i64_in _ (by omega)
  go_enter Try.func37, Try.ntmps37
  go_wp2_with (refine wpList_make_full _ rfl _ _ 23 rfl w.heap.size 3 i0 _ 1 Try.underlying23 hi0 hz0 hz1 .i64 .i64 _ _ (n + 1) rfl rfl rfl rfl (by rw [hz2]; omega) (by unfold maxLen; omega) (Nat.le_refl _) ?_; intro w1 hown hg)
  have B1 := Lib.hid ((Below.refl w.heap.size w).grown hg (Nat.le_refl _) (fun k hk => by simp at hk))
  have I1 := Lib.hid (made_ints hown).1
  have F : Hid (Tab 0 (fun i => costV (best a b (c.drop i))) n n (List.replicate (n + 1) 0)) := Lib.hid ((tab_new 0 _ n).shut (by rw [← HN.out, List.drop_length]; rfl))
  clear hown hg hi0 hz0 hz1 hz2
  clear i0
  go_wp2_with fail
  go_loopg [9] n (fun k x wr => ∃ L, x = .int .i64 ((k : Int) - 1) ∧ k ≤ n ∧ Tab 0 (fun i => costV (best a b (c.drop i))) n k L ∧ IB 3 wr w.heap.size L ∧ Below w.heap.size w wr)
  case atStart => exact ⟨_, rfl, Nat.le_refl _, F.out, I1.out, B1.out⟩
  case round =>
    obtain ⟨gj, rfl⟩ : ∃ g, g = gk := ⟨_, rfl⟩
    obtain ⟨L, rfl, hk, ht, hi, hb⟩ := hrel
    have T := Lib.hid ht; have I := Lib.hid hi; have B := Lib.hid hb
    clear ht hi hb F I1 B1 e1 e2
    by_cases hz : gj = 0
    · subst hz
      have ee : ((0 : Nat) : Int) - 1 = -1 := by omega
      rw [ee]
      clear ee
      have E := Lib.hid T.out.all
      have RR := iown_block (E := 3) (B := w.heap.size) rfl I.out (Nat.le_refl _) (by rw [T.out.len]; unfold maxLen; omega)
      rw [T.out.len] at RR
      have R := Lib.hid RR
      clear RR
      go_wp2_with fail
      go_ret
      refine ⟨_, rfl, ?_, B.out⟩
      have u := R.out
      rw [E.out] at u
      unfold bestL
      rw [HN.out]; exact u
    · obtain ⟨q, rfl⟩ : ∃ q, gj = q + 1 := ⟨gj - 1, by omega⟩
      have ee : ((q + 1 : Nat) : Int) - 1 = (q : Int) := by omega
      rw [ee]
      clear ee hz
      have len := T.out.len
      have c0 := I.out.cell q (by omega)
      have f0 := I.out.froz q
      have I2 := Lib.hid (I.out.set q (-1))
      have T2 := Lib.hid (T.out.open.put (-1))
      have B2 := Lib.hid (B.out.setCell (p := ⟨w.heap.size, q, none⟩) (Nat.le_refl _) (.int .i64 (-1)))
      have i1 : (0 : Int) ≤ (q : Int) := by omega
      have i2 : (q : Int) < ((n + 1 : Nat) : Int) := by omega
      have hdn : (c.drop q).length = n - q := by rw [List.length_drop, HN.out]
      have HD := Lib.hid hdn
      clear hdn
      go_wp2_with fail
      go_loopg [10] (dists a b (n - q)) (fun k y wq => ∃ (i : Nat) (M : List Int), y = .int .i64 ((a : Int) + (i : Int)) ∧ i + k = dists a b (n - q) ∧ Tab1 0 (fun i => costV (best a b (c.drop i))) n q (costV (bestP a b (c.drop q) i)) M ∧ IB 3 wq w.heap.size M ∧ Below w.heap.size w wq)
      case atStart => exact ⟨0, _, by simp, by omega, T2.out, I2.out, B2.out⟩
      case round =>
        obtain ⟨i, M, rfl, hk2, ht, hi, hb⟩ := hrel
        have K2 := Lib.hid hk2; have T3 := Lib.hid ht; have I3 := Lib.hid hi; have B3 := Lib.hid hb
        have hid : i ≤ dists a b (n - q) := by omega
        clear hk2 ht hi hb c0 f0 I2 T2 B2
        by_cases hi : i < dists a b (n - q)
        · obtain ⟨n1, n2⟩ := dist_in h1 hi
          obtain ⟨r, hr⟩ : ∃ r : Nat, q + (a + i) = r + 1 := ⟨q + (a + i) - 1, by omega⟩
          have lenM := T3.out.len
          have d1 := I3.out.cell (r + 1) (by omega)
          rw [T3.out.done (r + 1) (by omega) (by omega)] at d1
          have d2 := I3.out.cell q (by omega)
          rw [T3.out.here] at d2
          have d3 := (H.out.grow (B3.out)).cells r (by rw [HN.out]; omega)
          have f3 := I3.out.froz q
          have cb := sig_get HS.out (i := r) (by rw [HN.out]; omega)
          have G := bestP_next a b c q i h1
          rw [hr, Nat.add_sub_cancel, getD_nat (show r < c.length by rw [HN.out]; omega)] at G
          obtain ⟨y, hy⟩ : ∃ y : Int, c[r]'(by rw [HN.out]; omega) = y := ⟨_, rfl⟩
          rw [hy] at d3 cb G
          have c1 : (a : Int) + (i : Int) ≤ (b : Int) := by omega
          have u1 : IntKind.i64.wrap ((q : Int) + ((a : Int) + (i : Int))) = ((r + 1 : Nat) : Int) := by rw [show (q : Int) + ((a : Int) + (i : Int)) = ((r + 1 : Nat) : Int) by omega]; exact IntWalk.i64_in _ (by omega)
          have c2 : ((r + 1 : Nat) : Int) ≤ (n : Int) := by omega
          have i3 : (0 : Int) ≤ ((r + 1 : Nat) : Int) := by omega
          have i4 : ((r + 1 : Nat) : Int) < ((n + 1 : Nat) : Int) := by omega
          have i5 : (0 : Int) ≤ (r : Int) := by omega
          have i6 : (r : Int) < (n : Int) := by omega
          have u2 : IntKind.i64.wrap (((r + 1 : Nat) : Int) - 1) = (r : Int) := by rw [show ((r + 1 : Nat) : Int) - 1 = (r : Int) by omega]; exact IntWalk.i64_in _ (by omega)
          have u3 : IntKind.i64.wrap ((a : Int) + (i : Int) + 1) = (a : Int) + ((i + 1 : Nat) : Int) := by rw [show (a : Int) + (i : Int) + 1 = (a : Int) + ((i + 1 : Nat) : Int) by omega]; exact IntWalk.i64_in _ (by omega)
          cases hbeh : best a b (c.drop (r + 1)) with
          | none =>
            have GN : Hid (bestP a b (c.drop q) (i + 1) = bestP a b (c.drop q) i) := Lib.hid (by rw [G, hbeh]; rfl)
            rw [hbeh] at d1
            simp only [costV] at d1
            clear G hbeh hy hr n1 n2
            go_wp2_with fail
            go_quiet (fail)
            go_wp2_with fail
            go_roundg (gk - 1)
            case measure => have := K2.out; omega
            case rel => exact ⟨i + 1, M, by first | rfl | (rw [u3]), by have := K2.out; omega, by rw [GN.out]; exact T3.out, I3.out.grow (below_drews (Below.refl wr.heap.size wr) _) I3.out.lt, below_drews B3.out _⟩
          | some p =>
            have pb := ent_bound h1 HS.out hbeh
            rw [hbeh] at d1 G
            simp only [costV] at d1
            obtain ⟨x, hx⟩ : ∃ x : Int, p.2 = x := ⟨_, rfl⟩
            rw [hx] at d1 pb
            have x0 : (0 : Int) ≤ x := pb.1
            have u4 : IntKind.i64.wrap (x + y) = x + y := IntWalk.i64_in _ (by omega)
            cases hacc : bestP a b (c.drop q) i with
            | none =>
              have GN : Hid (costV (bestP a b (c.drop q) (i + 1)) = x + y) := Lib.hid (by rw [G, hacc]; simp only [gath, costV]; omega)
              rw [hacc] at d2
              simp only [costV] at d2
              have I4 := Lib.hid ((I3.out.grow (below_drews (Below.refl wr.heap.size wr) 1) I3.out.lt).set q (x + y))
              have T4 : Hid (Tab1 0 (fun i => costV (best a b (c.drop i))) n q (costV (bestP a b (c.drop q) (i + 1))) (M.set q (x + y))) := Lib.hid (by rw [GN.out]; exact T3.out.put _)
              clear G hbeh hy hr n1 n2 hx hacc
              go_wp2_with fail
              go_quiet (fail)
              go_wp2_with fail
              go_roundg (gk - 1)
              case measure => have := K2.out; omega
              case rel => exact ⟨i + 1, _, by first | rfl | (rw [u3]), by have := K2.out; omega, T4.out, (I3.out.grow (below_drews (Below.refl wr.heap.size wr) _) I3.out.lt).set q _, (below_drews B3.out _).setCell (p := ⟨w.heap.size, q, none⟩) (Nat.le_refl _) _⟩
            | some m =>
              have mb := entP_bound h1 HS.out (k := q) (by rw [HN.out]; exact Nat.le_of_lt hi) hacc
              obtain ⟨z, hz⟩ : ∃ z : Int, m.2 = z := ⟨_, rfl⟩
              rw [hacc] at d2
              simp only [costV] at d2
              rw [hz] at d2 mb
              by_cases hle : z ≤ x + y
              · have GN : Hid (costV (bestP a b (c.drop q) (i + 1)) = costV (bestP a b (c.drop q) i)) := Lib.hid (by rw [G, hacc]; simp only [gath]; rw [if_pos (by omega)])
                have g1 : decide (z < 0) = false := by simp; omega
                have g2 : decide (x + y < z) = false := by simp; omega
                clear G hbeh hy hr n1 n2 hx hz hacc
                go_wp2_with fail
                go_quiet (fail)
                go_wp2_with fail
                go_roundg (gk - 1)
                case measure => have := K2.out; omega
                case rel => exact ⟨i + 1, M, by first | rfl | (rw [u3]), by have := K2.out; omega, by rw [GN.out]; exact T3.out, I3.out.grow (below_drews (Below.refl wr.heap.size wr) _) I3.out.lt, below_drews B3.out _⟩
              · have GN : Hid (costV (bestP a b (c.drop q) (i + 1)) = x + y) := Lib.hid (by rw [G, hacc]; simp only [gath]; rw [if_neg (by omega)]; simp only [costV]; omega)
                have T4 : Hid (Tab1 0 (fun i => costV (best a b (c.drop i))) n q (costV (bestP a b (c.drop q) (i + 1))) (M.set q (x + y))) := Lib.hid (by rw [GN.out]; exact T3.out.put _)
                have g1 : decide (z < 0) = false := by simp; omega
                have g2 : decide (x + y < z) = true := by simp; omega
                clear G hbeh hy hr n1 n2 hx hz hacc
                go_wp2_with fail
                go_quiet (fail)
                go_wp2_with fail
                go_roundg (gk - 1)
                case measure => have := K2.out; omega
                case rel => exact ⟨i + 1, _, by first | rfl | (rw [u3]), by have := K2.out; omega, T4.out, (I3.out.grow (below_drews (Below.refl wr.heap.size wr) _) I3.out.lt).set q _, (below_drews B3.out _).setCell (p := ⟨w.heap.size, q, none⟩) (Nat.le_refl _) _⟩
        · have hii : i = dists a b (n - q) := by omega
          have PA : Hid (costV (bestP a b (c.drop q) i) = costV (best a b (c.drop q))) := Lib.hid (by rw [hii, bestP_all h1 HN.out (by omega)])
          have T4 := Lib.hid (T3.out.shut PA.out)
          have stop := dist_out (show q < n by omega) hii
          have u3 : IntKind.i64.wrap ((q : Int) - 1) = (q : Int) - 1 := IntWalk.i64_in _ (by omega)
          have u5 : IntKind.i64.wrap ((q : Int) + ((a : Int) + (i : Int))) = (q : Int) + ((a : Int) + (i : Int)) := IntWalk.i64_in _ (by unfold dists at hid; omega)
          clear hii hi
          rcases stop with st | ⟨st, st2⟩
          · have c1 : ¬ (a : Int) + (i : Int) ≤ (b : Int) := by omega
            go_wp2_with fail
            go_roundg q
            case measure => omega
            case rel => exact ⟨M, by first | rfl | (rw [u3]), by omega, T4.out, I3.out, B3.out⟩
          · have c1 : (a : Int) + (i : Int) ≤ (b : Int) := by omega
            have c2 : ¬ (q : Int) + ((a : Int) + (i : Int)) ≤ (n : Int) := by omega
            go_wp2_with fail
            go_roundg q
            case measure => omega
            case rel => exact ⟨M, by first | rfl | (rw [u3]), by omega, T4.out, I3.out, B3.out⟩
theorem listB_no {w w1 : World} {o : Option (List Int)} (h : o = none) (B : Below w.heap.size w w1) :
    ListB w o (.returned (.tuple #[.slice (some ⟨w1.heap.size, 0, none⟩) 0 0, .bool false])) (w1.alloc (.cells #[] 3)) := by
  subst h
  exact ⟨_, rfl, iown_new B.size, B.alloc B.size _⟩
set_option maxRecDepth 100000 in
set_option maxHeartbeats 3200000 in
theorem specCutsBest_any {w : World} {v : Value} {c : List Int} (lo mo : Int) (h : IRow w v c) :
    Calls Try.prog 14 #[v, .int .i64 lo, .int .i64 mo] w fun e w' => ListB w (bestB c lo mo) e w' := by
  have B0 := Lib.hid ((Below.refl w.heap.size w).alloc (Nat.le_refl _) (.cells #[] 3))
  have H := Lib.hid (h.grow B0.out)
  have O0 := Lib.hid (iown_new (Nat.le_refl w.heap.size))
  cases hs : isSig c
  · have HS := Lib.hid hs
    obtain ⟨a, cp, rfl, _, _⟩ := h.len
    have R := Lib.hid (bestB_no (lo := lo) (mo := mo) (.inl hs))
    clear hs h
    go_enter Try.func14, Try.ntmps14
    go_wp2_with fail
    refine (sigS_is H.out HS.out).mono ?_
    rintro e w1 ⟨rfl, rfl⟩
    go_wp2_with fail
    go_ret2
    rw [R.out]
    exact ⟨_, rfl, O0.out, B0.out⟩
  have HS := Lib.hid hs
  obtain ⟨s1, s2, s3⟩ := isSig_iff.1 hs
  obtain ⟨n, hn⟩ : ∃ n, c.length = n := ⟨_, rfl⟩
  have HN := Lib.hid hn
  obtain ⟨g, o, cp, rfl, k1, k2⟩ := h.known (by omega)
  rw [hn] at s1 s2 k1 H ⊢
  unfold maxLen at k2
  clear h hs hn s3
  cases hm : isLim lo mo
  · have HM := Lib.hid hm
    have R := Lib.hid (bestB_no (c := c) (.inr hm))
    clear hm
    go_enter Try.func14, Try.ntmps14
    go_wp2_with fail
    refine (sigS_is H.out HS.out).mono ?_
    rintro e w1 ⟨rfl, rfl⟩
    go_wp2_with fail
    refine (limS_is HM.out _).mono ?_
    rintro e w1 ⟨rfl, rfl⟩
    go_wp2_with fail
    go_ret2
    rw [R.out]
    exact ⟨_, rfl, O0.out, B0.out⟩
  have HM := Lib.hid hm
  obtain ⟨a, b, rfl, rfl, h1, h2, h3⟩ := lim_nat hm
  clear hm
  have hsz0 : w.heap.size ≤ (w.alloc (.cells #[] 3)).heap.size := B0.out.size
  cases hb0 : best a b c with
  | none =>
    have R := Lib.hid (bestB_eq HS.out h1 h2 h3 hb0)
    have HB := Lib.hid hb0
    clear hb0
    go_enter Try.func14, Try.ntmps14
    go_wp2_with fail
    refine (sigS_is H.out HS.out).mono ?_
    rintro e w1 ⟨rfl, rfl⟩
    go_wp2_with fail
    refine (limS_is HM.out _).mono ?_
    rintro e w1 ⟨rfl, rfl⟩
    go_wp2_with fail
    refine (specBestT_any H.out HS.out h1 h2 h3).mono ?_
    rintro e w1 ⟨v1, rfl, o1, b1⟩
    have B1 := Lib.hid (B0.out.trans (b1.mono hsz0))
    have O1 := Lib.hid (O0.out.grow b1)
    have R1 := Lib.hid o1.row
    obtain ⟨g1, p1, c1, rfl, q1, q2⟩ := o1.row.known (by rw [bestL_length]; omega)
    have d1 := o1.row.cells 0 (by rw [bestL_length]; omega)
    rw [bestL_get, List.drop_zero, HB.out] at d1
    simp only [costV, Nat.add_zero] at d1
    rw [bestL_length, HN.out] at q1 R1 ⊢
    unfold maxLen at q2
    have i1 : (0 : Int) < ((n + 1 : Nat) : Int) := by omega
    clear o1 b1
    go_wp2_with fail
    go_ret2
    rw [R.out]
    exact ⟨_, rfl, O1.out, B1.out⟩
  | some p0 =>
    have R := Lib.hid (bestB_eq HS.out h1 h2 h3 hb0)
    have HB : Hid (best a b (c.drop 0) = some p0) := Lib.hid (by rw [List.drop_zero]; exact hb0)
    have pb := ent_bound h1 HS.out HB.out
    obtain ⟨x0, hx0⟩ : ∃ x : Int, p0.2 = x := ⟨_, rfl⟩
    rw [hx0] at pb
    have HX := Lib.hid hx0
    clear hb0 hx0
    go_enter Try.func14, Try.ntmps14
    go_wp2_with fail
    refine (sigS_is H.out HS.out).mono ?_
    rintro e w1 ⟨rfl, rfl⟩
    go_wp2_with fail
    refine (limS_is HM.out _).mono ?_
    rintro e w1 ⟨rfl, rfl⟩
    go_wp2_with fail
    refine (specBestT_any H.out HS.out h1 h2 h3).mono ?_
    rintro e w1 ⟨v1, rfl, o1, b1⟩
    have B1 := Lib.hid (B0.out.trans (b1.mono hsz0))
    have O1 := Lib.hid (O0.out.grow b1)
    have H1 := Lib.hid (H.out.grow b1)
    obtain ⟨g1, p1, c1, rfl, q1, q2⟩ := o1.row.known (by rw [bestL_length]; omega)
    have d1 := o1.row.cells 0 (by rw [bestL_length]; omega)
    rw [bestL_get, HB.out] at d1
    simp only [costV, Nat.add_zero] at d1
    rw [HX.out] at d1
    have R1 := Lib.hid o1.row
    rw [bestL_length, HN.out] at q1 R1 ⊢
    unfold maxLen at q2
    have i1 : (0 : Int) < ((n + 1 : Nat) : Int) := by omega
    have g0 : decide (x0 < 0) = false := by simp; omega
    clear o1 b1
    go_wp2_with fail
    go_loopg [8, 10] n (fun j y x wr => ∃ (k : Nat) (l : List Int), x = .int .i64 k ∧ k + j = n ∧ (∃ p, best a b (c.drop k) = some p) ∧ Grw wr w1.heap.size y l ∧ l.length ≤ k ∧ (k = 0 ∨ 1 ≤ l.length) ∧ l ++ tl a b (c.drop k) k = tl a b c 0 ∧ Below w1.heap.size w1 wr)
    case atStart => exact ⟨0, [], rfl, by omega, ⟨_, HB.out⟩, .inl ⟨rfl, _, rfl⟩, by simp, .inl rfl, by simp, Below.refl _ _⟩
    case round =>
      obtain ⟨gj, rfl⟩ : ∃ g, g = gk := ⟨_, rfl⟩
      obtain ⟨wo, rfl⟩ : ∃ x, x = wr := ⟨wr, rfl⟩
      obtain ⟨k, l, rfl, hk, ⟨p, hp⟩, ho, hl, hl0, htl, hbl⟩ := hrel
      have K := Lib.hid hk; have O := Lib.hid ho; have BB := Lib.hid hbl; have P := Lib.hid hp; have TL := Lib.hid htl
      clear hk ho hbl hp htl O1 d1 g0
      have hkn : k ≤ n := by have := K.out; omega
      have hb1 := B1.out.size
      have hb2 := BB.out.size
      by_cases hlt : k < n
      · have i2 : (k : Int) < (n : Int) := by omega
        obtain ⟨z1, z2, z3, ⟨r, hr, hr2⟩, z4⟩ := best_some h1 (show 0 < (c.drop k).length by rw [List.length_drop, HN.out]; omega) P.out
        rw [List.length_drop, HN.out] at z3 z4
        rw [List.drop_drop] at hr
        obtain ⟨d, hd⟩ : ∃ d : Nat, p.1 = d := ⟨_, rfl⟩
        obtain ⟨m, hm⟩ : ∃ m : Int, p.2 = m := ⟨_, rfl⟩
        rw [hd] at z1 z2 z3 z4 hr hr2
        rw [hm] at z4 hr2
        have pb2 := ent_bound h1 HS.out P.out
        rw [hm] at pb2
        have R2 := Lib.hid (R1.out.grow BB.out)
        have H2 := Lib.hid (H1.out.grow BB.out)
        have dk := R2.out.cells k (by rw [bestL_length, HN.out]; omega)
        rw [bestL_get, P.out] at dk
        simp only [costV] at dk
        rw [hm] at dk
        have TN := Lib.hid (tl_cons (k := k) h1 (show 0 < (c.drop k).length by rw [List.length_drop, HN.out]; omega) P.out)
        rw [hd, List.drop_drop] at TN
        have Z4 := Lib.hid z4; have HR := Lib.hid hr; have HR2 := Lib.hid hr2
        have HM2 := Lib.hid hm
        clear z4 hr hr2 hd hm
        go_wp2_with fail
        go_loopg [11] (d - a) (fun j y wq => ∃ i : Nat, y = .int .i64 ((a : Int) + (i : Int)) ∧ a + i + j = d ∧ Below wo.heap.size wo wq)
        case atStart => exact ⟨0, by simp, by omega, Below.refl _ _⟩
        case round =>
          obtain ⟨i, rfl, hi, hbq⟩ := hrel
          have K2 := Lib.hid hi; have BQ := Lib.hid hbq
          have hid : a + i ≤ d := by omega
          clear hi hbq
          obtain ⟨q, hq⟩ : ∃ q : Nat, k + (a + i) = q + 1 := ⟨k + (a + i) - 1, by omega⟩
          have R3 := R2.out.grow BQ.out
          have H3 := H2.out.grow BQ.out
          have e1 := R3.cells (q + 1) (by rw [bestL_length, HN.out]; omega)
          rw [bestL_get] at e1
          have e2 := R3.cells k (by rw [bestL_length, HN.out]; omega)
          rw [bestL_get, P.out] at e2
          simp only [costV] at e2
          have e3 := H3.cells q (by rw [HN.out]; omega)
          have yb := sig_get HS.out (i := q) (by rw [HN.out]; omega)
          have ey : (c.drop k).getD (a + i - 1) 0 = c[q]'(by rw [HN.out]; omega) := by rw [drop_getD, ← getD_nat (show q < c.length by rw [HN.out]; omega)]; congr 1; omega
          have z5 := Z4.out (a + i)
          rw [List.drop_drop, hq, ey] at z5
          rw [HM2.out] at e2
          have r5 := HR2.out
          have r6 := HR.out
          obtain ⟨y, hy⟩ : ∃ y : Int, c[q]'(by rw [HN.out]; omega) = y := ⟨_, rfl⟩
          rw [hy] at e3 yb z5 ey
          have u1 : IntKind.i64.wrap ((k : Int) + ((a : Int) + (i : Int))) = ((q + 1 : Nat) : Int) := by rw [show (k : Int) + ((a : Int) + (i : Int)) = ((q + 1 : Nat) : Int) by omega]; exact IntWalk.i64_in _ (by omega)
          have u2 : IntKind.i64.wrap (((q + 1 : Nat) : Int) - 1) = (q : Int) := by rw [show ((q + 1 : Nat) : Int) - 1 = (q : Int) by omega]; exact IntWalk.i64_in _ (by omega)
          have u3 : IntKind.i64.wrap ((a : Int) + (i : Int) + 1) = (a : Int) + ((i + 1 : Nat) : Int) := by rw [show (a : Int) + (i : Int) + 1 = (a : Int) + ((i + 1 : Nat) : Int) by omega]; exact IntWalk.i64_in _ (by omega)
          have j1 : (0 : Int) ≤ ((q + 1 : Nat) : Int) := by omega
          have j2 : ((q + 1 : Nat) : Int) < ((n + 1 : Nat) : Int) := by omega
          have j3 : (0 : Int) ≤ (q : Int) := by omega
          have j4 : (q : Int) < (n : Int) := by omega
          have j5 : (0 : Int) ≤ (k : Int) := by omega
          have j6 : (k : Int) < ((n + 1 : Nat) : Int) := by omega
          clear R3 H3 dk
          by_cases c1 : a + i < d
          · cases hbeh : best a b (c.drop (q + 1)) with
            | none =>
              rw [hbeh] at e1
              simp only [costV] at e1
              clear hbeh hy hq z5 ey r5 r6
              go_wp2_with fail
              go_quiet (fail)
              go_wp2_with fail
              go_roundg (gk - 1)
              case measure => have := K2.out; omega
              case rel => exact ⟨i + 1, by first | rfl | (rw [u3]), by have := K2.out; omega, below_drews BQ.out _⟩
            | some s =>
              have sb := ent_bound h1 HS.out hbeh
              have z6 := (z5 s (by omega) (by omega) (by omega) hbeh).2 c1
              rw [hbeh] at e1
              simp only [costV] at e1
              obtain ⟨x, hx⟩ : ∃ x : Int, s.2 = x := ⟨_, rfl⟩
              rw [hx] at e1 sb z6
              have g1 : decide (x < 0) = false := by simp; omega
              have u4 : IntKind.i64.wrap (x + y) = x + y := IntWalk.i64_in _ (by omega)
              have g2 : ((x + y) != m) = true := by rw [bne_iff_ne]; omega
              clear hbeh hy hq z5 ey r5 r6 hx
              go_wp2_with fail
              go_quiet (fail)
              go_wp2_with fail
              go_roundg (gk - 1)
              case measure => have := K2.out; omega
              case rel => exact ⟨i + 1, by first | rfl | (rw [u3]), by have := K2.out; omega, below_drews BQ.out _⟩
          · have hd : a + i = d := by omega
            rw [← hd, hq] at r6
            rw [← hd, ey] at r5
            have sb := ent_bound h1 HS.out r6
            rw [r6] at e1
            simp only [costV] at e1
            obtain ⟨x, hx⟩ : ∃ x : Int, r.2 = x := ⟨_, rfl⟩
            rw [hx] at e1 sb r5
            have g1 : decide (x < 0) = false := by simp; omega
            have u4 : IntKind.i64.wrap (x + y) = m := by rw [r5, Int.add_comm]; exact IntWalk.i64_in _ (by omega)
            have g2 : (m != m) = false := by simp
            have TL2 : Hid ((l ++ [(q : Int)]) ++ tl a b (c.drop (q + 1)) (q + 1) = tl a b c 0) := Lib.hid (by
              rw [← TL.out, TN.out, List.append_assoc, ← hd, hq]; rfl)
            have P2 := Lib.hid r6
            have HQ := Lib.hid hq
            have DR : ∀ t, Below wo.heap.size wo (wr.drewN t) := fun t => below_drews BQ.out t
            have hdr : ∀ t, (wr.drewN t).heap.size = wr.heap.size := fun _ => rfl
            clear hy hq z5 ey r5 r6 hx hd c1
            go_wp2_with fail
            go_quiet (fail)
            go_wp2_with (at_builtin; refine grw_append intT rfl _ _ rfl (B := w1.heap.size) _ _ rfl ((O.out.grow (DR _)).grow ((Below.refl _ _).alloc (Nat.le_refl _) _)) ⟨_, 0, none⟩ (q : Int) rfl (new_one _ _ _) (by omega) (by rw [World.size_alloc]; exact Nat.le_succ_of_le (Nat.le_trans hb2 BQ.out.size)) ?_; intro v8 w8 hown8 hb8)
            have O8 := Lib.hid hown8
            have B8 : Hid (Below w1.heap.size w1 w8) := Lib.hid (Below.trans ((BB.out.trans ((DR _).mono hb2)).alloc (Nat.le_trans hb2 BQ.out.size) _) hb8)
            clear hown8 hb8
            go_wp2_with fail
            go_roundg (n - (q + 1))
            case measure => have := K.out; have := HQ.out; omega
            case rel => exact ⟨q + 1, _, rfl, by omega, ⟨_, P2.out⟩, .inr O8.out, by simp; have := HQ.out; omega, .inr (by simp), TL2.out, B8.out⟩
      · have hkk : k = n := by omega
        subst hkk
        have TT := TL.out
        rw [← HN.out, List.drop_length, tl_nil, List.append_nil] at TT
        have E := Lib.hid TT
        have O8 := Lib.hid ((O.out.own (by omega)).mono hb1)
        clear TT hlt
        go_wp2_with fail
        go_ret2
        rw [R.out]
        refine ⟨_, rfl, ?_, B1.out.trans (BB.out.mono hb1)⟩
        have := O8.out
        rw [E.out] at this
        exact this
theorem bestS_is {w : World} {v : Value} {c : List Int} {lo mo : Int} {x : Option (List Int)} (h : IRow w v c) (hx : bestB c lo mo = x) : Calls Try.prog 14 #[v, .int .i64 lo, .int .i64 mo] w fun e w' => ListB w x e w' := by
  have := specCutsBest_any lo mo h
  rwa [hx] at this
end Go.Proofs.Ytihgfhddljicaab
