/- The contracts of the model's functions on ties: all ties of two lists, whether two lists fit, joined ties. -/
import Derived.Test.YthhdpjkmjebjhabTieSpec
namespace Go.Proofs.Ythhdpjkmjebjhab
open Go.RowKit

theorem Own.drews {T : TypeId} {w : World} {B : Nat} {v : Value} {l : List Pc} (h : Own T w B v l) (n : Nat) : Own T (w.drewN n) B v l := h.same fun _ _ => rfl
set_option maxRecDepth 100000 in
set_option maxHeartbeats 6400000 in
theorem specAll_any {w : World} {v u : Value} {a b : List Pc} (h : Row w v a) (k : Row w u b) (hn : a.length ≤ 1000) (hm : b.length ≤ 1000) :
    Calls Try.prog 53 #[v, u] w fun e w' => Lst TT w (mgT a b) e w' := by
  obtain ⟨pa, ca, rfl, ha1, ha2, hla⟩ := h.parts
  obtain ⟨pb, cb, rfl, hb1, hb2, hlb⟩ := k.parts
  have LA := Lib.hid hla; have LB := Lib.hid hlb
  unfold maxLen at ha2 hb2
  have O0 := Lib.hid (own_new TT (w := w) (Nat.le_refl w.heap.size))
  have B0 := Lib.hid ((Below.refl w.heap.size w).alloc (Nat.le_refl _) (.cells #[] TT))
  clear h k hla hlb
  go_enter Try.func53, Try.ntmps53
  go_wp2_with fail
  go_loopg [5, 6, 7] (a.length + b.length) (fun g x y z wr => ∃ (i k : Nat) (L : List Ti), y = .int .i64 (i : Int) ∧ z = .int .i64 (k : Int) ∧ i ≤ a.length ∧ k ≤ b.length ∧ (a.length - i) + (b.length - k) ≤ g ∧ L.length ≤ i + k ∧ mgT a b = L ++ mgT (a.drop i) (b.drop k) ∧ Own TT wr w.heap.size x L ∧ Below w.heap.size w wr)
  case atStart => exact ⟨0, 0, [], rfl, rfl, Nat.zero_le _, Nat.zero_le _, by omega, Nat.le_refl _, rfl, O0.out, B0.out⟩
  case round =>
    obtain ⟨i, k, L, rfl, rfl, hi, hk, hg, hl, he, ho, hb⟩ := hrel
    have G := Lib.hid hg; have E := Lib.hid he; have O := Lib.hid ho; have B := Lib.hid hb; have LL := Lib.hid hl
    clear hg he ho hb hl O0 B0
    by_cases c1 : i < a.length
    · obtain ⟨ga, oa, rfl, d1, d2⟩ := lies_cell LA.out i c1
      have e1 := (B.out.cell (cell_below d1)).trans d1
      have e2 := (B.out.cell (cell_below d2)).trans d2
      have i0 : (0 : Int) ≤ (i : Int) := by omega
      have i1 : (i : Int) < (a.length : Int) := by omega
      have wi : IntKind.i64.wrap ((i : Int) + 1) = ((i + 1 : Nat) : Int) := by rw [show (i : Int) + 1 = ((i + 1 : Nat) : Int) by omega]; exact IntWalk.i64_in _ (by omega)
      clear d1 d2
      by_cases c2 : k < b.length
      · obtain ⟨gb, ob, rfl, d3, d4⟩ := lies_cell LB.out k c2
        have e3 := (B.out.cell (cell_below d3)).trans d3
        have e4 := (B.out.cell (cell_below d4)).trans d4
        have k0 : (0 : Int) ≤ (k : Int) := by omega
        have k1 : (k : Int) < (b.length : Int) := by omega
        have wk : IntKind.i64.wrap ((k : Int) + 1) = ((k + 1 : Nat) : Int) := by rw [show (k : Int) + 1 = ((k + 1 : Nat) : Int) by omega]; exact IntWalk.i64_in _ (by omega)
        clear d3 d4
        have ek : ((k : Int) == (b.length : Int)) = false := by simp; omega
        have ei : ((i : Int) == (a.length : Int)) = false := by simp; omega
        by_cases q1 : a[i].1 < b[k].1
        · have ST := Lib.hid (mg_left (a := a) (b := b) (k := k) c1 (.inr ⟨c2, q1⟩))
          go_wp2_with fail
          go_quiet (fail)
          replace e1 : (wr.drewN nq).cell? ⟨ga, oa + i * 2, none⟩ = some (.int .i64 a[i].1) := e1
          replace e2 : (wr.drewN nq).cell? ⟨ga, oa + i * 2 + 1, none⟩ = some (.int .i64 a[i].2) := e2
          replace e3 : (wr.drewN nq).cell? ⟨gb, ob + k * 2, none⟩ = some (.int .i64 b[k].1) := e3
          replace e4 : (wr.drewN nq).cell? ⟨gb, ob + k * 2 + 1, none⟩ = some (.int .i64 b[k].2) := e4
          replace O := Lib.hid (O.out.drews nq)
          replace B := Lib.hid (below_drews B.out nq)
          obtain ⟨wq0, hwq0⟩ : ∃ x, wr.drewN nq = x := ⟨_, rfl⟩
          simp only [hwq0] at O B e1 e2 e3 e4 ⊢
          clear hwq0
          have hz := B.out.size
          obtain ⟨n1, n2⟩ := new_two wq0 (.int .i64 a[i].1) (.int .i64 a[i].2) TT
          have N1 := Lib.hid n1; have N2 := Lib.hid n2
          have A1 := Lib.hid ((Below.refl wq0.heap.size wq0).alloc (Nat.le_refl _) (.cells #[.int .i64 a[i].1, .int .i64 a[i].2] TT))
          clear n1 n2
          go_wp2_with (at_builtin; refine append_pair tieT rfl _ _ rfl (B := w.heap.size) _ L rfl (O.out.grow A1.out) ⟨wq0.heap.size, 0, none⟩ a[i] rfl N1.out N2.out (by have := LL.out; omega) (by simp; omega) ?_; intro v8 w8 hown8 hg8)
          have O8 := Lib.hid hown8
          have B8 := Lib.hid (B.out.trans ((A1.out.mono hz).trans ((O.out.grow A1.out).below hg8 (by simp; omega))))
          clear hown8 hg8
          go_wp2_with fail
          go_roundg (gk - 1)
          case measure => have := G.out; omega
          case rel => exact ⟨i + 1, k, L ++ [a[i]], by first | rfl | go_num, by first | rfl | go_num, c1, hk, by have := G.out; omega, by have := LL.out; simp; omega, by rw [E.out, ST.out, List.append_assoc]; rfl, O8.out, B8.out⟩
        · by_cases q2 : b[k].1 < a[i].1
          · have ST := Lib.hid (mg_right (a := a) (b := b) (i := i) c2 (.inr ⟨c1, q1, .inl q2⟩))
            go_wp2_with fail
            go_quiet (fail)
            replace e1 : (wr.drewN nq).cell? ⟨ga, oa + i * 2, none⟩ = some (.int .i64 a[i].1) := e1
            replace e2 : (wr.drewN nq).cell? ⟨ga, oa + i * 2 + 1, none⟩ = some (.int .i64 a[i].2) := e2
            replace e3 : (wr.drewN nq).cell? ⟨gb, ob + k * 2, none⟩ = some (.int .i64 b[k].1) := e3
            replace e4 : (wr.drewN nq).cell? ⟨gb, ob + k * 2 + 1, none⟩ = some (.int .i64 b[k].2) := e4
            replace O := Lib.hid (O.out.drews nq)
            replace B := Lib.hid (below_drews B.out nq)
            obtain ⟨wq0, hwq0⟩ : ∃ x, wr.drewN nq = x := ⟨_, rfl⟩
            simp only [hwq0] at O B e1 e2 e3 e4 ⊢
            clear hwq0
            go_wp2_with fail
            go_quiet (fail)
            replace e1 : (wq0.drewN nq).cell? ⟨ga, oa + i * 2, none⟩ = some (.int .i64 a[i].1) := e1
            replace e2 : (wq0.drewN nq).cell? ⟨ga, oa + i * 2 + 1, none⟩ = some (.int .i64 a[i].2) := e2
            replace e3 : (wq0.drewN nq).cell? ⟨gb, ob + k * 2, none⟩ = some (.int .i64 b[k].1) := e3
            replace e4 : (wq0.drewN nq).cell? ⟨gb, ob + k * 2 + 1, none⟩ = some (.int .i64 b[k].2) := e4
            replace O := Lib.hid (O.out.drews nq)
            replace B := Lib.hid (below_drews B.out nq)
            obtain ⟨wq1, hwq1⟩ : ∃ x, wq0.drewN nq = x := ⟨_, rfl⟩
            simp only [hwq1] at O B e1 e2 e3 e4 ⊢
            clear hwq1
            have hz := B.out.size
            obtain ⟨n1, n2⟩ := new_two wq1 (.int .i64 b[k].1) (.int .i64 b[k].2) TT
            have N1 := Lib.hid n1; have N2 := Lib.hid n2
            have A1 := Lib.hid ((Below.refl wq1.heap.size wq1).alloc (Nat.le_refl _) (.cells #[.int .i64 b[k].1, .int .i64 b[k].2] TT))
            clear n1 n2
            go_wp2_with (at_builtin; refine append_pair tieT rfl _ _ rfl (B := w.heap.size) _ L rfl (O.out.grow A1.out) ⟨wq1.heap.size, 0, none⟩ b[k] rfl N1.out N2.out (by have := LL.out; omega) (by simp; omega) ?_; intro v8 w8 hown8 hg8)
            have O8 := Lib.hid hown8
            have B8 := Lib.hid (B.out.trans ((A1.out.mono hz).trans ((O.out.grow A1.out).below hg8 (by simp; omega))))
            clear hown8 hg8
            go_wp2_with fail
            go_roundg (gk - 1)
            case measure => have := G.out; omega
            case rel => exact ⟨i, k + 1, L ++ [b[k]], by first | rfl | go_num, by first | rfl | go_num, hi, c2, by have := G.out; omega, by have := LL.out; simp; omega, by rw [E.out, ST.out, List.append_assoc]; rfl, O8.out, B8.out⟩
          · have q3 : a[i].1 = b[k].1 := by omega
            have HQ3 := Lib.hid q3
            have f1 : (a[i].1 == b[k].1) = true := by simpa using q3
            by_cases q4 : a[i].2 = b[k].2
            · have f2 : (a[i].2 == b[k].2) = true := by simpa using q4
              have EQ : Hid (a[i] = b[k]) := Lib.hid (Prod.ext q3 q4)
              clear q3 q4
              have ST := Lib.hid (mg_both c1 c2 EQ.out)
              go_wp2_with fail
              go_quiet (fail)
              replace e1 : (wr.drewN nq).cell? ⟨ga, oa + i * 2, none⟩ = some (.int .i64 a[i].1) := e1
              replace e2 : (wr.drewN nq).cell? ⟨ga, oa + i * 2 + 1, none⟩ = some (.int .i64 a[i].2) := e2
              replace e3 : (wr.drewN nq).cell? ⟨gb, ob + k * 2, none⟩ = some (.int .i64 b[k].1) := e3
              replace e4 : (wr.drewN nq).cell? ⟨gb, ob + k * 2 + 1, none⟩ = some (.int .i64 b[k].2) := e4
              replace O := Lib.hid (O.out.drews nq)
              replace B := Lib.hid (below_drews B.out nq)
              obtain ⟨wq0, hwq0⟩ : ∃ x, wr.drewN nq = x := ⟨_, rfl⟩
              simp only [hwq0] at O B e1 e2 e3 e4 ⊢
              clear hwq0
              go_wp2_with fail
              go_quiet (fail)
              replace e1 : (wq0.drewN nq).cell? ⟨ga, oa + i * 2, none⟩ = some (.int .i64 a[i].1) := e1
              replace e2 : (wq0.drewN nq).cell? ⟨ga, oa + i * 2 + 1, none⟩ = some (.int .i64 a[i].2) := e2
              replace e3 : (wq0.drewN nq).cell? ⟨gb, ob + k * 2, none⟩ = some (.int .i64 b[k].1) := e3
              replace e4 : (wq0.drewN nq).cell? ⟨gb, ob + k * 2 + 1, none⟩ = some (.int .i64 b[k].2) := e4
              replace O := Lib.hid (O.out.drews nq)
              replace B := Lib.hid (below_drews B.out nq)
              obtain ⟨wq1, hwq1⟩ : ∃ x, wq0.drewN nq = x := ⟨_, rfl⟩
              simp only [hwq1] at O B e1 e2 e3 e4 ⊢
              clear hwq1
              have hz := B.out.size
              obtain ⟨n1, n2⟩ := new_two wq1 (.int .i64 a[i].1) (.int .i64 a[i].2) TT
              have N1 := Lib.hid n1; have N2 := Lib.hid n2
              have A1 := Lib.hid ((Below.refl wq1.heap.size wq1).alloc (Nat.le_refl _) (.cells #[.int .i64 a[i].1, .int .i64 a[i].2] TT))
              clear n1 n2
              go_wp2_with (at_builtin; refine append_pair tieT rfl _ _ rfl (B := w.heap.size) _ L rfl (O.out.grow A1.out) ⟨wq1.heap.size, 0, none⟩ a[i] rfl N1.out N2.out (by have := LL.out; omega) (by simp; omega) ?_; intro v8 w8 hown8 hg8)
              have O8 := Lib.hid hown8
              have B8 := Lib.hid (B.out.trans ((A1.out.mono hz).trans ((O.out.grow A1.out).below hg8 (by simp; omega))))
              clear hown8 hg8
              go_wp2_with fail
              go_roundg (gk - 1)
              case measure => have := G.out; omega
              case rel => exact ⟨i + 1, k + 1, L ++ [a[i]], by first | rfl | go_num, by first | rfl | go_num, c1, c2, by have := G.out; omega, by have := LL.out; simp; omega, by rw [E.out, ST.out, List.append_assoc]; rfl, O8.out, B8.out⟩
            · have f2 : (a[i].2 == b[k].2) = false := by simpa using q4
              have NE : Hid (a[i] ≠ b[k]) := Lib.hid (fun e => q4 (by rw [e]))
              clear q3 q4
              have ST := Lib.hid (mg_right (a := a) (b := b) (i := i) c2 (.inr ⟨c1, q1, .inr NE.out⟩))
              go_wp2_with fail
              go_quiet (fail)
              replace e1 : (wr.drewN nq).cell? ⟨ga, oa + i * 2, none⟩ = some (.int .i64 a[i].1) := e1
              replace e2 : (wr.drewN nq).cell? ⟨ga, oa + i * 2 + 1, none⟩ = some (.int .i64 a[i].2) := e2
              replace e3 : (wr.drewN nq).cell? ⟨gb, ob + k * 2, none⟩ = some (.int .i64 b[k].1) := e3
              replace e4 : (wr.drewN nq).cell? ⟨gb, ob + k * 2 + 1, none⟩ = some (.int .i64 b[k].2) := e4
              replace O := Lib.hid (O.out.drews nq)
              replace B := Lib.hid (below_drews B.out nq)
              obtain ⟨wq0, hwq0⟩ : ∃ x, wr.drewN nq = x := ⟨_, rfl⟩
              simp only [hwq0] at O B e1 e2 e3 e4 ⊢
              clear hwq0
              go_wp2_with fail
              go_quiet (fail)
              replace e1 : (wq0.drewN nq).cell? ⟨ga, oa + i * 2, none⟩ = some (.int .i64 a[i].1) := e1
              replace e2 : (wq0.drewN nq).cell? ⟨ga, oa + i * 2 + 1, none⟩ = some (.int .i64 a[i].2) := e2
              replace e3 : (wq0.drewN nq).cell? ⟨gb, ob + k * 2, none⟩ = some (.int .i64 b[k].1) := e3
              replace e4 : (wq0.drewN nq).cell? ⟨gb, ob + k * 2 + 1, none⟩ = some (.int .i64 b[k].2) := e4
              replace O := Lib.hid (O.out.drews nq)
              replace B := Lib.hid (below_drews B.out nq)
              obtain ⟨wq1, hwq1⟩ : ∃ x, wq0.drewN nq = x := ⟨_, rfl⟩
              simp only [hwq1] at O B e1 e2 e3 e4 ⊢
              clear hwq1
              have hz := B.out.size
              obtain ⟨n1, n2⟩ := new_two wq1 (.int .i64 b[k].1) (.int .i64 b[k].2) TT
              have N1 := Lib.hid n1; have N2 := Lib.hid n2
              have A1 := Lib.hid ((Below.refl wq1.heap.size wq1).alloc (Nat.le_refl _) (.cells #[.int .i64 b[k].1, .int .i64 b[k].2] TT))
              clear n1 n2
              go_wp2_with (at_builtin; refine append_pair tieT rfl _ _ rfl (B := w.heap.size) _ L rfl (O.out.grow A1.out) ⟨wq1.heap.size, 0, none⟩ b[k] rfl N1.out N2.out (by have := LL.out; omega) (by simp; omega) ?_; intro v8 w8 hown8 hg8)
              have O8 := Lib.hid hown8
              have B8 := Lib.hid (B.out.trans ((A1.out.mono hz).trans ((O.out.grow A1.out).below hg8 (by simp; omega))))
              clear hown8 hg8
              go_wp2_with fail
              go_roundg (gk - 1)
              case measure => have := G.out; omega
              case rel => exact ⟨i, k + 1, L ++ [b[k]], by first | rfl | go_num, by first | rfl | go_num, hi, c2, by have := G.out; omega, by have := LL.out; simp; omega, by rw [E.out, ST.out, List.append_assoc]; rfl, O8.out, B8.out⟩
      · have hkb : k = b.length := by omega
        have HKB := Lib.hid hkb
        have ek : ((k : Int) == (b.length : Int)) = true := by simp; omega
        have nk2 : ¬ (k : Int) < (b.length : Int) := by omega
        clear hkb
        have ST := Lib.hid (mg_left (a := a) (b := b) (k := k) c1 (.inl HKB.out))
        go_wp2_with fail
        go_quiet (fail)
        replace e1 : (wr.drewN nq).cell? ⟨ga, oa + i * 2, none⟩ = some (.int .i64 a[i].1) := e1
        replace e2 : (wr.drewN nq).cell? ⟨ga, oa + i * 2 + 1, none⟩ = some (.int .i64 a[i].2) := e2
        replace O := Lib.hid (O.out.drews nq)
        replace B := Lib.hid (below_drews B.out nq)
        obtain ⟨wq0, hwq0⟩ : ∃ x, wr.drewN nq = x := ⟨_, rfl⟩
        simp only [hwq0] at O B e1 e2 ⊢
        clear hwq0
        have hz := B.out.size
        obtain ⟨n1, n2⟩ := new_two wq0 (.int .i64 a[i].1) (.int .i64 a[i].2) TT
        have N1 := Lib.hid n1; have N2 := Lib.hid n2
        have A1 := Lib.hid ((Below.refl wq0.heap.size wq0).alloc (Nat.le_refl _) (.cells #[.int .i64 a[i].1, .int .i64 a[i].2] TT))
        clear n1 n2
        go_wp2_with (at_builtin; refine append_pair tieT rfl _ _ rfl (B := w.heap.size) _ L rfl (O.out.grow A1.out) ⟨wq0.heap.size, 0, none⟩ a[i] rfl N1.out N2.out (by have := LL.out; omega) (by simp; omega) ?_; intro v8 w8 hown8 hg8)
        have O8 := Lib.hid hown8
        have B8 := Lib.hid (B.out.trans ((A1.out.mono hz).trans ((O.out.grow A1.out).below hg8 (by simp; omega))))
        clear hown8 hg8
        go_wp2_with fail
        go_roundg (gk - 1)
        case measure => have := G.out; omega
        case rel => exact ⟨i + 1, k, L ++ [a[i]], by first | rfl | go_num, by first | rfl | go_num, c1, hk, by have := G.out; omega, by have := LL.out; simp; omega, by rw [E.out, ST.out, List.append_assoc]; rfl, O8.out, B8.out⟩
    · have hia : i = a.length := by omega
      have HIA := Lib.hid hia
      have ei : ((i : Int) == (a.length : Int)) = true := by simp; omega
      have ni2 : ¬ (i : Int) < (a.length : Int) := by omega
      clear hia
      by_cases c2 : k < b.length
      · obtain ⟨gb, ob, rfl, d3, d4⟩ := lies_cell LB.out k c2
        have e3 := (B.out.cell (cell_below d3)).trans d3
        have e4 := (B.out.cell (cell_below d4)).trans d4
        have k0 : (0 : Int) ≤ (k : Int) := by omega
        have k1 : (k : Int) < (b.length : Int) := by omega
        have wk : IntKind.i64.wrap ((k : Int) + 1) = ((k + 1 : Nat) : Int) := by rw [show (k : Int) + 1 = ((k + 1 : Nat) : Int) by omega]; exact IntWalk.i64_in _ (by omega)
        clear d3 d4
        have ek : ((k : Int) == (b.length : Int)) = false := by simp; omega
        have ST := Lib.hid (mg_right (a := a) (b := b) (i := i) c2 (.inl HIA.out))
        go_wp2_with fail
        go_quiet (fail)
        replace e3 : (wr.drewN nq).cell? ⟨gb, ob + k * 2, none⟩ = some (.int .i64 b[k].1) := e3
        replace e4 : (wr.drewN nq).cell? ⟨gb, ob + k * 2 + 1, none⟩ = some (.int .i64 b[k].2) := e4
        replace O := Lib.hid (O.out.drews nq)
        replace B := Lib.hid (below_drews B.out nq)
        obtain ⟨wq0, hwq0⟩ : ∃ x, wr.drewN nq = x := ⟨_, rfl⟩
        simp only [hwq0] at O B e3 e4 ⊢
        clear hwq0
        go_wp2_with fail
        go_quiet (fail)
        replace e3 : (wq0.drewN nq).cell? ⟨gb, ob + k * 2, none⟩ = some (.int .i64 b[k].1) := e3
        replace e4 : (wq0.drewN nq).cell? ⟨gb, ob + k * 2 + 1, none⟩ = some (.int .i64 b[k].2) := e4
        replace O := Lib.hid (O.out.drews nq)
        replace B := Lib.hid (below_drews B.out nq)
        obtain ⟨wq1, hwq1⟩ : ∃ x, wq0.drewN nq = x := ⟨_, rfl⟩
        simp only [hwq1] at O B e3 e4 ⊢
        clear hwq1
        have hz := B.out.size
        obtain ⟨n1, n2⟩ := new_two wq1 (.int .i64 b[k].1) (.int .i64 b[k].2) TT
        have N1 := Lib.hid n1; have N2 := Lib.hid n2
        have A1 := Lib.hid ((Below.refl wq1.heap.size wq1).alloc (Nat.le_refl _) (.cells #[.int .i64 b[k].1, .int .i64 b[k].2] TT))
        clear n1 n2
        go_wp2_with (at_builtin; refine append_pair tieT rfl _ _ rfl (B := w.heap.size) _ L rfl (O.out.grow A1.out) ⟨wq1.heap.size, 0, none⟩ b[k] rfl N1.out N2.out (by have := LL.out; omega) (by simp; omega) ?_; intro v8 w8 hown8 hg8)
        have O8 := Lib.hid hown8
        have B8 := Lib.hid (B.out.trans ((A1.out.mono hz).trans ((O.out.grow A1.out).below hg8 (by simp; omega))))
        clear hown8 hg8
        go_wp2_with fail
        go_roundg (gk - 1)
        case measure => have := G.out; omega
        case rel => exact ⟨i, k + 1, L ++ [b[k]], by first | rfl | go_num, by first | rfl | go_num, hi, c2, by have := G.out; omega, by have := LL.out; simp; omega, by rw [E.out, ST.out, List.append_assoc]; rfl, O8.out, B8.out⟩
      · have nk2 : ¬ (k : Int) < (b.length : Int) := by omega
        have R : Hid (mgT a b = L) := Lib.hid (by rw [E.out, mg_end HIA.out (by omega), List.append_nil])
        go_wp2_with fail
        go_ret
        exact ⟨_, rfl, by rw [R.out]; exact O.out, B.out⟩
end Go.Proofs.Ythhdpjkmjebjhab
