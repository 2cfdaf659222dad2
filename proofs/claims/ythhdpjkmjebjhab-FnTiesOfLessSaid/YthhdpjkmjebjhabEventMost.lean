/- The contracts of the model's functions on events: the number of pairs, the table of the most pairs. -/
import Derived.Test.YthhdpjkmjebjhabEvent
import Derived.Test.YthhdpjkmjebjhabGrid
import Derived.Test.YthhdpjkmjebjhabLate
namespace Go.Proofs.Ythhdpjkmjebjhab
open Go.RowKit

theorem okS_is {w : World} {v u x : Value} {a b : List Ev} {m : List Int} {tol : Int} {c : Bool} (h : Row w v a) (k : Row w u b) (hm : IRow w x m) (hc : okB a b tol m = c) :
    Calls Try.prog 49 #[v, u, .int .i64 tol, x] w fun e w' => Val w (.bool c) e w' := by
  have := specOk_any tol h k hm
  rwa [hc] at this
theorem pairs_step {m : List Int} {j : Nat} (h : j < m.length) : pairs (m.take (j + 1)) = pairs (m.take j) + one (decide (0 ≤ m[j])) := by
  rw [List.take_succ_eq_append_getElem h, pairs_append, pairs_cons]; simp [pairs]
theorem pairs_le (m : List Int) : pairs m ≤ m.length := List.countP_le_length
/-- The most pairs of what is left from two places on. -/
def mf (tol : Int) (s t : List Int) (i k : Nat) : Int := ((most tol (s.drop i) (t.drop k) : Nat) : Int)
theorem mf_end (tol : Int) (s t : List Int) (k : Nat) : mf tol s t s.length k = 0 := by
  unfold mf; rw [List.drop_length, most_nil]; rfl
theorem mf_end' (tol : Int) (s t : List Int) (i : Nat) : mf tol s t i t.length = 0 := by
  unfold mf; rw [List.drop_length, most_nil']; rfl
theorem mf_step {tol : Int} {s t : List Int} {i k : Nat} (hi : i < s.length) (hk : k < t.length) :
    mf tol s t i k = max (max (mf tol s t (i + 1) k) (mf tol s t i (k + 1))) (if like tol s[i] t[k] then mf tol s t (i + 1) (k + 1) + 1 else 0) := by
  unfold mf
  rw [List.drop_eq_getElem_cons hi, List.drop_eq_getElem_cons hk, most_cons]
  split <;> omega
theorem mf_nonneg (tol : Int) (s t : List Int) (i k : Nat) : 0 ≤ mf tol s t i k := Int.natCast_nonneg _
theorem mf_le (tol : Int) (s t : List Int) (i k : Nat) : mf tol s t i k ≤ s.length := by
  have := most_le tol (s.drop i) (t.drop k)
  rw [List.length_drop] at this
  unfold mf; omega
/-- What the table holds while it is filled: the rows from p on are done, and of the row before them the places from q on. -/
def tf (tol : Int) (s t : List Int) (p q i k : Nat) : Int := if p ≤ i ∨ (p = i + 1 ∧ q ≤ k) then mf tol s t i k else 0
theorem tf_start {tol : Int} {s t : List Int} {i k : Nat} (hi : i ≤ s.length) (hk : k ≤ t.length) : tf tol s t s.length t.length i k = 0 := by
  unfold tf
  split
  · rename_i h
    rcases h with h | ⟨_, h⟩
    · rw [show i = s.length by omega]; exact mf_end _ _ _ _
    · rw [show k = t.length by omega]; exact mf_end' _ _ _ _
  · rfl
theorem tf_next {tol : Int} {s t : List Int} {p i k : Nat} (hk : k ≤ t.length) : tf tol s t (p + 1) 0 i k = tf tol s t p t.length i k := by
  unfold tf
  by_cases h : p ≤ i
  · rw [if_pos (by omega), if_pos (.inl h)]
  · rw [if_neg (by omega)]
    split
    · rw [show k = t.length by omega]; exact (mf_end' _ _ _ _).symm
    · rfl
theorem tf_below (tol : Int) (s t : List Int) (p q k : Nat) : tf tol s t (p + 1) q (p + 1) k = mf tol s t (p + 1) k := by
  unfold tf; rw [if_pos (.inl (Nat.le_refl _))]
theorem tf_right (tol : Int) (s t : List Int) (p q : Nat) : tf tol s t (p + 1) (q + 1) p (q + 1) = mf tol s t p (q + 1) := by
  unfold tf; rw [if_pos (.inr ⟨rfl, Nat.le_refl _⟩)]
theorem tf_put {tol : Int} {s t : List Int} {p q : Nat} {x : Int} (hx : x = mf tol s t p q) (i k : Nat) : (if i = p ∧ k = q then x else tf tol s t (p + 1) (q + 1) i k) = tf tol s t (p + 1) q i k := by
  by_cases h : i = p ∧ k = q
  · rw [if_pos h]; obtain ⟨rfl, rfl⟩ := h
    unfold tf; rw [if_pos (.inr ⟨rfl, Nat.le_refl _⟩)]; exact hx
  · rw [if_neg h]
    unfold tf
    by_cases c : p + 1 ≤ i ∨ p + 1 = i + 1 ∧ q + 1 ≤ k
    · rw [if_pos c, if_pos (by omega)]
    · rw [if_neg c, if_neg (by omega)]
theorem tf_put2 {tol : Int} {s t : List Int} {p q : Nat} {x y : Int} (hx : x = mf tol s t p q) (i k : Nat) : (if i = p ∧ k = q then x else (if i = p ∧ k = q then y else tf tol s t (p + 1) (q + 1) i k)) = tf tol s t (p + 1) q i k := by
  rw [← tf_put hx i k]
  by_cases h : i = p ∧ k = q
  · rw [if_pos h, if_pos h]
  · rw [if_neg h, if_neg h, if_neg h]
theorem made_zero {w w1 : World} {B n : Nat} (hown : w1.ownsRow B 3 1 (.slice (some ⟨w.heap.size, 0, none⟩) n n) n (madeCells #[Value.int .i64 0] (n * 1)).toList) : IB 3 w1 w.heap.size ((List.range n).map fun _ => 0) := by
  have e : cells1 ((List.range n).map fun _ => (0 : Int)) = (madeCells #[Value.int .i64 0] (n * 1)).toList := by
    rw [Nat.mul_one, toList_madeCells_one]; simp only [cells1, List.map_map]; exact List.map_const' .. |>.trans (by simp)
  suffices r : IOwn w1 B (.slice (some ⟨w.heap.size, 0, none⟩) n n) ((List.range n).map fun _ => 0) from (own_block r (by simp)).1
  show w1.ownsRow _ _ 1 _ ((List.range n).map fun _ => (0 : Int)).length (cells1 ((List.range n).map fun _ => 0))
  rw [e, List.length_map, List.length_range]; exact hown
/-- The table of the most pairs. -/
def TabE (w : World) (a b : List Ev) (tol : Int) (e : Ending) (w' : World) : Prop :=
  ∃ v gs, e = .returned v ∧ Grid w' w.heap.size v (b.length + 1) gs (mf tol (sizes a) (sizes b)) ∧ gs.length = a.length + 1 ∧ Below w.heap.size w w'
set_option maxRecDepth 100000 in
set_option maxHeartbeats 6400000 in
theorem specTable_any {w : World} {v u : Value} {a b : List Ev} {tol : Int} (h : Row w v a) (k : Row w u b) (ha : isEv a = true) (hb : isEv b = true) :
    Calls Try.prog 83 #[v, u, .int .i64 tol] w fun e w' => TabE w a b tol e w' := by
  obtain ⟨n, hn⟩ : ∃ n, a.length = n := ⟨_, rfl⟩
  obtain ⟨m, hm⟩ : ∃ m, b.length = m := ⟨_, rfl⟩
  have n8 := (isEv_iff.1 ha).1
  have m8 := (isEv_iff.1 hb).1
  obtain ⟨pa, ca, rfl, ha1, ha2, hla⟩ := h.parts
  obtain ⟨pb, cb, rfl, hb1, hb2, hlb⟩ := k.parts
  have LA := Lib.hid hla; have LB := Lib.hid hlb
  have VA := Lib.hid ha; have VB := Lib.hid hb
  have HN := Lib.hid hn; have HM := Lib.hid hm
  unfold maxLen at ha2 hb2
  rw [hn] at n8 ha1 ⊢
  rw [hm] at m8 hb1 ⊢
  clear h k hla hlb ha hb hn hm
  have hwm : IntKind.i64.wrap ((m : Int) + 1) = ((m + 1 : Nat) : Int) := by rw [show (m : Int) + 1 = ((m + 1 : Nat) : Int) by omega]; exact IntWalk.i64_in _ (by omega)
  have hwn : IntKind.i64.wrap ((n : Int) - 1) = (n : Int) - 1 := IntWalk.i64_in _ (by omega)
  have hwm2 : IntKind.i64.wrap ((m : Int) - 1) = (m : Int) - 1 := IntWalk.i64_in _ (by omega)
  have G0 := Lib.hid (grid_new (w := w) (Nat.le_refl _) (m + 1) fun _ _ => 0)
  have B0 := Lib.hid ((Below.refl w.heap.size w).alloc (Nat.le_refl _) (.cells #[] 47))
  go_enter Try.func83, Try.ntmps83
  go_wp2_with fail
  go_loopg [7, 8] (n + 1) (fun k x y wr => ∃ gs : List Nat, y = .int .i64 gs.length ∧ gs.length + k = n + 1 ∧ Grid wr w.heap.size x (m + 1) gs (fun _ _ => 0) ∧ Below w.heap.size w wr)
  case atStart => exact ⟨[], rfl, by simp, G0.out, B0.out⟩
  case round =>
    obtain ⟨gs, rfl, hk, hg, hb⟩ := hrel
    have K := Lib.hid hk; have G := Lib.hid hg; have B := Lib.hid hb
    obtain ⟨j, hj⟩ : ∃ j, gs.length = j := ⟨_, rfl⟩
    have J := Lib.hid hj
    have hjl : j ≤ n + 1 := by omega
    rw [hj]
    clear hk hg hb hj
    by_cases hlt : j ≤ n
    · have i1 : (j : Int) ≤ (n : Int) := by omega
      have hsz := B.out.size
      obtain ⟨i0, hi0, hz0, hz1, hz2⟩ := info_parts intInfo
      have GL := Lib.hid (fun g hg => Nat.ne_of_lt (G.out.lt g hg))
      go_wp2_with (first
        | (refine wpList_make_full _ rfl _ _ 47 rfl wr.heap.size 3 i0 _ 1 Try.underlying47 hi0 hz0 hz1 .i64 .i64 _ _ (m + 1) rfl rfl rfl rfl (by rw [hz2]; omega) (by unfold maxLen; omega) (Nat.le_refl _) ?_
           intro w1 hown hgr
           have B1 := Lib.hid ((Below.refl wr.heap.size wr).grown hgr (Nat.le_refl _) (fun k hk => by simp at hk))
           have I1 := Lib.hid (made_zero hown)
           clear hown hgr
           have B2 := Lib.hid ((Below.refl w1.heap.size w1).alloc (Nat.le_refl _) (.cells #[rowV (m + 1) wr.heap.size] 47))
           have N2 := Lib.hid (new_one w1 (rowV (m + 1) wr.heap.size) 47)
           have I2 := Lib.hid (I1.out.alloc (.cells #[rowV (m + 1) wr.heap.size] 47)))
        | (at_builtin
           refine gappend rfl _ _ rfl (B := w.heap.size) _ gs (fun _ _ => 0) rfl ((G.out.grow B1.out).grow B2.out) ⟨w1.heap.size, 0, none⟩ wr.heap.size rfl N2.out I2.out hsz (fun hg => GL.out _ hg rfl) (by have := J.out; omega) (by have := B1.out.size; simp; omega) ?_
           intro v8 w8 hown8 hb8
           have G8 := Lib.hid hown8
           have B8 := Lib.hid (B.out.trans ((B1.out.mono hsz).trans ((B2.out.mono (Nat.le_trans hsz B1.out.size)).trans hb8)))
           clear hown8 hb8))
      clear hi0 hz0 hz1 hz2
      go_roundg (gk - 1)
      case measure => have := K.out; have := J.out; omega
      case rel => exact ⟨gs ++ [wr.heap.size], by rw [List.length_append, J.out]; go_num, by have := K.out; have := J.out; simp; omega, G8.out, B8.out⟩
    · have hj : j = n + 1 := by omega
      subst hj
      have F : Hid (Grid wr w.heap.size u7 (m + 1) gs (tf tol (sizes a) (sizes b) n m)) := Lib.hid (G.out.congr fun i k hi hk => by
        have e1 := sizes_length a; have e2 := sizes_length b
        have h1 := HN.out; have h2 := HM.out; have h3 := J.out
        have := tf_start (tol := tol) (s := sizes a) (t := sizes b) (i := i) (k := k) (by omega) (by omega)
        rw [e1, e2, h1, h2] at this; exact this.symm)
      obtain ⟨gv, cv, rfl, hv1, hv2, hv3, _, _, _⟩ := G.out.at (by rw [J.out]; omega)
      rw [J.out] at hv1 F ⊢
      unfold maxLen at hv2
      clear G0 B0
      go_wp2_with fail
      go_loopg [9] n (fun p y wq => y = .int .i64 ((p : Int) - 1) ∧ p ≤ n ∧ Grid wq w.heap.size (.slice (some ⟨gv, 0, none⟩) (n + 1) cv) (m + 1) gs (tf tol (sizes a) (sizes b) p m) ∧ Below w.heap.size w wq)
      case atStart => exact ⟨rfl, Nat.le_refl _, F.out, B.out⟩
      case round =>
        obtain ⟨p, rfl⟩ : ∃ g, g = gk := ⟨_, rfl⟩
        obtain ⟨rfl, hp, hg, hb⟩ := hrel
        have G2 := Lib.hid hg; have B2 := Lib.hid hb
        clear hg hb
        cases p with
        | zero =>
          have ee : ((0 : Nat) : Int) - 1 = -1 := by omega
          rw [ee]
          clear ee
          go_wp2_with fail
          go_ret
          refine ⟨_, gs, rfl, ?_, by rw [J.out, HN.out], B2.out⟩
          rw [HM.out]
          refine G2.out.congr fun i k hi hk => ?_
          unfold tf; rw [if_pos (.inl (Nat.zero_le _))]
        | succ p =>
          have ee : ((p + 1 : Nat) : Int) - 1 = (p : Int) := by omega
          rw [ee]
          clear ee
          go_wp2_with fail
          go_loopg [10] m (fun q y wx => y = .int .i64 ((q : Int) - 1) ∧ q ≤ m ∧ Grid wx w.heap.size (.slice (some ⟨gv, 0, none⟩) (n + 1) cv) (m + 1) gs (tf tol (sizes a) (sizes b) (p + 1) q) ∧ Below w.heap.size w wx)
          case atStart => exact ⟨rfl, Nat.le_refl _, G2.out, B2.out⟩
          case round =>
            obtain ⟨q, rfl⟩ : ∃ g, g = gk := ⟨_, rfl⟩
            obtain ⟨rfl, hq, hg, hb⟩ := hrel
            have G3 := Lib.hid hg; have B3 := Lib.hid hb
            clear hg hb
            cases q with
            | zero =>
              have ee : ((0 : Nat) : Int) - 1 = -1 := by omega
              rw [ee]
              clear ee
              go_wp2_with fail
              go_roundg p
              case measure => omega
              case rel => exact ⟨rfl, by omega, G3.out.congr fun i k hi hk => by
                have e2 := sizes_length b; have h2 := HM.out
                have := tf_next (tol := tol) (s := sizes a) (t := sizes b) (p := p) (i := i) (k := k) (by omega)
                rwa [e2, h2] at this, B3.out⟩
            | succ q =>
              have ee : ((q + 1 : Nat) : Int) - 1 = (q : Int) := by omega
              rw [ee]
              clear ee
              have g0 : p < gs.length := by have := J.out; omega
              have g1 : p + 1 < gs.length := by have := J.out; omega
              obtain ⟨gv', cv', ev, _, _, _, _, atg, _⟩ := G3.out.at (Nat.zero_lt_of_lt g0)
              simp only [Value.slice.injEq, Option.some.injEq, Addr.mk.injEq, and_true] at ev
              obtain ⟨rfl, hcl, rfl⟩ := ev
              clear hcl
              have r0 := atg p g0
              have r1 := atg (p + 1) g1
              have c0 := G3.out.cell p g0 q (by omega)
              have c1 := G3.out.cell (p + 1) g1 q (by omega)
              have c2 := G3.out.cell p g0 (q + 1) (by omega)
              have f0 := G3.out.froz p g0 q
              rw [tf_below] at c1
              rw [tf_right] at c2
              obtain ⟨x1, hx1⟩ : ∃ x, mf tol (sizes a) (sizes b) (p + 1) q = x := ⟨_, rfl⟩
              obtain ⟨x2, hx2⟩ : ∃ x, mf tol (sizes a) (sizes b) p (q + 1) = x := ⟨_, rfl⟩
              rw [hx1] at c1
              rw [hx2] at c2
              obtain ⟨gp, hgp⟩ : ∃ g, gs[p] = g := ⟨_, rfl⟩
              obtain ⟨gq, hgq⟩ : ∃ g, gs[p + 1] = g := ⟨_, rfl⟩
              have GP := Lib.hid hgp; have GQ := Lib.hid hgq
              rw [hgp] at r0 c0 c2 f0
              rw [hgq] at r1 c1
              have X1 := Lib.hid hx1; have X2 := Lib.hid hx2
              clear hgp hgq hx1 hx2 atg
              obtain ⟨p2, hp2⟩ : ∃ x, p + 1 = x := ⟨_, rfl⟩
              obtain ⟨q2, hq2⟩ : ∃ x, q + 1 = x := ⟨_, rfl⟩
              have P2 := Lib.hid hp2; have Q2 := Lib.hid hq2
              have w1 : IntKind.i64.wrap ((p : Int) + 1) = (p2 : Int) := by rw [show (p : Int) + 1 = (p2 : Int) by omega]; exact IntWalk.i64_in _ (by omega)
              have w2 : IntKind.i64.wrap ((q : Int) + 1) = (q2 : Int) := by rw [show (q : Int) + 1 = (q2 : Int) by omega]; exact IntWalk.i64_in _ (by omega)
              have i0 : (0 : Int) ≤ (p : Int) := by omega
              have i1 : (p : Int) < (n : Int) + 1 := by omega
              have i2 : (0 : Int) ≤ (p2 : Int) := by omega
              have i3 : (p2 : Int) < (n : Int) + 1 := by omega
              have i4 : (0 : Int) ≤ (q : Int) := by omega
              have i5 : (q : Int) < (m : Int) + 1 := by omega
              have i6 : (0 : Int) ≤ (q2 : Int) := by omega
              have i7 : (q2 : Int) < (m : Int) + 1 := by omega
              rw [hp2] at r1
              rw [hq2] at c2
              obtain ⟨z0, hz0⟩ : ∃ z, tf tol (sizes a) (sizes b) (p + 1) (q + 1) p q = z := ⟨_, rfl⟩
              rw [hz0] at c0
              clear hp2 hq2 hz0
              go_wp2_with fail
              refine calm_region 23 (fun w' => w'.cell? ⟨gv, p, none⟩ = some (rowV (m + 1) gp) ∧ w'.cell? ⟨gv, p2, none⟩ = some (rowV (m + 1) gq) ∧ w'.cell? ⟨gq, q, none⟩ = some (.int .i64 x1) ∧ w'.cell? ⟨gp, q2, none⟩ = some (.int .i64 x2) ∧ w'.cell? ⟨gp, q, none⟩ = some (.int .i64 z0) ∧ w'.frozen? ⟨gp, q, none⟩ = false) (by kernel_rfl) (by exact ⟨r0, r1, c1, c2, c0, f0⟩) (fun hHeld => ?_)
              refine take_l 0 39 rfl rfl (by kernel_rfl) (by kernel_rfl) (by kernel_rfl) (by kernel_rfl) (fun _ _ _ h => h) (by kernel_rfl) (by intro w hSw; (try dsimp only at hSw); go_simp; try with_reducible rfl) (by assumption) ?_
              refine take_l 1 40 rfl rfl (by kernel_rfl) (by kernel_rfl) (by kernel_rfl) (by kernel_rfl) (fun _ _ _ h => h) (by kernel_rfl) (by intro w hSw; (try dsimp only at hSw); go_simp; try with_reducible rfl) (by assumption) ?_
              refine take_l 2 41 rfl rfl (by kernel_rfl) (by kernel_rfl) (by kernel_rfl) (by kernel_rfl) (fun _ _ _ h => h) (by kernel_rfl) (by intro w hSw; (try dsimp only at hSw); go_simp; try with_reducible rfl) (by assumption) ?_
              refine take_l 3 42 rfl rfl (by kernel_rfl) (by kernel_rfl) (by kernel_rfl) (by kernel_rfl) (fun _ _ _ h => h) (by kernel_rfl) (by intro w hSw; (try dsimp only at hSw); go_simp; try with_reducible rfl) (by assumption) ?_
              refine take_l 4 43 rfl rfl (by kernel_rfl) (by kernel_rfl) (by kernel_rfl) (by kernel_rfl) (fun _ _ _ h => h) (by kernel_rfl) (by intro w hSw; (try dsimp only at hSw); go_simp; try with_reducible rfl) (by assumption) ?_
              refine take_l 5 44 rfl rfl (by kernel_rfl) (by kernel_rfl) (by kernel_rfl) (by kernel_rfl) (fun _ _ _ h => h) (by kernel_rfl) (by intro w hSw; (try dsimp only at hSw); go_simp; try with_reducible rfl) (by assumption) ?_
              refine take_l 6 45 rfl rfl (by kernel_rfl) (by kernel_rfl) (by kernel_rfl) (by kernel_rfl) (fun _ _ _ h => h) (by kernel_rfl) (by intro w hSw; (try dsimp only at hSw); go_simp; try with_reducible rfl) (by assumption) ?_
              refine take_l 7 46 rfl rfl (by kernel_rfl) (by kernel_rfl) (by kernel_rfl) (by kernel_rfl) (fun _ _ _ h => h) (by kernel_rfl) (by intro w hSw; (try dsimp only at hSw); go_simp; try with_reducible rfl) (by assumption) ?_
              refine take_l 8 47 rfl rfl (by kernel_rfl) (by kernel_rfl) (by kernel_rfl) (by kernel_rfl) (fun _ _ _ h => h) (by kernel_rfl) (by intro w hSw; (try dsimp only at hSw); go_simp; try with_reducible rfl) (by assumption) ?_
              refine take_l 9 48 rfl rfl (by kernel_rfl) (by kernel_rfl) (by kernel_rfl) (by kernel_rfl) (fun _ _ _ h => h) (by kernel_rfl) (by intro w hSw; (try dsimp only at hSw); go_simp; try with_reducible rfl) (by assumption) ?_
              refine take_l 10 49 rfl rfl (by kernel_rfl) (by kernel_rfl) (by kernel_rfl) (by kernel_rfl) (fun _ _ _ h => h) (by kernel_rfl) (by intro w hSw; (try dsimp only at hSw); go_simp; try with_reducible rfl) (by assumption) ?_
              refine take_l 11 50 rfl rfl (by kernel_rfl) (by kernel_rfl) (by kernel_rfl) (by kernel_rfl) (fun _ _ _ h => h) (by kernel_rfl) (by intro w hSw; (try dsimp only at hSw); go_simp; try with_reducible rfl) (by assumption) ?_
              refine take_l 12 51 rfl rfl (by kernel_rfl) (by kernel_rfl) (by kernel_rfl) (by kernel_rfl) (fun _ _ _ h => h) (by kernel_rfl) (by intro w hSw; (try dsimp only at hSw); go_simp; try with_reducible rfl) (by assumption) ?_
              refine take_l 13 52 rfl rfl (by kernel_rfl) (by kernel_rfl) (by kernel_rfl) (by kernel_rfl) (fun _ _ _ h => h) (by kernel_rfl) (by intro w hSw; (try dsimp only at hSw); go_simp; try with_reducible rfl) (by assumption) ?_
              refine take_l 14 53 rfl rfl (by kernel_rfl) (by kernel_rfl) (by kernel_rfl) (by kernel_rfl) (fun _ _ _ h => h) (by kernel_rfl) (by intro w hSw; (try dsimp only at hSw); go_simp; try with_reducible rfl) (by assumption) ?_
              refine take_l 15 54 rfl rfl (by kernel_rfl) (by kernel_rfl) (by kernel_rfl) (by kernel_rfl) (fun _ _ _ h => h) (by kernel_rfl) (by intro w hSw; (try dsimp only at hSw); go_simp; try with_reducible rfl) (by assumption) ?_
              refine take_l 16 55 rfl rfl (by kernel_rfl) (by kernel_rfl) (by kernel_rfl) (by kernel_rfl) (fun _ _ _ h => h) (by kernel_rfl) (by intro w hSw; (try dsimp only at hSw); go_simp; try with_reducible rfl) (by assumption) ?_
              refine take_l 17 56 rfl rfl (by kernel_rfl) (by kernel_rfl) (by kernel_rfl) (by kernel_rfl) (fun _ _ _ h => h) (by kernel_rfl) (by intro w hSw; (try dsimp only at hSw); go_simp; try with_reducible rfl) (by assumption) ?_
              refine take_l 18 57 rfl rfl (by kernel_rfl) (by kernel_rfl) (by kernel_rfl) (by kernel_rfl) (fun _ _ _ h => h) (by kernel_rfl) (by intro w hSw; (try dsimp only at hSw); go_simp; try with_reducible rfl) (by assumption) ?_
              refine take_l 19 58 rfl rfl (by kernel_rfl) (by kernel_rfl) (by kernel_rfl) (by kernel_rfl) (fun _ _ _ h => h) (by kernel_rfl) (by intro w hSw; (try dsimp only at hSw); go_simp; try with_reducible rfl) (by assumption) ?_
              refine take_l 20 59 rfl rfl (by kernel_rfl) (by kernel_rfl) (by kernel_rfl) (by kernel_rfl) (fun _ _ _ h => h) (by kernel_rfl) (by intro w hSw; (try dsimp only at hSw); go_simp; try with_reducible rfl) (by assumption) ?_
              refine take_l 21 60 rfl rfl (by kernel_rfl) (by kernel_rfl) (by kernel_rfl) (by kernel_rfl) (fun _ _ _ h => h) (by kernel_rfl) (by intro w hSw; (try dsimp only at hSw); go_simp; try with_reducible rfl) (by assumption) ?_
              refine take_l 22 61 rfl rfl (by kernel_rfl) (by kernel_rfl) (by kernel_rfl) (by kernel_rfl) (fun _ _ _ h => h) (by kernel_rfl) (by intro w hSw; (try dsimp only at hSw); go_simp; try with_reducible rfl) (by assumption) ?_
              refine last_l (by kernel_rfl) rfl (by kernel_rfl) (fun K hK => ?_)
              go_simp
              refine hK.out _ _ ?_
              clear hK K
              try simp only [Exit.then]
              try simp only [Act.put, List.setIfInBounds_toArray, List.set_cons_succ, List.set_cons_zero]
              have gx := (G3.out.set p g0 q (if x1 < x2 then x2 else x1)).grow (Below.refl _ _).drew
              have bx := (G3.out.store p g0 q (.int .i64 (if x1 < x2 then x2 else x1))).drew
              rw [GP.out] at gx bx
              obtain ⟨W4, hW4⟩ : ∃ x, (wr.setCell ⟨gp, q, none⟩ (.int .i64 (if x1 < x2 then x2 else x1))).drew = x := ⟨_, rfl⟩
              obtain ⟨x3, hx3⟩ : ∃ x, (if x1 < x2 then x2 else x1) = x := ⟨_, rfl⟩
              rw [hW4] at gx bx ⊢
              rw [hx3] at gx ⊢
              have X3 : Hid (x3 = max (mf tol (sizes a) (sizes b) (p + 1) q) (mf tol (sizes a) (sizes b) p (q + 1))) := Lib.hid (by
                rw [X1.out, X2.out, ← hx3]
                split <;> omega)
              have G4 := Lib.hid gx
              have B4 := Lib.hid (B3.out.trans bx)
              clear gx bx hW4 hx3 r0 r1 c0 c1 c2 f0 G3 B3
              have pa0 : p < a.length := by have := HN.out; omega
              have pb0 : q < b.length := by have := HM.out; omega
              obtain ⟨ga, oa, rfl, d1, d2⟩ := lies_cell LA.out p pa0
              obtain ⟨gb, ob, rfl, d3, d4⟩ := lies_cell LB.out q pb0
              have f1 := (B4.out.cell (cell_below d1)).trans d1
              have f2 := (B4.out.cell (cell_below d2)).trans d2
              have f3 := (B4.out.cell (cell_below d3)).trans d3
              have f4 := (B4.out.cell (cell_below d4)).trans d4
              have sa := ev_sizes VA.out pa0
              have sb := ev_sizes VB.out pb0
              have SX : Hid ((sizes a)[p]'(by rw [sizes_length]; exact pa0) = a[p].2) := Lib.hid (sizes_get _)
              have SY : Hid ((sizes b)[q]'(by rw [sizes_length]; exact pb0) = b[q].2) := Lib.hid (sizes_get _)
              have i8 : (p : Int) < (n : Int) := by omega
              have i9 : (q : Int) < (m : Int) := by omega
              have MS := Lib.hid (mf_step (tol := tol) (s := sizes a) (t := sizes b) (i := p) (k := q) (by rw [sizes_length]; exact pa0) (by rw [sizes_length]; exact pb0))
              have hs4 := B4.out.size
              clear d1 d2 d3 d4
              have held : ∀ W w' : World, Below W.heap.size W w' → ((W.cell? ⟨ga, oa + p * 2, none⟩ = some (.int .i64 a[p].1) ∧ W.cell? ⟨ga, oa + p * 2 + 1, none⟩ = some (.int .i64 a[p].2) ∧ W.cell? ⟨gb, ob + q * 2, none⟩ = some (.int .i64 b[q].1) ∧ W.cell? ⟨gb, ob + q * 2 + 1, none⟩ = some (.int .i64 b[q].2)) ∧ Below W4.heap.size W4 W) →
                  ((w'.cell? ⟨ga, oa + p * 2, none⟩ = some (.int .i64 a[p].1) ∧ w'.cell? ⟨ga, oa + p * 2 + 1, none⟩ = some (.int .i64 a[p].2) ∧ w'.cell? ⟨gb, ob + q * 2, none⟩ = some (.int .i64 b[q].1) ∧ w'.cell? ⟨gb, ob + q * 2 + 1, none⟩ = some (.int .i64 b[q].2)) ∧ Below W4.heap.size W4 w') :=
                fun W w' k h => ⟨⟨(k.cell (cell_below h.1.1)).trans h.1.1, (k.cell (cell_below h.1.2.1)).trans h.1.2.1, (k.cell (cell_below h.1.2.2.1)).trans h.1.2.2.1, (k.cell (cell_below h.1.2.2.2)).trans h.1.2.2.2⟩, h.2.trans (k.mono h.2.size)⟩
              have keep0 := held _ _ (Below.refl W4.heap.size W4).drew ⟨⟨f1, f2, f3, f4⟩, Below.refl _ _⟩
              have HD := Lib.hid held
              clear held
              cases hy : like tol a[p].2 b[q].2
              · have HY := Lib.hid hy
                have XE : Hid (x3 = mf tol (sizes a) (sizes b) p q) := Lib.hid (by
                  have h1 := mf_nonneg tol (sizes a) (sizes b) (p + 1) q
                  rw [MS.out, SX.out, SY.out, HY.out, X3.out]; simp only [Bool.false_eq_true, if_false]; omega)
                clear hy
                go_wp2_with fail
                go_region_held3 (fun w' => (w'.cell? ⟨ga, oa + p * 2, none⟩ = some (.int .i64 a[p].1) ∧ w'.cell? ⟨ga, oa + p * 2 + 1, none⟩ = some (.int .i64 a[p].2) ∧ w'.cell? ⟨gb, ob + q * 2, none⟩ = some (.int .i64 b[q].1) ∧ w'.cell? ⟨gb, ob + q * 2 + 1, none⟩ = some (.int .i64 b[q].2)) ∧ Below W4.heap.size W4 w')
                  (first | (with_reducible exact keep0) | (with_reducible exact hs1) | assumption)
                  (first | (go_at_call 73; refine (likeS_is (p := a[p]) (q := b[q]) sa sb HY.out _).mono ?_; rintro e w1 ⟨rfl, b1⟩; have hs1 := HD.out _ _ b1 (by assumption)))
                all_goals
                  have G5 := Lib.hid (G4.out.grow hs1.2)
                  have B5 := Lib.hid (B4.out.trans (hs1.2.mono hs4))
                  go_wp2_with fail
                  go_roundg q
                  case measure => omega
                  case rel => exact ⟨by go_num, by omega, G5.out.congr fun i k _ _ => tf_put XE.out i k, B5.out⟩
              · have HY := Lib.hid hy
                have MS2 : Hid (mf tol (sizes a) (sizes b) p q = max (max (mf tol (sizes a) (sizes b) (p + 1) q) (mf tol (sizes a) (sizes b) p (q + 1))) (mf tol (sizes a) (sizes b) (p + 1) (q + 1) + 1)) := Lib.hid (by
                  rw [MS.out, SX.out, SY.out, HY.out, if_pos rfl])
                clear hy
                go_wp2_with fail
                go_region_held3 (fun w' => (w'.cell? ⟨ga, oa + p * 2, none⟩ = some (.int .i64 a[p].1) ∧ w'.cell? ⟨ga, oa + p * 2 + 1, none⟩ = some (.int .i64 a[p].2) ∧ w'.cell? ⟨gb, ob + q * 2, none⟩ = some (.int .i64 b[q].1) ∧ w'.cell? ⟨gb, ob + q * 2 + 1, none⟩ = some (.int .i64 b[q].2)) ∧ Below W4.heap.size W4 w')
                  (first | (with_reducible exact keep0) | (with_reducible exact hs1) | assumption)
                  (first | (go_at_call 73; refine (likeS_is (p := a[p]) (q := b[q]) sa sb HY.out _).mono ?_; rintro e w1 ⟨rfl, b1⟩; have hs1 := HD.out _ _ b1 (by assumption)))
                all_goals
                  have G5 := Lib.hid (G4.out.grow hs1.2)
                  have B5 := Lib.hid (B4.out.trans (hs1.2.mono hs4))
                  obtain ⟨gv', cv', ev, _, _, _, _, atg, _⟩ := G5.out.at (Nat.zero_lt_of_lt g0)
                  simp only [Value.slice.injEq, Option.some.injEq, Addr.mk.injEq, and_true] at ev
                  obtain ⟨rfl, hcl, rfl⟩ := ev
                  clear hcl
                  have r0 := atg p g0
                  have r1 := atg (p + 1) g1
                  have c0 := G5.out.cell p g0 q (by omega)
                  have c1 := G5.out.cell (p + 1) g1 (q + 1) (by omega)
                  have f0 := G5.out.froz p g0 q
                  rw [if_pos ⟨rfl, rfl⟩] at c0
                  rw [if_neg (by omega), tf_below] at c1
                  have y1 := mf_nonneg tol (sizes a) (sizes b) (p + 1) (q + 1)
                  have y2 := mf_le tol (sizes a) (sizes b) (p + 1) (q + 1)
                  rw [sizes_length, HN.out] at y2
                  obtain ⟨x5, hx5⟩ : ∃ x, mf tol (sizes a) (sizes b) (p + 1) (q + 1) = x := ⟨_, rfl⟩
                  rw [hx5] at c1 y1 y2
                  have X5 := Lib.hid hx5
                  rw [GP.out] at r0 c0 f0
                  rw [GQ.out] at r1 c1
                  rw [P2.out] at r1
                  rw [Q2.out] at c1
                  clear hx5 atg
                  have w3 : IntKind.i64.wrap (x5 + 1) = x5 + 1 := IntWalk.i64_in _ (by omega)
                  go_wp2_with fail
                  refine calm_region 24 (fun w' => w'.cell? ⟨gv, p, none⟩ = some (rowV (m + 1) gp) ∧ w'.cell? ⟨gv, p2, none⟩ = some (rowV (m + 1) gq) ∧ w'.cell? ⟨gq, q2, none⟩ = some (.int .i64 x5) ∧ w'.cell? ⟨gp, q, none⟩ = some (.int .i64 x3) ∧ w'.frozen? ⟨gp, q, none⟩ = false) (by kernel_rfl) (by exact ⟨r0, r1, c1, c0, f0⟩) (fun hHeld => ?_)
                  refine take_l 0 72 rfl rfl (by kernel_rfl) (by kernel_rfl) (by kernel_rfl) (by kernel_rfl) (fun _ _ _ h => h) (by kernel_rfl) (by intro w hSw; (try dsimp only at hSw); go_simp; try with_reducible rfl) (by assumption) ?_
                  refine take_l 1 73 rfl rfl (by kernel_rfl) (by kernel_rfl) (by kernel_rfl) (by kernel_rfl) (fun _ _ _ h => h) (by kernel_rfl) (by intro w hSw; (try dsimp only at hSw); go_simp; try with_reducible rfl) (by assumption) ?_
                  refine take_l 2 74 rfl rfl (by kernel_rfl) (by kernel_rfl) (by kernel_rfl) (by kernel_rfl) (fun _ _ _ h => h) (by kernel_rfl) (by intro w hSw; (try dsimp only at hSw); go_simp; try with_reducible rfl) (by assumption) ?_
                  refine take_l 3 75 rfl rfl (by kernel_rfl) (by kernel_rfl) (by kernel_rfl) (by kernel_rfl) (fun _ _ _ h => h) (by kernel_rfl) (by intro w hSw; (try dsimp only at hSw); go_simp; try with_reducible rfl) (by assumption) ?_
                  refine take_l 4 76 rfl rfl (by kernel_rfl) (by kernel_rfl) (by kernel_rfl) (by kernel_rfl) (fun _ _ _ h => h) (by kernel_rfl) (by intro w hSw; (try dsimp only at hSw); go_simp; try with_reducible rfl) (by assumption) ?_
                  refine take_l 5 77 rfl rfl (by kernel_rfl) (by kernel_rfl) (by kernel_rfl) (by kernel_rfl) (fun _ _ _ h => h) (by kernel_rfl) (by intro w hSw; (try dsimp only at hSw); go_simp; try with_reducible rfl) (by assumption) ?_
                  refine take_l 6 78 rfl rfl (by kernel_rfl) (by kernel_rfl) (by kernel_rfl) (by kernel_rfl) (fun _ _ _ h => h) (by kernel_rfl) (by intro w hSw; (try dsimp only at hSw); go_simp; try with_reducible rfl) (by assumption) ?_
                  refine take_l 7 79 rfl rfl (by kernel_rfl) (by kernel_rfl) (by kernel_rfl) (by kernel_rfl) (fun _ _ _ h => h) (by kernel_rfl) (by intro w hSw; (try dsimp only at hSw); go_simp; try with_reducible rfl) (by assumption) ?_
                  refine take_l 8 80 rfl rfl (by kernel_rfl) (by kernel_rfl) (by kernel_rfl) (by kernel_rfl) (fun _ _ _ h => h) (by kernel_rfl) (by intro w hSw; (try dsimp only at hSw); go_simp; try with_reducible rfl) (by assumption) ?_
                  refine take_l 9 81 rfl rfl (by kernel_rfl) (by kernel_rfl) (by kernel_rfl) (by kernel_rfl) (fun _ _ _ h => h) (by kernel_rfl) (by intro w hSw; (try dsimp only at hSw); go_simp; try with_reducible rfl) (by assumption) ?_
                  refine take_l 10 82 rfl rfl (by kernel_rfl) (by kernel_rfl) (by kernel_rfl) (by kernel_rfl) (fun _ _ _ h => h) (by kernel_rfl) (by intro w hSw; (try dsimp only at hSw); go_simp; try with_reducible rfl) (by assumption) ?_
                  refine take_l 11 83 rfl rfl (by kernel_rfl) (by kernel_rfl) (by kernel_rfl) (by kernel_rfl) (fun _ _ _ h => h) (by kernel_rfl) (by intro w hSw; (try dsimp only at hSw); go_simp; try with_reducible rfl) (by assumption) ?_
                  refine take_l 12 84 rfl rfl (by kernel_rfl) (by kernel_rfl) (by kernel_rfl) (by kernel_rfl) (fun _ _ _ h => h) (by kernel_rfl) (by intro w hSw; (try dsimp only at hSw); go_simp; try with_reducible rfl) (by assumption) ?_
                  refine take_l 13 85 rfl rfl (by kernel_rfl) (by kernel_rfl) (by kernel_rfl) (by kernel_rfl) (fun _ _ _ h => h) (by kernel_rfl) (by intro w hSw; (try dsimp only at hSw); go_simp; try with_reducible rfl) (by assumption) ?_
                  refine take_l 14 86 rfl rfl (by kernel_rfl) (by kernel_rfl) (by kernel_rfl) (by kernel_rfl) (fun _ _ _ h => h) (by kernel_rfl) (by intro w hSw; (try dsimp only at hSw); go_simp; try with_reducible rfl) (by assumption) ?_
                  refine take_l 15 87 rfl rfl (by kernel_rfl) (by kernel_rfl) (by kernel_rfl) (by kernel_rfl) (fun _ _ _ h => h) (by kernel_rfl) (by intro w hSw; (try dsimp only at hSw); go_simp; try with_reducible rfl) (by assumption) ?_
                  refine take_l 16 88 rfl rfl (by kernel_rfl) (by kernel_rfl) (by kernel_rfl) (by kernel_rfl) (fun _ _ _ h => h) (by kernel_rfl) (by intro w hSw; (try dsimp only at hSw); go_simp; try with_reducible rfl) (by assumption) ?_
                  refine take_l 17 89 rfl rfl (by kernel_rfl) (by kernel_rfl) (by kernel_rfl) (by kernel_rfl) (fun _ _ _ h => h) (by kernel_rfl) (by intro w hSw; (try dsimp only at hSw); go_simp; try with_reducible rfl) (by assumption) ?_
                  refine take_l 18 90 rfl rfl (by kernel_rfl) (by kernel_rfl) (by kernel_rfl) (by kernel_rfl) (fun _ _ _ h => h) (by kernel_rfl) (by intro w hSw; (try dsimp only at hSw); go_simp; try with_reducible rfl) (by assumption) ?_
                  refine take_l 19 91 rfl rfl (by kernel_rfl) (by kernel_rfl) (by kernel_rfl) (by kernel_rfl) (fun _ _ _ h => h) (by kernel_rfl) (by intro w hSw; (try dsimp only at hSw); go_simp; try with_reducible rfl) (by assumption) ?_
                  refine take_l 20 92 rfl rfl (by kernel_rfl) (by kernel_rfl) (by kernel_rfl) (by kernel_rfl) (fun _ _ _ h => h) (by kernel_rfl) (by intro w hSw; (try dsimp only at hSw); go_simp; try with_reducible rfl) (by assumption) ?_
                  refine take_l 21 93 rfl rfl (by kernel_rfl) (by kernel_rfl) (by kernel_rfl) (by kernel_rfl) (fun _ _ _ h => h) (by kernel_rfl) (by intro w hSw; (try dsimp only at hSw); go_simp; try with_reducible rfl) (by assumption) ?_
                  refine take_l 22 94 rfl rfl (by kernel_rfl) (by kernel_rfl) (by kernel_rfl) (by kernel_rfl) (fun _ _ _ h => h) (by kernel_rfl) (by intro w hSw; (try dsimp only at hSw); go_simp; try with_reducible rfl) (by assumption) ?_
                  refine take_l 23 95 rfl rfl (by kernel_rfl) (by kernel_rfl) (by kernel_rfl) (by kernel_rfl) (fun _ _ _ h => h) (by kernel_rfl) (by intro w hSw; (try dsimp only at hSw); go_simp; try with_reducible rfl) (by assumption) ?_
                  refine last_l (by kernel_rfl) rfl (by kernel_rfl) (fun K hK => ?_)
                  go_simp
                  refine hK.out _ _ ?_
                  clear hK K
                  try simp only [Exit.then]
                  try simp only [Act.put, List.setIfInBounds_toArray, List.set_cons_succ, List.set_cons_zero]
                  have gx := (G5.out.set p g0 q (if x3 < x5 + 1 then x5 + 1 else x3)).grow (Below.refl _ _).drew
                  have bx := (G5.out.store p g0 q (.int .i64 (if x3 < x5 + 1 then x5 + 1 else x3))).drew
                  rw [GP.out] at gx bx
                  obtain ⟨x6, hx6⟩ : ∃ x, (if x3 < x5 + 1 then x5 + 1 else x3) = x := ⟨_, rfl⟩
                  rw [hx6] at gx bx ⊢
                  have XE : Hid (x6 = mf tol (sizes a) (sizes b) p q) := Lib.hid (by
                    rw [MS2.out, ← X3.out, X5.out, ← hx6]
                    split <;> omega)
                  have G6 := Lib.hid gx
                  have B6 := Lib.hid (B5.out.trans bx)
                  clear gx bx hx6
                  go_wp2_with fail
                  go_roundg q
                  case measure => omega
                  case rel => exact ⟨by go_num, by omega, G6.out.congr fun i k _ _ => tf_put2 XE.out i k, B6.out⟩
end Go.Proofs.Ythhdpjkmjebjhab
