/- What the walk of the law that some of the events are events names besides: appends under '&&' at the steps of a region that draws its order. -/
import Derived.Test.YtmibipnkjpkngaaLawE3
namespace Go.Proofs.Ytmibipnkjpkngaa
open Go.RowKit

theorem step_append_list_g {T S : TypeId} (PT : PairT T S) {w : World} {ops : Array Oper} {o : Oper} {a : Act} {K : Act → World → Prop} {Q : Exit → Act → World → Prop} {E : Prop} (hw : Region.wanted o (yielded ops a.tmps) = true) (s x : Operand)
    (ho : o.op = .call { callee := .builtin .append, args := #[s, x], argTypes := #[S, S] }) {B : Nat} (v : Value) (m : List Pc) (hs : a.eval s = v) (hown : Own T w B v m)
    (ad : Addr) (n c : Nat) (ms : List Pc) (hx : a.eval x = .slice (some ad) n c) (hn : ms.length = n) (hnews : ∀ j u, (cells2 ms)[j]? = some u → w.cell? (ad.add j) = some u) (hm : m.length + n ≤ 1100000) (hB : B ≤ w.heap.size)
    (h : ∀ v' w', Own T w' B v' (m ++ ms) → w.grownBy w' v.ownBlock → K (a.put o.dst v') w') : if Region.wanted o (yielded ops a.tmps) = true then Oper.wp Try.prog o a w K Q else E := by
  obtain ⟨i0, hi, hz0, hz1, hz2⟩ := info_parts PT.info
  rw [if_pos hw]
  refine wp_append_own w s x S ho B T i0 (.agg #[.int .i64 0, .int .i64 0]) 2 16 PT.slice hi hz0 hz1 hz2 rfl (by decide) v m.length (cells2 m) hs hown
    ad n c (cells2 ms) hx (by rw [cells2_length, hn]) hnews (cells2_one ms) (by unfold maxLen; omega) (by omega) hB ?_
  intro v' w' h2 h3 _
  refine h v' w' ?_ h3
  show w'.ownsRow B _ 2 v' (m ++ ms).length (cells2 (m ++ ms))
  rw [cells2_append, List.length_append, hn]
  exact h2
/-- The cells of a list that lay there at W. -/
def Rests2 (W : World) (ad : Addr) (l : List Pc) : Prop := ∀ j u, (cells2 l)[j]? = some u → W.cell? (ad.add j) = some u
theorem Rests2.grow {W w' : World} {ad : Addr} {l : List Pc} (h : Rests2 W ad l) (k : Below W.heap.size W w') : Rests2 w' ad l := fun j u hu => (k.cell (cell_below (h j u hu))).trans (h j u hu)
theorem rests2_own {T : TypeId} {w : World} {B g c : Nat} {l : List Pc} (h : Own T w B (.slice (some ⟨g, 0, none⟩) l.length c) l) : Rests2 w ⟨g, 0, none⟩ l := fun _ _ hj => World.ownsRow.cells h rfl _ _ hj
theorem rests2_one {w : World} {b : Nat} {x y : Int} (h0 : w.cell? ⟨b, 0, none⟩ = some (.int .i64 x)) (h1 : w.cell? ⟨b, 1, none⟩ = some (.int .i64 y)) : Rests2 w ⟨b, 0, none⟩ [(x, y)] := fun j u hu => by
  rw [Addr.add_lit, Nat.zero_add]
  match j, hu with
  | 0, hu => cases hu; exact h0
  | 1, hu => cases hu; exact h1
/-- What an append needs of the slice that an empty literal has made, whatever is made behind it. -/
theorem own_empty {T : TypeId} {W w' : World} {b : Nat} (h : w'.heap[b]? = some (.cells #[] T (0, 0))) (hb : W.heap.size ≤ b) : Own T w' W.heap.size (.slice (some ⟨b, 0, none⟩) 0 0) [] :=
  ⟨rfl, .inr ⟨b, 0, #[], rfl, hb, h, Nat.le_refl _, Nat.zero_le _, rfl, rfl⟩⟩
theorem first_block (w : World) (A B : Obj) : ((w.alloc A).alloc B).heap[w.heap.size]? = some A := heap_alloc2_old w A B
theorem second_block (w : World) (A B : Obj) : ((w.alloc A).alloc B).heap[w.heap.size + 1]? = some B := heap_alloc2_new w A B
def DrewEvO (w : World) (e : Ending) (w' : World) : Prop := ∃ v l, e = .returned v ∧ Own 27 w' w.heap.size v l ∧ Bd 100000 6 l ∧ Below w.heap.size w w'
set_option maxHeartbeats 1600000 in
theorem DrawEventsValidO_any {w : World} {a : Option Addr} {len cap : Nat} (h : Bytes w a len cap) :
    Calls Try.prog 12 #[.slice a len cap] w fun e w' => DrewEvO w e w' := by
  go_enter Try.func12, Try.ntmps12
  go_wp2_with fail
  refine (open_any h).mono ?_
  rintro e w1 ⟨rfl, a1, b1, s1⟩
  go_wp2_with fail
  refine (l92Events_any a1 (by omega)).mono ?_
  rintro e w2 ⟨v, l, rfl, o1, d1, a2, k2⟩
  have A2 := Lib.hid a2; have K2 := Lib.hid k2; have O2 := Lib.hid o1; have D2 := Lib.hid d1; have B1 := Lib.hid b1
  have hl6 := d1.1
  obtain ⟨pl, cl, rfl, cl1, cl2⟩ := o1.row.len
  unfold maxLen at cl2
  clear o1 d1 a2 k2 b1
  by_cases h1 : (l.length : Int) > 1
  · have h1' : (1 : Int) < (l.length : Int) := h1
    go_wp2_with fail
    refine (pick_at 6 A2.out (by omega)).mono ?_
    rintro e w3 ⟨q, rfl, p3, q3, _, a3, k3⟩
    replace q3 := q3 (by decide)
    have K3 := Lib.hid (K2.out.trans k3); have O3 := Lib.hid (O2.out.keep k3 (by omega))
    have hs3 := K3.out.size
    clear a3 k3
    by_cases z : q = 0
    · subst z
      obtain ⟨g, cap, hu, hcap, hcapm, hBg, hgw, hp⟩ := O3.out.at (by omega)
      simp only [Value.slice.injEq] at hu
      obtain ⟨rfl, _, rfl⟩ := hu
      have t0 := (hp 0 (by omega)).top
      have f0 := (hp 0 (by omega)).f0
      have t1 := (hp 1 (by omega)).top
      have S0 := (hp 0 (by omega)).setTop l[1].1
      simp only [Nat.zero_mul, Nat.one_mul] at t0 f0 t1 S0
      have S1 := Lib.hid S0
      have b0 := D2.out.get 0 (by omega)
      have b1 := D2.out.get 1 (by omega)
      have i0 : (0 : Int) < (l.length : Int) := by omega
      clear hp S0
      go_wp2_with fail
      go_ret
      exact ⟨_, l.set 0 (l[1].1, l[0].2), rfl, S1.out.mono (by omega), (D2.out.set 0 (l[1].1, l[0].2) ⟨b1.1, b0.2⟩), ((K3.out.grow ((Below.refl _ _).setCell (p := ⟨g, 0, none⟩) hBg (.int .i64 l[1].1))).below B1.out (Nat.le_refl _) (by omega))⟩
    · have e0 : (q == 0) = false := by simpa using z
      clear z
      go_wp2_with fail
      go_ret
      exact ⟨_, l, rfl, O3.out.mono (by omega), D2.out, K3.out.below B1.out (Nat.le_refl _) (by omega)⟩
  · have h1' : ¬ (1 : Int) < (l.length : Int) := h1
    go_wp2_with fail
    go_ret
    exact ⟨_, l, rfl, O2.out.mono (by omega), D2.out, K2.out.below B1.out (Nat.le_refl _) (by omega)⟩
end Go.Proofs.Ytmibipnkjpkngaa
