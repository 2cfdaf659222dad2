/- The contracts of the links' methods that make or turn memory. -/
import Derived.Test.YtdljfikgmhdedaaOwn
namespace Go.Proofs.Ytdljfikgmhdedaa
open Go.RowKit

set_option maxHeartbeats 400000 in
theorem pieces_any {w : World} {B : Nat} {bs : List Nat} {l : List Pc} (h : Chain w B bs l) (hl : l.length ≤ 1000) :
    Calls Try.prog 44 #[ptrOf bs] w fun e w' => ∃ v, e = .returned v ∧ Own w' w.heap.size v l ∧ Below w.heap.size w w' := by
  go_enter Try.func44, Try.ntmps44
  go_wp2
  go_loopg [0, 3] l.length (fun k v o wr => ∃ (cs : List Nat) (r m : List Pc), v = ptrOf cs ∧ r.length = k ∧ l = m ++ r ∧ Chain w B cs r ∧ Own wr w.heap.size o m ∧ Below w.heap.size w wr)
  case atStart => exact ⟨bs, l, [], rfl, rfl, rfl, h, World.ownsRow_made _ _ 0 (Nat.le_refl _) (by unfold maxLen; omega) rfl, (Below.refl _ _).alloc (Nat.le_refl _) _⟩
  case round =>
    obtain ⟨cs, r, m, rfl, hk, hlm, hc, hown, hbel⟩ := hrel
    have A : Aside (l = m ++ r ∧ Below w.heap.size w wr) := ⟨hlm, hbel⟩
    have hml : m.length + r.length = l.length := by rw [hlm]; simp
    have hsz := hbel.size
    cases r with
    | nil =>
      obtain rfl := hc.nil
      have A2 : Aside (Own wr w.heap.size u3 m) := hown
      clear hlm hbel hown hk hml hc
      simp only [ptrOf, adr]
      go_wp2
      go_ret
      obtain ⟨hlm, hbel⟩ := A.out
      exact ⟨u3, rfl, by rw [hlm, List.append_nil]; exact A2.out, hbel⟩
    | cons p r =>
      obtain ⟨c, cs, rfl, _, _, hn, hc'⟩ := hc.cons
      have hcl := hn.lt
      obtain ⟨g1, g2, g3, _, _⟩ := hn.same (hbel.block c hcl)
      simp only [List.length_cons] at hk hml
      have hk' : r.length < gk := by omega
      have hm1 : m.length ≤ 999 := by omega
      have A2 : Aside (Chain w B cs r) := hc'
      have A3 : Aside (Own wr w.heap.size u3 m) := hown
      have hcw : c < wr.heap.size := by omega
      clear hlm hbel hown hk hml hc hc'
      simp only [ptrOf, adr]
      obtain ⟨n1, n2⟩ := new_two wr (.int .i64 p.1) (.int .i64 p.2) 27
      have A6 := Lib.hid hn
      have A4 := Lib.hid n1; have A5 := Lib.hid n2
      clear n1 n2 hn
      go_wp2_with (at_builtin; refine append_piece rfl _ _ rfl _ m rfl (A3.out.grow ((Below.refl _ _).alloc (Nat.le_refl _) _)) ⟨wr.heap.size, 0, none⟩ p rfl A4.out A5.out (by omega) (by simp; omega) ?_; intro v' w1 hown' hg; have A7 := Lib.hid ((A.out.2.alloc hsz _).trans ((A3.out.grow ((Below.refl _ _).alloc (Nat.le_refl _) _)).below hg (by simp; omega))); have A8 := Lib.hid hown'; have g4 := (A6.out.same (A7.out.block c hcl)).nxt; clear hown' hg)
      go_roundg r.length
      case measure => exact hk'
      case rel => exact ⟨cs, r, m ++ [p], rfl, rfl, by rw [A.out.1]; simp, A2.out, A8.out, A7.out⟩
/-- All that was there stays, but for block b. -/
structure But (b : Nat) (w w' : World) : Prop where
  os : w'.os = w.os
  tape : w'.tape = w.tape
  output : w'.output = w.output
  size : w.heap.size ≤ w'.heap.size
  block : ∀ k, k < w.heap.size → k ≠ b → w'.heap[k]? = w.heap[k]?
theorem But.refl (b : Nat) (w : World) : But b w w := ⟨rfl, rfl, rfl, Nat.le_refl _, fun _ _ _ => rfl⟩
theorem But.set (b o : Nat) (u : Value) (w : World) : But b w (w.setCell ⟨b, o, none⟩ u) := ⟨rfl, rfl, rfl, by simp [World.setCell], fun k _ hk => Below.heap_setCell _ _ _ _ hk⟩
theorem But.trans {b : Nat} {x y z : World} (h : But b x y) (k : But b y z) : But b x z :=
  ⟨k.os.trans h.os, k.tape.trans h.tape, k.output.trans h.output, Nat.le_trans h.size k.size,
    fun i hi hb => (k.block i (Nat.lt_of_lt_of_le hi h.size) hb).trans (h.block i hi hb)⟩
theorem But.grow {b : Nat} {x y : World} (h : Below x.heap.size x y) : But b x y := ⟨h.os, h.tape, h.output, h.size, fun i hi _ => h.block i hi⟩
/-- Behind a call that made block b itself. -/
theorem But.below {B b : Nat} {w w1 w' : World} (h : Below B w w1) (k : But b w1 w') (hB : B ≤ b) (hs : B ≤ w1.heap.size) : Below B w w' :=
  h.trans ⟨k.os, k.tape, k.output, k.size, fun i hi => k.block i (by omega) (by omega)⟩

theorem set_bot {w : World} {b : Nat} {p : Pc} {v : Value} (h : Nd w b p v) (d : Int) : Nd (w.setCell ⟨b, 1, none⟩ (.int .i64 d)) b (p.1, d) v :=
  ⟨(World.cell?_setCell_other _ _ _ _ (by simp)).trans h.top, World.cell?_setCell_same _ _ _ h.bot, (World.cell?_setCell_other _ _ _ _ (by simp)).trans h.nxt,
   (World.frozen?_setCell ..).trans h.f1, (World.frozen?_setCell ..).trans h.f2⟩
theorem set_nxt {w : World} {b : Nat} {p : Pc} {v : Value} (h : Nd w b p v) (u : Value) : Nd (w.setCell ⟨b, 2, none⟩ u) b p u :=
  ⟨(World.cell?_setCell_other _ _ _ _ (by simp)).trans h.top, (World.cell?_setCell_other _ _ _ _ (by simp)).trans h.bot, World.cell?_setCell_same _ _ _ h.nxt,
   (World.frozen?_setCell ..).trans h.f1, (World.frozen?_setCell ..).trans h.f2⟩

theorem joinBelow_any {w : World} {b c : Nat} {p q : Pc} {x : Option Addr} (h : Nd w b p (.pointer (some ⟨c, 0, none⟩))) (g : Nd w c q (.pointer x)) :
    Calls Try.prog 43 #[.pointer (some ⟨b, 0, none⟩)] w fun e w' => e = .returned (.tuple #[]) ∧ Nd w' b (p.1, q.2) (.pointer x) ∧ But b w w' := by
  have k := set_nxt (set_bot h q.2) (.pointer x)
  have kb := (But.set b 1 (.int .i64 q.2) w).trans (But.set b 2 (.pointer x) _)
  obtain ⟨h1, h2, h3, h4, h5⟩ := h
  obtain ⟨g1, g2, g3, g4, g5⟩ := g
  have K := Lib.hid k; have KB := Lib.hid kb
  clear k kb
  go_enter Try.func43, Try.ntmps43
  go_wp2
  go_returns
  exact ⟨rfl, K.out, KB.out⟩
theorem Nd.alloc {w : World} {b : Nat} {p : Pc} {v : Value} (h : Nd w b p v) (o : Obj) : Nd (w.alloc o) b p v := h.same (Below.heap_alloc w o b h.lt)
theorem nd_new (w : World) (p : Pc) (v : Value) (t : TypeId) : Nd (w.alloc (.cells #[.int .i64 p.1, .int .i64 p.2, v] t)) w.heap.size p v :=
  ⟨by simp, by simp, by simp, by simp, by simp⟩

theorem cutAt_any {w : World} {b : Nat} {p : Pc} {x : Option Addr} (d : Int) (h : Nd w b p (.pointer x)) :
    Calls Try.prog 45 #[.pointer (some ⟨b, 0, none⟩), .int .i64 d] w fun e w' =>
      e = .returned (.tuple #[]) ∧ Nd w' b (p.1, d) (.pointer (some ⟨w.heap.size, 0, none⟩)) ∧ Nd w' w.heap.size (d, p.2) (.pointer x) ∧ But b w w' := by
  have K := Lib.hid h
  obtain ⟨h1, h2, h3, h4, h5⟩ := h
  have hb := cell_below h1
  go_enter Try.func45, Try.ntmps45
  go_wp2
  go_region
  all_goals (try go_wp2)
  all_goals go_returns
  all_goals
    have k1 := (set_bot (set_nxt K.out (.pointer (some ⟨w.heap.size, 0, none⟩))) d).alloc (.cells #[.int .i64 d, .int .i64 p.2, .pointer x] 52)
    have k2 := nd_new ((w.setCell ⟨b, 2, none⟩ (.pointer (some ⟨w.heap.size, 0, none⟩))).setCell ⟨b, 1, none⟩ (.int .i64 d)) (d, p.2) (.pointer x) 52
    rw [World.size_setCell, World.size_setCell] at k2
    refine ⟨rfl, k1.same rfl, k2.same rfl, ?_⟩
    have k3 := ((But.set b 2 (.pointer (some ⟨w.heap.size, 0, none⟩)) w).trans (But.set b 1 (.int .i64 d) _)).trans (But.grow ((Below.refl _ _).alloc (Nat.le_refl _) (.cells #[.int .i64 d, .int .i64 p.2, .pointer x] 52)))
    exact ⟨k3.os, k3.tape, k3.output, k3.size, k3.block⟩
theorem Chain.mid {w : World} {B : Nat} {ms : List Nat} {m : List Pc} {cs : List Nat} {r : List Pc} (hl : ms.length = m.length) (h : Chain w B (ms ++ cs) (m ++ r)) :
    Chain w B cs r ∧ (∀ b ∈ ms, b ∉ cs) := by
  induction ms generalizing m with
  | nil =>
    obtain rfl : m = [] := List.eq_nil_of_length_eq_zero (by simpa using hl.symm)
    exact ⟨h, fun b hb => by simp at hb⟩
  | cons a ms ih =>
    cases m with
    | nil => simp at hl
    | cons p m =>
      obtain ⟨_, _, e, h1, h2, h3, h4⟩ := h
      simp only [List.cons_append, List.cons.injEq] at e
      obtain ⟨rfl, rfl⟩ := e
      obtain ⟨k1, k2⟩ := ih (by simpa using hl) h4
      refine ⟨k1, fun b hb => ?_⟩
      rcases List.mem_cons.1 hb with rfl | hb
      · exact fun hm => h2 (List.mem_append_right _ hm)
      · exact k2 b hb
theorem join_chain {w w' : World} {B b c : Nat} {ms : List Nat} {m : List Pc} {cs : List Nat} {p q : Pc} {r : List Pc} (hl : ms.length = m.length) (h : Chain w B (ms ++ b :: c :: cs) (m ++ p :: q :: r))
    (k : But b w w') (hn : Nd w' b (p.1, q.2) (ptrOf cs)) : Chain w' B (ms ++ b :: cs) (m ++ (p.1, q.2) :: r) := by
  induction ms generalizing m with
  | nil =>
    obtain rfl : m = [] := List.eq_nil_of_length_eq_zero (by simpa using hl.symm)
    obtain ⟨_, _, e, h1, h2, _, h4⟩ := h
    simp only [List.nil_append, List.cons.injEq] at e
    obtain ⟨rfl, rfl⟩ := e
    obtain ⟨_, _, e, g1, g2, _, g4⟩ := h4
    simp only [List.cons.injEq] at e
    obtain ⟨rfl, rfl⟩ := e
    refine ⟨_, _, rfl, h1, fun hm => h2 (List.mem_cons_of_mem _ hm), hn, g4.same fun a ha => k.block a (g4.lt a ha).2 fun e => ?_⟩
    subst e
    exact h2 (List.mem_cons_of_mem _ ha)
  | cons a ms ih =>
    cases m with
    | nil => simp at hl
    | cons p0 m =>
      obtain ⟨_, _, e, h1, h2, h3, h4⟩ := h
      simp only [List.cons_append, List.cons.injEq] at e
      obtain ⟨rfl, rfl⟩ := e
      have hab : a ≠ b := fun e => h2 (by subst e; simp)
      have h3' := h3.same (k.block a h3.lt hab)
      refine ⟨_, _, rfl, h1, ?_, ?_, ih (by simpa using hl) h4⟩
      · intro hm
        apply h2
        rcases List.mem_append.1 hm with hm | hm
        · exact List.mem_append_left _ hm
        · rcases List.mem_cons.1 hm with rfl | hm
          · exact absurd rfl hab
          · exact List.mem_append_right _ (List.mem_cons_of_mem _ (List.mem_cons_of_mem _ hm))
      · have e : adr (ms ++ b :: cs) = adr (ms ++ b :: c :: cs) := by cases ms <;> rfl
        show Nd w' a p0 (.pointer (adr (ms ++ b :: cs)))
        rw [e]; exact h3'
/-- Where a list is cut: the link is found, and behind the cut the links hold the list that is cut. -/
theorem cut_chain {w : World} {B : Nat} {d : Int} {l m : List Pc} (hc : ct d l = some m) : ∀ {bs : List Nat}, Chain w B bs l →
    ∃ b p cs pre, bs = pre ++ b :: cs ∧ sfx d l bs = b :: cs ∧ Nd w b p (ptrOf cs) ∧ p.1 ≠ d ∧
      ∀ w', But b w w' → Nd w' b (p.1, d) (.pointer (some ⟨w.heap.size, 0, none⟩)) → Nd w' w.heap.size (d, p.2) (ptrOf cs) → Chain w' B (pre ++ b :: w.heap.size :: cs) m := by
  refine ct_ind (P := fun l m => ∀ {bs : List Nat}, Chain w B bs l → ∃ b p cs pre, bs = pre ++ b :: cs ∧ sfx d l bs = b :: cs ∧ Nd w b p (ptrOf cs) ∧ p.1 ≠ d ∧
      ∀ w', But b w w' → Nd w' b (p.1, d) (.pointer (some ⟨w.heap.size, 0, none⟩)) → Nd w' w.heap.size (d, p.2) (ptrOf cs) → Chain w' B (pre ++ b :: w.heap.size :: cs) m) ?_ ?_ hc
  · intro p l h1 h2 bs h
    obtain ⟨b, cs, rfl, g1, g2, g3, g4⟩ := h.cons
    refine ⟨b, p, cs, [], rfl, by simp only [sfx]; rw [if_pos (by omega)], g3, by omega, fun w' k n1 n2 => ?_⟩
    have hb := g3.lt
    refine ⟨_, _, rfl, g1, ?_, n1, _, _, rfl, by omega, ?_, n2, g4.same fun a ha => k.block a (g4.lt a ha).2 fun e => by subst e; exact g2 ha⟩
    · intro hm
      rcases List.mem_cons.1 hm with e | hm
      · omega
      · exact g2 hm
    · intro hm; have := (g4.lt _ hm).2; omega
  · intro p l m hp _ ih bs h
    obtain ⟨b, cs, rfl, g1, g2, g3, g4⟩ := h.cons
    obtain ⟨b', p', cs', pre, rfl, e2, e3, e4, e5⟩ := ih g4
    refine ⟨b', p', cs', b :: pre, rfl, by simp only [sfx]; rw [if_neg hp, e2], e3, e4, fun w' k n1 n2 => ?_⟩
    have hb := g3.lt
    have hne : b ≠ b' := fun e => g2 (by subst e; simp)
    refine ⟨p, m, rfl, g1, ?_, ?_, e5 w' k n1 n2⟩
    · intro hm
      rcases List.mem_append.1 hm with hm | hm
      · exact g2 (List.mem_append_left _ hm)
      · rcases List.mem_cons.1 hm with e | hm
        · exact hne e
        · rcases List.mem_cons.1 hm with e | hm
          · omega
          · exact g2 (List.mem_append_right _ (List.mem_cons_of_mem _ hm))
    · have e : adr (pre ++ b' :: w.heap.size :: cs') = adr (pre ++ b' :: cs') := by cases pre <;> rfl
      show Nd w' b p (.pointer (adr (pre ++ b' :: w.heap.size :: cs')))
      rw [e]
      exact g3.same (k.block b hb hne)
theorem uncut_chain {w : World} {B : Nat} {d : Int} {l : List Pc} : ∀ {bs : List Nat}, ct d l = none → Chain w B bs l → sfx d l bs = [] ∨ ∃ b p cs, sfx d l bs = b :: cs ∧ Nd w b p (ptrOf cs) ∧ p.1 = d := by
  induction l with
  | nil => intro bs _ _; cases bs <;> exact .inl rfl
  | cons p l ih =>
    intro bs hn h
    obtain ⟨b, cs, rfl, g1, g2, g3, g4⟩ := h.cons
    simp only [ct] at hn
    simp only [sfx]
    by_cases c : p.1 ≤ d ∧ d < p.2
    · rw [if_pos c] at hn ⊢
      split at hn
      · exact .inr ⟨b, p, cs, rfl, g3, by assumption⟩
      · simp at hn
    · rw [if_neg c] at hn ⊢
      rw [Option.map_eq_none_iff] at hn
      exact ih hn g4

/-- New links of a list. -/
def NewLinks (w : World) (l : List Pc) (e : Ending) (w' : World) : Prop := ∃ cs, e = .returned (ptrOf cs) ∧ Chain w' w.heap.size cs l ∧ Below w.heap.size w w'
theorem chain_push {w : World} {B : Nat} {ds : List Nat} {l : List Pc} (h : Chain w B ds l) (hB : B ≤ w.heap.size) (p : Pc) (t : TypeId) :
    Chain (w.alloc (.cells #[.int .i64 p.1, .int .i64 p.2, ptrOf ds] t)) B (w.heap.size :: ds) (p :: l) :=
  ⟨p, l, rfl, hB, fun hm => by have := (h.lt _ hm).2; omega, nd_new w p (ptrOf ds) t, h.grow ((Below.refl _ _).alloc (Nat.le_refl _) _)⟩
theorem between_drop {w w1 : World} {t u : Int} {p : Pc} {l : List Pc} {ds : List Nat} (C : Chain w1 w.heap.size ds (bt t u l)) (B1 : Below w.heap.size w w1) (h : ¬ (max p.1 t < min p.2 u)) (x y : Int) :
    NewLinks w (bt t u (p :: l)) (.returned (ptrOf ds)) (w1.alloc (.cells #[.int .i64 x, .int .i64 y] 27)).drew :=
  ⟨ds, rfl, by rw [show bt t u (p :: l) = bt t u l from if_neg h]; exact C.grow ((Below.refl _ _).alloc (Nat.le_refl _) _).drew, (B1.alloc B1.size _).drew⟩
theorem between_keep {w w1 : World} {t u : Int} {p : Pc} {l : List Pc} {ds : List Nat} (C : Chain w1 w.heap.size ds (bt t u l)) (B1 : Below w.heap.size w w1) (x y : Int) (hx : max p.1 t = x) (hy : min p.2 u = y) (h : x < y) :
    NewLinks w (bt t u (p :: l)) (.returned (.pointer (some ⟨w1.heap.size + 1, 0, none⟩))) (((w1.alloc (.cells #[.int .i64 x, .int .i64 y] 27)).alloc (.cells #[.int .i64 x, .int .i64 y, ptrOf ds] 52)).drew) := by
  subst hx hy
  have k1 := C.grow ((Below.refl w1.heap.size w1).alloc (Nat.le_refl _) (.cells #[.int .i64 (max p.1 t), .int .i64 (min p.2 u)] 27))
  have k2 := chain_push k1 (by have := B1.size; simp; omega) (max p.1 t, min p.2 u) 52
  rw [World.size_alloc] at k2
  refine ⟨(w1.heap.size + 1) :: ds, rfl, ?_, ((B1.alloc B1.size _).alloc (by have := B1.size; simp; omega) _).drew⟩
  rw [show bt t u (p :: l) = _ from if_pos h]
  exact k2.same fun b _ => rfl

set_option maxHeartbeats 800000 in
theorem between_any (t u : Int) (l : List Pc) : ∀ {w : World} {B : Nat} {bs : List Nat}, Chain w B bs l →
    Calls Try.prog 47 #[ptrOf bs, .int .i64 t, .int .i64 u] w fun e w' => NewLinks w (bt t u l) e w' := by
  induction l with
  | nil =>
    intro w B bs h
    obtain rfl := h.nil
    simp only [ptrOf, adr]
    go_enter Try.func47, Try.ntmps47
    go_wp2_with fail
    go_ret
    exact ⟨[], rfl, rfl, Below.refl _ _⟩
  | cons p l ih =>
    intro w B bs h
    obtain ⟨b, cs, rfl, h0, h1, h2, h3⟩ := h.cons
    have IH := Lib.hid (ih h3); have H2 := Lib.hid h2
    have hb := h2.lt
    obtain ⟨k1, k2, k3, _, _⟩ := h2
    clear ih h3 h
    simp only [ptrOf, adr]
    go_enter Try.func47, Try.ntmps47
    go_wp2_with fail
    refine IH.out.mono ?_
    rintro e w1 ⟨ds, rfl, hc, hb1⟩
    have C := Lib.hid hc; have B1 := Lib.hid hb1
    obtain ⟨g1, g2, g3, _, _⟩ := H2.out.same (hb1.block b hb)
    have hb2 : b < w1.heap.size := Nat.lt_of_lt_of_le hb hb1.size
    clear hc hb1 k1 k2 k3
    obtain ⟨x, hx⟩ : ∃ x, (if p.1 < t then t else p.1) = x := ⟨_, rfl⟩
    obtain ⟨y, hy⟩ : ∃ y, (if u < p.2 then u else p.2) = y := ⟨_, rfl⟩
    have HX : Aside (max p.1 t = x) := by rw [← hx]; show _ = _; split <;> omega
    have HY : Aside (min p.2 u = y) := by rw [← hy]; show _ = _; split <;> omega
    by_cases c3 : x < y
    · go_wp2_with fail
      go_region
      all_goals (go_wp2_with fail)
      all_goals go_ret
      all_goals exact between_keep C.out B1.out x y HX.out HY.out c3
    · go_wp2_with fail
      go_region
      all_goals (go_wp2_with fail)
      all_goals go_ret
      all_goals exact between_drop (p := p) C.out B1.out (by rw [HX.out, HY.out]; omega) x y

theorem valid_drop {l : List Pc} (h : valid l = true) (k : Nat) : valid (l.drop k) = true := valid_iff.2 ((valid_iff.1 h).drop k)
/-- What linksOf comes to. -/
def Linked (w : World) (l : List Pc) (e : Ending) (w' : World) : Prop :=
  (isCore l = true ∧ ∃ bs, e = .returned (.tuple #[ptrOf bs, .bool true]) ∧ Chain w' w.heap.size bs l ∧ Below w.heap.size w w') ∨
  (isCore l = false ∧ e = .returned (.tuple #[.pointer none, .bool false]) ∧ Below w.heap.size w w')

set_option maxHeartbeats 800000 in
theorem linksOf_row {w : World} {a : Option Addr} {len cap : Nat} {l : List Pc} (hl : l.length = len) (hm : len ≤ maxLen) (hc : Lies w a l) :
    Calls Try.prog 38 #[.slice a len cap] w fun e w' => Linked w l e w' := by
  unfold maxLen at hm
  by_cases h20 : 20 < len
  · go_enter Try.func38, Try.ntmps38
    go_wp2_with fail
    go_ret2
    exact .inr ⟨by unfold isCore; rw [decide_eq_false (by omega)]; rfl, rfl, Below.refl _ _⟩
  · go_enter Try.func38, Try.ntmps38
    go_wp2_with fail
    go_loopg [4, 5] len (fun k v i wr => ∃ (bs : List Nat) (n : Int), v = ptrOf bs ∧ i = .int .i64 n ∧ n = (k : Int) - 1 ∧ k ≤ len ∧ Chain wr w.heap.size bs (l.drop k) ∧ valid (l.drop k) = true ∧ Below w.heap.size w wr)
    case atStart => exact ⟨[], _, rfl, rfl, rfl, Nat.le_refl _, by rw [List.drop_of_length_le (by omega)]; rfl, by rw [List.drop_of_length_le (by omega)]; rfl, Below.refl _ _⟩
    case round =>
      obtain ⟨bs, n, rfl, rfl, hn, hk, hch, hv, hb⟩ := hrel
      have C := Lib.hid hch; have V := Lib.hid hv; have B1 := Lib.hid hb
      have hsz := hb.size
      clear hch hv hb
      by_cases h0 : gk = 0
      · subst h0
        have hn' : n < 0 := by omega
        clear hn
        go_wp2
        go_ret2
        refine .inl ⟨?_, bs, rfl, C.out, B1.out⟩
        have := V.out
        unfold isCore; rw [decide_eq_true (by omega)]; exact this
      · obtain ⟨j, rfl⟩ : ∃ j, gk = j + 1 := ⟨gk - 1, by omega⟩
        obtain rfl : n = (j : Int) := by omega
        clear hn
        rcases hc with rfl | ⟨g, o, rfl, hc⟩
        · simp at hl; omega
        obtain ⟨c1, c2⟩ := hc j (by omega)
        have d1 := (B1.out.cell (cell_below c1)).trans c1
        have d2 := (B1.out.cell (cell_below c2)).trans c2
        have HC := Lib.hid hc
        have hd := List.drop_eq_getElem_cons (l := l) (i := j) (by omega)
        have PU := Lib.hid (chain_push C.out hsz l[j] 52)
        have HD := Lib.hid hd
        clear hc c1 c2 hd
        cases hf : fitB l[j] (l.drop (j + 1))
        · have HF := Lib.hid hf
          clear hf
          go_wp2_with fail
          have hfit := fits_any PU.out
          rw [HF.out] at hfit
          refine hfit.mono ?_
          rintro e w1 ⟨rfl, b1⟩
          have B2 := Lib.hid ((B1.out.alloc hsz _).trans (b1.mono (by simp; omega)))
          clear b1 hfit
          go_wp2_with fail
          go_ret2
          refine .inr ⟨?_, rfl, B2.out⟩
          unfold isCore
          cases hv : valid l
          · exact Bool.and_false _
          · have := valid_drop hv j
            rw [HD.out, valid_cons, HF.out] at this
            simp at this
        · have HF := Lib.hid hf
          clear hf
          go_wp2_with fail
          have hfit := fits_any PU.out
          rw [HF.out] at hfit
          refine hfit.mono ?_
          rintro e w1 ⟨rfl, b1⟩
          have B2 := Lib.hid ((B1.out.alloc hsz _).trans (b1.mono (by simp; omega)))
          have C2 := Lib.hid (PU.out.grow b1)
          clear b1 hfit
          go_wp2_with fail
          go_roundg j
          case measure => omega
          case rel =>
            refine ⟨wr.heap.size :: bs, (j : Int) - 1, rfl, by go_num, rfl, by omega, ?_, ?_, B2.out⟩
            · rw [HD.out]; exact C2.out
            · rw [HD.out, valid_cons, HF.out, V.out]; rfl

theorem linksOf_any {w : World} {v : Value} {l : List Pc} (h : Row w v l) : Calls Try.prog 38 #[v] w fun e w' => Linked w l e w' := by
  obtain ⟨a, len, cap, rfl, h1, h2, h3, h4⟩ := h
  exact linksOf_row h1 (by omega) h4
end Go.Proofs.Ytdljfikgmhdedaa
