/- A region that draws its order and ends with a store over what it has read: a condition on the world that holds until then. -/
import Derived.Test.YtcemgdekcfdfhaaDoorRegion
import Derived.OrdersHeld
namespace Go.Proofs.YtcemgdekcfdfhaaDoor
open Go.RowKit
variable {P : Program} {md : Region.Mode} {ops : Array Oper} {Q : Exit → Act → World → Prop} {S : World → Prop}

/-- In whatever order the rest of a region goes, S holds behind each operation but number z. -/
def Calm (P : Program) (md : Region.Mode) (ops : Array Oper) (Q : Exit → Act → World → Prop) (S : World → Prop) (z : Nat) (n : Nat) : Array Bool → Act → World → Prop :=
  match n with
  | 0 => fun done a w => Region.ready md ops done = [] ∧ Q .normal a w
  | n + 1 => fun done a w => (Region.ready md ops done = [] → Q .normal a w) ∧ ∀ i, i ∈ Region.ready md ops done →
      wpOp P ops Q i (fun a' w' => (i = z ∨ S w') ∧ Calm P md ops Q S z n (done.setIfInBounds i true) a' w') a w
theorem Calm.any {z : Nat} : ∀ (n : Nat) (done : Array Bool) (a : Act) (w : World), Calm P md ops Q S z n done a w → wpAny P md ops Q n done a w := by
  intro n
  induction n with
  | zero => exact fun _ _ _ h => h
  | succ n ih => exact fun done a w h => And.intro h.1 fun i hi => wpOp_mono (fun a' w' k => ih _ _ _ k.2) (h.2 i hi)
theorem calm_region (z : Nat) (S : World → Prop) {id : Nat} {a : Act} {w : World} (hm : P.follows .mixedOrders = true) (hS : S w.drew) (h : S w.drew → Calm P .any ops Q S z ops.size (Array.replicate ops.size false) a w.drew) : (Code.region id ops true).wp P Q a w :=
  wp_region_any hm (Calm.any _ _ _ _ (h hS))
/-- Number z waits for number i. -/
def awaits (md : Region.Mode) (ops : Array Oper) (z i : Nat) : Bool := match ops[z]? with
  | some o => o.after.any fun e => Region.binds md e && e.on == i
  | none => true
/-- Who comes up beside number i has nothing to do with it. -/
def Beside (md : Region.Mode) (ops : Array Oper) (i : Nat) (oi : Oper) (done : Array Bool) : Prop :=
  ∀ (j : Nat) (o : Oper), ops[j]? = some o → j ≠ i → done.getD j true = false → (∀ e ∈ o.after, Region.binds md e = true → e.on ≠ i) → oi.apart ops o = true
theorem Beside.set {i j : Nat} {oi : Oper} {done : Array Bool} (h : Beside md ops i oi done) (hj : done.getD j true = false) : Beside md ops i oi (done.setIfInBounds j true) := by
  intro k o hk hki hd ha
  by_cases e : k = j
  · rw [e] at hk hki; exact h j o hk hki hj ha
  · exact h k o hk hki (by rwa [getD_set_ne true (fun x => e x.symm)] at hd) ha
/-- What is ready beside number i does not wait for it. -/
theorem waits_not {i j : Nat} {done : Array Bool} (hi : i ∈ Region.ready md ops done) (hj : j ∈ Region.ready md ops done) : ∃ o, ops[j]? = some o ∧ done.getD j true = false ∧ ∀ e ∈ o.after, Region.binds md e = true → e.on ≠ i := by
  obtain ⟨a1, o, a2, a3⟩ := mem_ready.1 hj
  refine ⟨o, a2, a1, fun e he hb hei => ?_⟩
  have b1 := (mem_ready.1 hi).1
  have b2 := a3 e he hb
  subst hei
  by_cases hs : e.on < done.size
  · simp [hs] at b1 b2; simp [b1] at b2
  · simp [Nat.not_lt.1 hs] at b2
theorem calm_first {z i : Nat} {oi : Oper} {v : Value} (hi : ops[i]? = some oi) (hz : awaits md ops z i = true) (hs : Region.noSelect ops = true) (hQ : ∀ c a w, Q (.panic c) (a.put oi.dst v) w → Q (.panic c) a w) (n : Nat) :
    ∀ (done : Array Bool) (a : Act) (w : World), Beside md ops i oi done → i ∈ Region.ready md ops done → YieldsIf P ops S oi v a → S w →
      Calm P md ops Q S z n (done.setIfInBounds i true) (a.put oi.dst v) w → Calm P md ops Q S z (n + 1) done a w := by
  induction n with
  | zero =>
    intro done a w _ hr hy hS H
    refine And.intro (fun e => absurd hr (by rw [e]; exact List.not_mem_nil)) fun j hj => ?_
    by_cases e : j = i
    · subst e; exact hy.wpOp hi hS ⟨.inr hS, H⟩
    · exact absurd (ready_mono hj e) (by rw [H.1]; exact List.not_mem_nil)
  | succ n ih =>
    intro done a w hb hr hy hS H
    refine And.intro (fun e => absurd hr (by rw [e]; exact List.not_mem_nil)) fun j hj => ?_
    by_cases e : j = i
    · subst e; exact hy.wpOp hi hS ⟨.inr hS, H⟩
    · obtain ⟨o, ho, hd, hw⟩ := waits_not hr hj
      have hjz : j ≠ z := fun ez => by
        subst ez
        simp only [awaits, ho, Array.any_eq_true, Bool.and_eq_true, beq_iff_eq] at hz
        obtain ⟨k, hk, h1, h2⟩ := hz
        exact hw _ (Array.getElem_mem hk) h1 h2
      have step := wpOp_putIf ho (hb j o ho e hd hw) (fun cs b => Region.noSelect_spec hs i oi cs b hi) (fun cs b => Region.noSelect_spec hs j o cs b ho) hQ hy (H.2 j (ready_mono hj e))
      refine wpOp_mono (fun a' w' k => ?_) step
      obtain ⟨ky, kS, kH⟩ := k
      have S' : S w' := kS.resolve_left hjz
      rw [Array.setIfInBounds_comm _ _ (Ne.symm e)] at kH
      exact ⟨.inr S', ih _ _ _ (hb.set hd) (ready_mono hr (Ne.symm e)) ky S' kH⟩
/-- An operation that yields the same in the worlds that meet S is taken first: number i, its slot d. -/
theorem take_l {z : Nat} (i d : Nat) {oi : Oper} {v : Value} {n : Nat} {done : Array Bool} {a : Act} {w : World} (hi : ops[i]? = some oi) (hd : oi.dst = some d) (hz : awaits md ops z i = true)
    (hs : Region.noSelect ops = true) (hf : Region.free md ops done i = true) (hr : (Region.ready md ops done).contains i = true)
    (hQ : ∀ c a w, Q (.panic c) (a.put oi.dst v) w → Q (.panic c) a w) (hw : Region.wanted oi (yielded ops a.tmps) = true) (hv : ∀ w, S w → (execOp a.eval oi).run P w = .ok (.value v) w) (hS : S w)
    (h : Calm P md ops Q S z n (done.setIfInBounds i true) (a.put (some d) v) w) : Calm P md ops Q S z (n + 1) done a w :=
  calm_first hi hz hs hQ n done a w (fun j o => Region.free_spec hi hf j o) (by simpa using hr) (.inl ⟨hw, hv⟩) hS (by rw [hd]; exact h)
/-- A guarded operation that is left out. -/
theorem skip_l {z : Nat} (i d : Nat) {oi : Oper} {n : Nat} {done : Array Bool} {a : Act} {w : World} (hi : ops[i]? = some oi) (hd : oi.dst = some d) (hz : awaits md ops z i = true)
    (hs : Region.noSelect ops = true) (hf : Region.free md ops done i = true) (hr : (Region.ready md ops done).contains i = true)
    (hQ : ∀ c a w, Q (.panic c) (a.put oi.dst undef) w → Q (.panic c) a w) (hw : Region.wanted oi (yielded ops a.tmps) = false) (hS : S w)
    (h : Calm P md ops Q S z n (done.setIfInBounds i true) (a.put (some d) undef) w) : Calm P md ops Q S z (n + 1) done a w :=
  calm_first hi hz hs hQ n done a w (fun j o => Region.free_spec hi hf j o) (by simpa using hr) (.inr ⟨hw, rfl⟩) hS (by rw [hd]; exact h)
/-- The only one that may come up. -/
theorem step_l {z : Nat} (i : Nat) {o : Oper} {n : Nat} {done : Array Bool} {a : Act} {w : World} (hr : Region.ready md ops done = [i]) (ho : ops[i]? = some o)
    (h : ∀ K' : Act → World → Prop, Shut (∀ a w, S w → (S w → Calm P md ops Q S z n (done.setIfInBounds i true) a w) → K' a w) → if Region.wanted o (yielded ops a.tmps) = true then Oper.wp P o a w K' Q else K' (a.put o.dst undef) w) : Calm P md ops Q S z (n + 1) done a w := by
  refine And.intro (fun e => by rw [hr] at e; cases e) fun j hj => ?_
  rw [hr, List.mem_singleton] at hj
  subst hj
  exact wpOp_step ho fun K' hK => h K' fun a w hS hW => hK a w ⟨.inr hS, hW hS⟩
/-- The last one. -/
theorem last_l {z : Nat} {o : Oper} {n : Nat} {done : Array Bool} {a : Act} {w : World} (hr : Region.ready md ops done = [z]) (ho : ops[z]? = some o) (he : Region.ready md ops (done.setIfInBounds z true) = [])
    (h : ∀ K' : Act → World → Prop, Shut (∀ a w, Q .normal a w → K' a w) → if Region.wanted o (yielded ops a.tmps) = true then Oper.wp P o a w K' Q else K' (a.put o.dst undef) w) : Calm P md ops Q S z (n + 1) done a w := by
  refine And.intro (fun e => by rw [hr] at e; cases e) fun j hj => ?_
  rw [hr, List.mem_singleton] at hj
  subst hj
  refine wpOp_step ho fun K' hK => h K' fun a w hW => hK a w ⟨.inl rfl, ?_⟩
  cases n with
  | zero => exact ⟨he, hW⟩
  | succ n => exact ⟨fun _ => hW, fun i hi => by rw [he] at hi; cases hi⟩
end Go.Proofs.YtcemgdekcfdfhaaDoor
