/- How a curve is made lean, knot by knot: plain mathematics, no program in it. -/
import Derived.Test.YthpfehjjaamkkacCurveLaw
namespace Go.Proofs.Ythpfehjjaamkkac

theorem seg_onL {p k q : Kn} (h : p.1 < q.1) : decide (seg p q ((k.1 : Int) : Rat) = ((k.2 : Int) : Rat)) = onL p k q := by
  have a := rat_lt h
  have h3 : (q.1 : Rat) - (p.1 : Rat) ≠ 0 := by grind
  unfold onL
  rw [decide_eq_decide]
  constructor
  · intro e
    have : ((k.1 : Rat) - (p.1 : Rat)) * ((q.2 : Rat) - (p.2 : Rat)) = ((q.1 : Rat) - (p.1 : Rat)) * ((k.2 : Rat) - (p.2 : Rat)) := by unfold seg at e; grind
    have e2 : (((k.1 - p.1) * (q.2 - p.2) : Int) : Rat) = (((q.1 - p.1) * (k.2 - p.2) : Int) : Rat) := by
      simp only [Rat.intCast_mul, Rat.intCast_sub]; exact this
    exact Rat.intCast_inj.1 e2
  · intro e
    have e2 : (((k.1 - p.1) * (q.2 - p.2) : Int) : Rat) = (((q.1 - p.1) * (k.2 - p.2) : Int) : Rat) := by rw [e]
    simp only [Rat.intCast_mul, Rat.intCast_sub] at e2
    unfold seg; grind
/-- A fraction found on the way is that of a knot. -/
theorem passes_is {p k q : Kn} {n d : Int} {ok : Bool} (hk : Dp k) (h : p.1 < q.1) (hr : Res true (seg p q ((k.1 : Int) : Rat)) n d ok) : (ok && (n == k.2 && d == 1)) = onL p k q := by
  have fk : fv k.2 1 = true := fv_iff.2 ⟨by omega, by omega, by have := hk.2.2.1; omega, by have := hk.2.2.2; omega, Int.gcd_one⟩
  rw [← seg_onL h]
  rcases hr with ⟨rfl, -, h3, h4⟩ | ⟨rfl, -, -, h4⟩
  · rw [Bool.true_and, ← h4, Bool.eq_iff_iff]
    simp only [Bool.and_eq_true, beq_iff_eq, decide_eq_true_eq]
    constructor
    · rintro ⟨rfl, rfl⟩; exact fq_whole _
    · intro e; exact fq_inj h3 fk (by rw [e, fq_whole])
  · rw [Bool.false_and]
    symm
    rw [decide_eq_false_iff_not]
    intro e
    have := fq_fits fk
    rw [fq_whole, ← e] at this
    simp [this] at h4
/-- What is kept behind the first i knots. -/
structure Leaned (l out : List Kn) (i : Nat) : Prop where
  pos : 0 < out.length
  le : out.length ≤ i
  dp : Dp (out[out.length - 1]'(by omega))
  lt : ∀ hi : i < l.length, (out[out.length - 1]'(by omega)).1 < l[i].1 ∧ (out[out.length - 1]'(by omega)).2 < l[i].2
  rest : leanL l = out ++ lean (out[out.length - 1]'(by omega)) (l.drop i)
theorem leaned_start {l : List Kn} (h : isCurve l = true) (h0 : 0 < l.length) : Leaned l [l[0]] 1 := by
  refine ⟨by simp, by simp, isCurve_dp h 0 h0, fun hi => isCurve_up h 0 hi, ?_⟩
  cases l with
  | nil => simp at h0
  | cons p l => rfl
theorem Leaned.skip {l out : List Kn} {i : Nat} (h : Leaned l out i) (hc : isCurve l = true) (hi : i + 1 < l.length) (ho : onL (out[out.length - 1]'(by have := h.pos; omega)) (l[i]'(by omega)) l[i + 1] = true) : Leaned l out (i + 1) := by
  have a := h.lt (by omega)
  have b := isCurve_up hc i hi
  refine ⟨h.pos, by have := h.le; omega, h.dp, fun _ => ⟨by omega, by omega⟩, ?_⟩
  rw [h.rest, List.drop_eq_getElem_cons (show i < l.length by omega), List.drop_eq_getElem_cons hi]
  simp only [lean]
  rw [if_pos ho]
theorem Leaned.take {l out : List Kn} {i : Nat} (h : Leaned l out i) (hc : isCurve l = true) (hi : i + 1 < l.length) (ho : onL (out[out.length - 1]'(by have := h.pos; omega)) (l[i]'(by omega)) l[i + 1] = false) : Leaned l (out ++ [l[i]'(by omega)]) (i + 1) := by
  have e : (out ++ [l[i]'(by omega)])[(out ++ [l[i]'(by omega)]).length - 1]'(by simp) = l[i]'(by omega) := by
    rw [List.getElem_append_right (by simp)]; simp
  refine ⟨by simp, by have := h.le; simp; omega, by rw [e]; exact isCurve_dp hc i (by omega), fun _ => by rw [e]; exact isCurve_up hc i hi, ?_⟩
  rw [e, h.rest, List.drop_eq_getElem_cons (show i < l.length by omega), List.drop_eq_getElem_cons hi]
  simp only [lean]
  rw [if_neg (by rw [ho]; simp), List.append_assoc]; rfl
theorem Leaned.skip' {l out : List Kn} {i m : Nat} (h : Leaned l out i) (hc : isCurve l = true) (hi : i + 1 < l.length) (hm : out.length = m + 1) (ho : onL (out[m]'(by omega)) (l[i]'(by omega)) l[i + 1] = true) : Leaned l out (i + 1) := by
  have em : out.length - 1 = m := by omega
  exact h.skip hc hi (by simp only [em]; exact ho)
theorem Leaned.take' {l out : List Kn} {i m : Nat} (h : Leaned l out i) (hc : isCurve l = true) (hi : i + 1 < l.length) (hm : out.length = m + 1) (ho : onL (out[m]'(by omega)) (l[i]'(by omega)) l[i + 1] = false) : Leaned l (out ++ [l[i]'(by omega)]) (i + 1) := by
  have em : out.length - 1 = m := by omega
  exact h.take hc hi (by simp only [em]; exact ho)
theorem Leaned.last {l out : List Kn} {i : Nat} (h : Leaned l out i) (hi : i + 1 = l.length) : leanL l = out ++ [l[i]'(by omega)] := by
  rw [h.rest, List.drop_eq_getElem_cons (show i < l.length by omega), List.drop_of_length_le (by omega)]
  simp only [lean]
-- where a knot is put in
theorem ins_at {k : Kn} {l : List Kn} (j : Nat) (hj : j ≤ l.length) (h1 : ∀ i (hi : i < l.length), i < j → l[i].1 < k.1) (h2 : ∀ hj : j < l.length, k.1 ≤ l[j].1) : l.take j ++ k :: l.drop j = ins k l := by
  induction l generalizing j with
  | nil => simp at hj; subst hj; rfl
  | cons p l ih =>
    cases j with
    | zero =>
      have := h2 (by simp)
      simp only [List.getElem_cons_zero] at this
      simp only [ins]
      rw [if_neg (by omega)]; rfl
    | succ j =>
      have := h1 0 (by simp) (by omega)
      simp only [List.getElem_cons_zero] at this
      simp only [ins]
      rw [if_pos this, List.take_succ_cons, List.drop_succ_cons, List.cons_append]
      rw [ih j (by simpa using hj) (fun i hi hij => h1 (i + 1) (by simp; omega) (by omega)) (fun hj' => h2 (by simp; omega))]
end Go.Proofs.Ythpfehjjaamkkac
