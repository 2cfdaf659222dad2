/- The contracts of the program's functions on pieces. -/
import Derived.Test.YtdljfikgmhdedaaLinks
import Derived.Deep.DeepCutAuto
namespace Go.Proofs.Ytdljfikgmhdedaa
open Go.RowKit

def lenOf (l : List Pc) : Int := if isCore l = true then len l else -1
def hasOf (d : Int) (l : List Pc) : Int := if isCore l = true then ix d l else -1
def gapsOf (l : List Pc) : List Pc := if isCore l = true then gaps l else []
def joinOf (l : List Pc) : Option (List Pc) := if isCore l = true then some (join l) else none
def cutOf (d : Int) (l : List Pc) : Option (List Pc) := if isCore l = true ∧ l.length < 20 then ct d l else none
def btOf (t u : Int) (l : List Pc) : Option (List Pc) := if isCore l = true ∧ 0 ≤ t ∧ t ≤ u ∧ u ≤ 30000 then some (bt t u l) else none

/-- A value, and new memory. -/
def Val (w : World) (v : Value) (e : Ending) (w' : World) : Prop := e = .returned v ∧ Below w.heap.size w w'
/-- A slice of the call's own that holds a list. -/
def Lst (w : World) (m : List Pc) (e : Ending) (w' : World) : Prop := ∃ v, e = .returned v ∧ Own w' w.heap.size v m ∧ Below w.heap.size w w'
/-- .. and whether there is one. -/
def LstB (w : World) (m : Option (List Pc)) (e : Ending) (w' : World) : Prop :=
  ∃ v, e = .returned (.tuple #[v, .bool m.isSome]) ∧ Own w' w.heap.size v (m.getD []) ∧ Below w.heap.size w w'

theorem Linked.split {w w' : World} {l : List Pc} {e : Ending} (h : Linked w l e w') :
    (isCore l = true ∧ ∃ bs, e = .returned (.tuple #[ptrOf bs, .bool true]) ∧ Chain w' w.heap.size bs l ∧ Below w.heap.size w w') ∨
    (isCore l = false ∧ e = .returned (.tuple #[ptrOf [], .bool false]) ∧ Below w.heap.size w w') := h

theorem implCoreValid_any {w : World} {v : Value} {l : List Pc} (h : Row w v l) :
    Calls Try.prog 13 #[v] w fun e w' => Val w (.bool (isCore l)) e w' := by
  have L := Lib.hid (linksOf_any h)
  obtain ⟨a, n, c, rfl, _, _, _, _⟩ := h
  go_enter Try.func13, Try.ntmps13
  go_wp2_with fail
  refine L.out.mono ?_
  rintro e w1 hl
  rcases hl.split with ⟨hv, bs, rfl, _, hb⟩ | ⟨hv, rfl, hb⟩
  · have HV := Lib.hid hv
    clear hv hl
    go_wp2_with fail
    go_ret
    exact ⟨by rw [HV.out]; rfl, hb⟩
  · have HV := Lib.hid hv
    clear hv hl
    go_wp2_with fail
    go_ret
    exact ⟨by rw [HV.out]; rfl, hb⟩

def Summing (w w1 : World) (l : List Pc) (cs : List Nat) (r : List Pc) (s t : Int) (wr : World) : Prop :=
  len l = s + len r ∧ Chain w1 w.heap.size cs r ∧ V t r ∧ Below w.heap.size w w1 ∧ Below w1.heap.size w1 wr

set_option maxHeartbeats 800000 in
theorem implCoreLength_any {w : World} {v : Value} {l : List Pc} (h : Row w v l) :
    Calls Try.prog 16 #[v] w fun e w' => Val w (.int .i64 (lenOf l)) e w' := by
  have L := Lib.hid (linksOf_any h)
  obtain ⟨a, n, c, rfl, _, _, _, _⟩ := h
  go_enter Try.func16, Try.ntmps16
  go_wp2_with fail
  refine L.out.mono ?_
  rintro e w1 hl
  rcases hl.split with ⟨hv, bs, rfl, hc, hb⟩ | ⟨hv, rfl, hb⟩
  rotate_left
  · have HV := Lib.hid hv
    clear hv hl
    go_wp2_with fail
    go_ret
    exact ⟨by rw [lenOf, HV.out]; rfl, hb⟩
  · have HV := Lib.hid hv
    have C := Lib.hid hc
    have B1 := Lib.hid hb
    clear hv hl hc hb
    have hcore := isCore_iff.1 HV.out
    have hlb := len_bound hcore.2 (by omega)
    have H0 := Lib.hid hcore
    clear hcore
    go_wp2_with fail
    go_loopg [5, 6] l.length (fun k x y wr => ∃ (cs : List Nat) (r : List Pc) (s t : Int), y = ptrOf cs ∧ x = .int .i64 s ∧ r.length = k ∧ 0 ≤ s ∧ s ≤ 30000 ∧ 0 ≤ t ∧ Summing w w1 l cs r s t wr)
    case atStart => exact ⟨bs, l, 0, 0, rfl, rfl, rfl, by omega, by omega, by omega, by omega, C.out, H0.out.2, B1.out, Below.refl _ _⟩
    case round =>
      obtain ⟨cs, r, s, t, rfl, rfl, hk, s0, s1, t0, hs, hc, hv, hb, hb1⟩ := hrel
      have C1 := Lib.hid hc; have B2 := Lib.hid hb; have B3 := Lib.hid hb1; have S1 := Lib.hid hs; have V1 := Lib.hid hv
      cases r with
      | nil =>
        obtain rfl := hc.nil
        simp only [ptrOf, adr_nil]
        clear hc hb hb1 hs hv hk
        go_wp2_with fail
        go_ret
        refine ⟨?_, B2.out.trans (B3.out.mono B1.out.size)⟩
        have := S1.out
        rw [lenOf, if_pos HV.out, this]
        simp [len]
      | cons p r =>
        obtain ⟨c, cs, rfl, _, _, hn, hc'⟩ := hc.cons
        have v1 := hv.1; have v2 := hv.2.1; have v3 := hv.2.2.1
        have hs1 : s + (p.2 - p.1) ≤ 30000 := by
          have := len_ge hv.2.2.2
          simp only [len] at hs
          omega
        have C2 := Lib.hid hc'
        obtain ⟨g1, g2, g3, _, _⟩ := hn.same (hb1.block c hn.lt)
        simp only [ptrOf, adr_cons]
        simp only [List.length_cons] at hk
        have hk' : r.length < gk := by omega
        have t2 : 0 ≤ p.1 := by omega
        clear hc hb hb1 hs hv hk hn hc'
        go_wp2_with fail
        go_quiet (fail)
        go_wp2_with fail
        go_roundg r.length
        case measure => exact hk'
        case rel => exact ⟨cs, r, s + (p.2 - p.1), p.2, rfl, rfl, rfl, by omega, by omega, by omega, by have := S1.out; simp only [len] at this; omega, C2.out, V1.out.2.2.2, B2.out, below_drewN B3.out _⟩
theorem implCoreHas_any {w : World} {v : Value} {l : List Pc} (d : Int) (h : Row w v l) :
    Calls Try.prog 20 #[v, .int .i64 d] w fun e w' => Val w (.int .i64 (hasOf d l)) e w' := by
  have L := Lib.hid (linksOf_any h)
  obtain ⟨a, n, c, rfl, _, _, _, _⟩ := h
  go_enter Try.func20, Try.ntmps20
  go_wp2_with fail
  refine L.out.mono ?_
  rintro e w1 hl
  rcases hl.split with ⟨hv, bs, rfl, hc, hb⟩ | ⟨hv, rfl, hb⟩
  · have HV := Lib.hid hv
    have C := Lib.hid hc
    have B1 := Lib.hid hb
    clear hv hl hc hb
    go_wp2_with fail
    refine (find_any d C.out (by have := isCore_iff.1 HV.out; omega)).mono ?_
    rintro e w2 ⟨hf, rfl⟩
    unfold Found at hf
    subst hf
    go_wp2_with fail
    go_ret
    exact ⟨by rw [hasOf, HV.out]; rfl, B1.out⟩
  · have HV := Lib.hid hv
    have B1 := Lib.hid hb
    clear hv hl hb
    go_wp2_with fail
    refine (find_any d (w := w1) (B := 0) (bs := []) (l := []) rfl (by simp)).mono ?_
    rintro e w2 ⟨hf, rfl⟩
    unfold Found at hf
    subst hf
    go_wp2_with fail
    go_ret
    exact ⟨by rw [hasOf, HV.out]; rfl, B1.out⟩

theorem implCoreBetween_any {w : World} {v : Value} {l : List Pc} (t u : Int) (h : Row w v l) :
    Calls Try.prog 33 #[v, .int .i64 t, .int .i64 u] w fun e w' => LstB w (btOf t u l) e w' := by
  have L := Lib.hid (linksOf_any h)
  obtain ⟨a, n, c, rfl, _, _, _, _⟩ := h
  have no : ∀ w1 : World, Below w.heap.size w w1 → ¬ (isCore l = true ∧ 0 ≤ t ∧ t ≤ u ∧ u ≤ 30000) →
      LstB w (btOf t u l) (.returned (.tuple #[.slice (some ⟨w1.heap.size, 0, none⟩) 0 0, .bool false])) (w1.alloc (.cells #[] 27)) := fun w1 hb hn => by
    rw [btOf, if_neg hn]
    exact ⟨_, rfl, own_new hb.size, hb.alloc hb.size _⟩
  have NO := Lib.hid no
  clear no
  by_cases c1 : 0 ≤ t ∧ t ≤ u ∧ u ≤ 30000
  · obtain ⟨k1, k2, k3⟩ := c1
    go_enter Try.func33, Try.ntmps33
    go_wp2_with fail
    refine L.out.mono ?_
    rintro e w1 hl
    rcases hl.split with ⟨hv, bs, rfl, hc, hb⟩ | ⟨hv, rfl, hb⟩
    · have HV := Lib.hid hv
      have C := Lib.hid hc
      have B1 := Lib.hid hb
      clear hv hl hc hb
      go_wp2_with fail
      refine (between_any t u l C.out).mono ?_
      rintro e w2 ⟨cs, rfl, hc2, hb2⟩
      have C2 := Lib.hid hc2; have B2 := Lib.hid (B1.out.trans (hb2.mono B1.out.size))
      clear hc2 hb2
      go_wp2_with fail
      refine (pieces_any C2.out (by have := bt_length t u l; have := isCore_iff.1 HV.out; omega)).mono ?_
      rintro e w3 ⟨v, rfl, ho, hb3⟩
      have O := Lib.hid ho; have B3 := Lib.hid (B2.out.trans (hb3.mono B2.out.size))
      clear ho hb3
      go_wp2_with fail
      go_ret2
      refine ⟨v, ?_, ?_, B3.out⟩
      · rw [btOf, if_pos ⟨HV.out, k1, k2, k3⟩]; rfl
      · rw [btOf, if_pos ⟨HV.out, k1, k2, k3⟩]; exact O.out.mono B2.out.size
    · have HV := Lib.hid hv
      have B1 := Lib.hid hb
      clear hv hl hb
      go_wp2_with fail
      go_ret2
      exact NO.out w1 B1.out (fun h => by rw [HV.out] at h; exact absurd h.1 (by simp))
  · have hor : t < 0 ∨ u < t ∨ 30000 < u := by omega
    have C1 := Lib.hid c1
    clear c1
    by_cases q1 : t < 0
    · have HOR : Hid (¬ (isCore l = true ∧ 0 ≤ t ∧ t ≤ u ∧ u ≤ 30000)) := Lib.hid (fun h => by omega)
      clear hor
      go_enter Try.func33, Try.ntmps33
      go_wp2_with fail
      refine L.out.mono ?_
      rintro e w1 hl
      rcases hl.split with ⟨hv, bs, rfl, hc, hb⟩ | ⟨hv, rfl, hb⟩
      all_goals
        have B1 := Lib.hid hb
        (try clear hc)
        clear hv hl hb
        go_wp2_with fail
        go_ret2
        exact NO.out w1 B1.out HOR.out
    · by_cases q2 : u < t
      · have HOR : Hid (¬ (isCore l = true ∧ 0 ≤ t ∧ t ≤ u ∧ u ≤ 30000)) := Lib.hid (fun h => by omega)
        clear hor
        go_enter Try.func33, Try.ntmps33
        go_wp2_with fail
        refine L.out.mono ?_
        rintro e w1 hl
        rcases hl.split with ⟨hv, bs, rfl, hc, hb⟩ | ⟨hv, rfl, hb⟩
        all_goals
          have B1 := Lib.hid hb
          (try clear hc)
          clear hv hl hb
          go_wp2_with fail
          go_ret2
          exact NO.out w1 B1.out HOR.out
      · have q3 : 30000 < u := by omega
        have HOR : Hid (¬ (isCore l = true ∧ 0 ≤ t ∧ t ≤ u ∧ u ≤ 30000)) := Lib.hid (fun h => by omega)
        clear hor
        go_enter Try.func33, Try.ntmps33
        go_wp2_with fail
        refine L.out.mono ?_
        rintro e w1 hl
        rcases hl.split with ⟨hv, bs, rfl, hc, hb⟩ | ⟨hv, rfl, hb⟩
        all_goals
          have B1 := Lib.hid hb
          (try clear hc)
          clear hv hl hb
          go_wp2_with fail
          go_ret2
          exact NO.out w1 B1.out HOR.out
set_option maxHeartbeats 400000 in
theorem implCoreCut_any {w : World} {v : Value} {l : List Pc} (d : Int) (h : Row w v l) :
    Calls Try.prog 30 #[v, .int .i64 d] w fun e w' => LstB w (cutOf d l) e w' := by
  have L := Lib.hid (linksOf_any h)
  obtain ⟨a, n, c, rfl, hl, hn1, hn2, _⟩ := h
  have hn : n ≤ maxLen := by omega
  unfold maxLen at hn
  have no : ∀ w1 : World, Below w.heap.size w w1 → cutOf d l = none →
      LstB w (cutOf d l) (.returned (.tuple #[.slice (some ⟨w1.heap.size, 0, none⟩) 0 0, .bool false])) (w1.alloc (.cells #[] 27)) := fun w1 hb hn => by
    rw [hn]
    exact ⟨_, rfl, own_new hb.size, hb.alloc hb.size _⟩
  have NO := Lib.hid no
  have HL := Lib.hid hl
  clear no hl hn1 hn2
  by_cases h20 : n = 20
  · have c20 : Hid (cutOf d l = none) := Lib.hid (if_neg (fun h => by have := HL.out; omega))
    subst h20
    clear hn
    go_enter Try.func30, Try.ntmps30
    go_wp2_with fail
    refine L.out.mono ?_
    rintro e w1 hl
    rcases hl.split with ⟨hv, bs, rfl, hc, hb⟩ | ⟨hv, rfl, hb⟩
    all_goals
      have B1 := Lib.hid hb
      (try clear hc)
      clear hv hl hb
      go_wp2_with fail
      go_ret2
      exact NO.out w1 B1.out c20.out
  · have hb20 : ((n : Int) == 20) = false := by simp; omega
    have H20 := Lib.hid h20
    clear h20
    go_enter Try.func30, Try.ntmps30
    go_wp2_with fail
    refine L.out.mono ?_
    rintro e w1 hl
    rcases hl.split with ⟨hv, bs, rfl, hc, hb⟩ | ⟨hv, rfl, hb⟩
    rotate_left
    · have B1 := Lib.hid hb
      have HV := Lib.hid hv
      clear hv hl hb
      go_wp2_with fail
      go_ret2
      exact NO.out w1 B1.out (if_neg (fun h => by rw [HV.out] at h; exact absurd h.1 (by simp)))
    have HV := Lib.hid hv
    have C := Lib.hid hc
    have B1 := Lib.hid hb
    have HN : Hid (cutOf d l = ct d l) := Lib.hid (if_pos ⟨HV.out, by have := isCore_iff.1 HV.out; have := HL.out; have := H20.out; omega⟩)
    clear hv hl hc hb
    go_wp2_with fail
    refine (find_any d C.out (by have := isCore_iff.1 HV.out; omega)).mono ?_
    rintro e w2 ⟨hf, rfl⟩
    unfold Found at hf
    subst hf
    cases hct : ct d l with
    | none =>
      have HC : Hid (cutOf d l = none) := Lib.hid (HN.out.trans hct)
      rcases uncut_chain hct C.out with hs | ⟨b, p, cs, hs, g, hd⟩
      · rw [hs]
        clear hct hs
        simp only [ptrOf, adr_nil]
        go_wp2_with fail
        go_ret2
        exact NO.out w1 B1.out HC.out
      · rw [hs]
        have g1 := g.top
        have hq : (p.1 == d) = true := by simpa using hd
        clear hct hs g hd
        simp only [ptrOf, adr_cons]
        go_wp2_with fail
        go_ret2
        exact NO.out w1 B1.out HC.out
    | some m =>
      obtain ⟨b, p, cs, pre, hbs, hs, g, hd, hcut⟩ := cut_chain hct C.out
      have HC : Hid (cutOf d l = some m) := Lib.hid (HN.out.trans hct)
      have HM : Hid (m.length ≤ 1000) := Lib.hid (by have := (ct_len hct).2; have := isCore_iff.1 HV.out; omega)
      rw [hs]
      have g1 := g.top
      have hq : (p.1 == d) = false := by simpa using hd
      have G := Lib.hid g
      have CUT := Lib.hid hcut
      have HB : Hid (adr bs = adr (pre ++ b :: w1.heap.size :: cs)) := Lib.hid (by rw [hbs]; cases pre <;> rfl)
      have hbl := C.out.lt b (by rw [hbs]; simp)
      clear hct hs g hd hcut hbs
      simp only [ptrOf, adr_cons]
      go_wp2_with fail
      refine (cutAt_any d G.out).mono ?_
      rintro e w2 ⟨rfl, n1, n2, k⟩
      have C2 := Lib.hid (CUT.out w2 k n1 n2)
      have B2 := Lib.hid (But.below B1.out k hbl.1 B1.out.size)
      clear n1 n2 k g1
      go_wp2_with fail
      rw [HB.out]
      refine (pieces_any C2.out HM.out).mono ?_
      rintro e w3 ⟨v, rfl, ho, hb3⟩
      have O := Lib.hid ho; have B3 := Lib.hid (B2.out.trans (hb3.mono B2.out.size))
      clear ho hb3
      go_wp2_with fail
      go_ret2
      rw [HC.out]
      exact ⟨v, rfl, O.out.mono B2.out.size, B3.out⟩
end Go.Proofs.Ytdljfikgmhdedaa
