/- The program's parts of a text: every piece between bars is an order of a part. -/
import Derived.Test.YtcemgdekcfdfhaaDoorOrdR
import Derived.Test.YtcemgdekcfdfhaaDoorGrwP
namespace Go.Proofs.YtcemgdekcfdfhaaDoor
open Go.RowKit

def cntP (p : List UInt8) : Pc := ((p.count 97 : Nat), (p.count 98 : Nat))
theorem cntP_body (ts : List Tx) : (ts.map body).map cntP = (intA ts).zip (intB ts) := by
  induction ts with
  | nil => rfl
  | cons t ts ih =>
    have e := okP_body t
    simp only [intA, intB] at ih
    simp only [List.map_cons, intA, intB, List.zip_cons_cons, ih, cntP, e.1, e.2]
/-- The orders of each part, the parts, and true; or false. -/
def OrdsB (L : List UInt8) (w : World) (e : Ending) (w' : World) : Prop :=
  (partsOf L = none ∧ e = .returned (.tuple #[.slice none 0 0, .slice none 0 0, .bool false]) ∧ Below w.heap.size w w') ∨
  ∃ (ts : List Tx) (g : Nat) (v : Value), sp L = some ts ∧ isPar (intA ts) (intB ts) = true ∧ e = .returned (.tuple #[.slice (some ⟨g, 0, none⟩) ts.length ts.length, v, .bool true]) ∧
    (∀ j (h : j < ts.length), w'.cell? ⟨g, j, none⟩ = some (.string (str (body ts[j])))) ∧ Row w' v ((intA ts).zip (intB ts)) ∧ Below w.heap.size w w'
set_option maxRecDepth 100000 in
set_option maxHeartbeats 3200000 in
theorem orders_any (L : List UInt8) (hL : L.length ≤ 1048600) {w : World} (hM : ML w) :
    Calls Tryd.prog 32 #[.string (str L)] w fun e w' => OrdsB L w e w' := by
  have c0 := split_any L hL hM
  obtain ⟨wa, hwa⟩ : ∃ x, w.alloc (.cells ((pcs L).map pieceV).toArray 9) = x := ⟨_, rfl⟩
  have BA : Hid (Below w.heap.size w wa) := Lib.hid (by rw [← hwa]; go_grown)
  have CA : Hid (∀ j (h : j < (pcs L).length), wa.cell? ⟨w.heap.size, j, none⟩ = some (.string (str (pcs L)[j]))) := Lib.hid (fun j h => by
    rw [← hwa, World.cell?_alloc_new]
    simp [h, pieceV])
  have SA : w.heap.size + 1 = wa.heap.size := by rw [← hwa]; simp
  rw [hwa] at c0
  obtain ⟨P, hP⟩ : ∃ P, pcs L = P := ⟨_, rfl⟩
  have PL := Lib.hid hP
  rw [hP] at c0 CA
  have PP : Hid (∀ j (h : j < P.length), P[j].length ≤ 1048600) := Lib.hid (fun j h => by
    have := pcs_le (s := L) (p := P[j]) (by rw [hP]; exact List.getElem_mem h)
    omega)
  have p1 : 1 ≤ P.length := by rw [← hP, pcs_length]; omega
  have p9 : P.length ≤ 1048601 := by
    have := List.count_le_length (a := (124 : UInt8)) (l := L)
    rw [← hP, pcs_length]; omega
  clear hwa hP
  by_cases h4 : 4 < P.length
  · have R : Hid (partsOf L = none) := Lib.hid (parts_many (by rw [PL.out]; exact h4))
    have h4' : (4 : Int) < (P.length : Int) := by omega
    go_enter Tryd.func32, Tryd.ntmps32
    go_wp2_with fail
    refine c0.mono ?_
    rintro e w1 ⟨rfl, rfl⟩
    go_wp2_with fail
    go_returns
    exact .inl ⟨R.out, rfl, BA.out⟩
  have h4' : decide ((4 : Int) < (P.length : Int)) = false := decide_eq_false (by omega)
  have P4 : Hid (P.length ≤ 4) := Lib.hid (by omega)
  clear h4
  have BB : Hid (Below wa.heap.size wa (wa.alloc (.cells #[] 49))) := Lib.hid (by go_grown)
  go_enter Tryd.func32, Tryd.ntmps32
  go_wp2_with fail
  refine c0.mono ?_
  rintro e w1 ⟨rfl, rfl⟩
  clear c0
  go_wp2_with fail
  go_loopg [6, 19] P.length (fun k y x wr => ∃ j : Nat, x = .int .i64 j ∧ j + k = P.length ∧ GrwP 49 wr w1.heap.size y ((P.take j).map cntP) ∧ (∀ p ∈ P.take j, okPart p = true) ∧ Below w1.heap.size w1 wr)
  case atStart => exact ⟨0, rfl, by omega, .inl ⟨rfl, _, rfl⟩, fun p hp => by simp at hp, BB.out⟩
  case round =>
    obtain ⟨j, rfl, hk, ho, hs, hb⟩ := hrel
    have K := Lib.hid hk; have O := Lib.hid ho; have S := Lib.hid hs; have B := Lib.hid hb
    have hjl : j ≤ P.length := by omega
    have hsz := hb.size
    clear hk ho hs hb
    by_cases hlt : j < P.length
    · have d1 := CA.out j hlt
      have y1 := (B.out.cell (cell_below d1)).trans d1
      have i0 : (0 : Int) ≤ (j : Int) := by omega
      have i1 : (j : Int) < (P.length : Int) := by omega
      have pl := PP.out j hlt
      have ST : Hid ((P.take j).map cntP ++ [cntP P[j]] = (P.take (j + 1)).map cntP) := Lib.hid (by rw [List.take_succ_eq_append_getElem hlt, List.map_append]; rfl)
      have ME : Hid (P[j] ∈ pcs L) := Lib.hid (by rw [PL.out]; exact List.getElem_mem hlt)
      have TS : Hid (∀ p ∈ P.take (j + 1), p ∈ P.take j ∨ p = P[j]) := Lib.hid (fun p hp => by
        rw [List.take_succ_eq_append_getElem hlt] at hp
        rcases List.mem_append.1 hp with h | h
        · exact .inl h
        · exact .inr (List.mem_singleton.1 h))
      obtain ⟨q, hq⟩ : ∃ q, P[j] = q := ⟨_, rfl⟩
      simp only [hq] at y1 pl ST ME TS
      clear d1 hq
      obtain ⟨b, hb⟩ : ∃ b, okPart q = b := ⟨_, rfl⟩
      have HB := Lib.hid hb
      have c1 := partOf_any q pl wr
      rw [hb] at c1
      obtain ⟨x, hx⟩ : ∃ x : Nat, q.count 97 = x := ⟨_, rfl⟩
      obtain ⟨y, hy⟩ : ∃ x : Nat, q.count 98 = x := ⟨_, rfl⟩
      rw [hx, hy] at c1
      have CP : Hid (cntP q = ((x : Int), (y : Int))) := Lib.hid (by unfold cntP; rw [hx, hy])
      clear hb hx hy
      go_wp2_with fail
      refine c1.mono ?_
      rintro e w2 ⟨rfl, b2⟩
      have B2 := Lib.hid (B.out.trans (b2.mono hsz))
      have O2 := Lib.hid (O.out.grow b2)
      have hs2 := B2.out.size
      clear b2 c1
      cases b
      · have R : Hid (partsOf L = none) := Lib.hid (parts_bad ME.out HB.out)
        have A2 := Lib.hid (B2.out.trans ((new_pt w2 x y).2.2.mono hs2))
        go_wp2_with fail
        go_returns
        exact .inl ⟨R.out, rfl, BA.out.trans (A2.out.mono BA.out.size)⟩
      · obtain ⟨q1, q2, q3⟩ := new_pt w2 x y
        have S2 : Hid (∀ p ∈ P.take (j + 1), okPart p = true) := Lib.hid (fun p hp => by
          rcases TS.out p hp with h | h
          · exact S.out p h
          · rw [h]; exact HB.out)
        obtain ⟨w3, hw3⟩ : ∃ z, w2.alloc (.cells #[.int .i64 (x : Int), .int .i64 (y : Int)] 49) = z := ⟨_, rfl⟩
        rw [hw3] at q1 q2 q3
        have B3 := Lib.hid (B2.out.trans (q3.mono hs2))
        have O3 := Lib.hid (O2.out.grow q3)
        have hs3 := B3.out.size
        obtain ⟨n1, n2⟩ := new_two w3 (.int .i64 (x : Int)) (.int .i64 (y : Int)) 49
        have N1 := Lib.hid n1; have N2 := Lib.hid n2
        have A1 : Hid (Below w3.heap.size w3 (w3.alloc (.cells #[.int .i64 (x : Int), .int .i64 (y : Int)] 49))) := Lib.hid (by go_grown)
        have tl : ((P.take j).map cntP).length ≤ 4 := by rw [List.length_map, List.length_take]; have := P4.out; omega
        clear q3 n1 n2 O2 B2
        go_wp2_with (at_builtin; refine grwp_append prtT rfl _ _ rfl (B := w1.heap.size) _ _ rfl (O3.out.grow A1.out) ⟨w3.heap.size, 0, none⟩ ((x : Int), (y : Int)) rfl N1.out N2.out (by omega) (by simp; omega) ?_; intro v5 w5 hown5 b5; have O5 := Lib.hid hown5; have B5 := Lib.hid (B3.out.trans ((A1.out.mono hs3).trans b5)); clear hown5 b5)
        rw [← CP.out, ST.out] at O5
        go_roundg (gk - 1)
        case measure => have := K.out; omega
        case rel => exact ⟨j + 1, by go_num, by have := K.out; omega, .inr O5.out, S2.out, B5.out⟩
    · have PT : Hid (P.take j = P) := Lib.hid (List.take_of_length_le (by omega))
      obtain ⟨ts, t1, t2, t3, t4⟩ := parts_good (s := L) (by rw [PL.out]; exact P4.out) (by rw [PL.out, ← PT.out]; exact S.out)
      rw [PL.out] at t4
      have T4 := Lib.hid t4
      have O9 : Hid (GrwP 49 wr w1.heap.size u6 ((intA ts).zip (intB ts))) := Lib.hid (by have := O.out; rwa [PT.out, t4, cntP_body] at this)
      have C9 : Hid (∀ j (h : j < ts.length), wr.cell? ⟨w.heap.size, j, none⟩ = some (.string (str (body ts[j])))) := Lib.hid (fun j h => by
        have c := CA.out j (by rw [t4, List.length_map]; exact h)
        rw [(B.out.cell (cell_below c)).trans c]
        simp [t4])
      have LL : Hid (P.length = ts.length) := Lib.hid (by rw [t4, List.length_map])
      have T1 := Lib.hid t1; have T2 := Lib.hid t2
      clear t1 t2 t3 t4
      go_wp2_with fail
      go_returns
      refine .inr ⟨ts, w.heap.size, _, T1.out, T2.out, ?_, C9.out, O9.out.row, BA.out.trans (B.out.mono BA.out.size)⟩
      rw [← LL.out]
      rfl
end Go.Proofs.YtcemgdekcfdfhaaDoor
