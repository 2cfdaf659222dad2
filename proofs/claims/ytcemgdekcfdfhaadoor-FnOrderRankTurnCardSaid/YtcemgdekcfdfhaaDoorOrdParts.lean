/- The contract of the model's OrderParts: letters are counted part by part. -/
import Derived.Test.YtcemgdekcfdfhaaDoorOrdText
import Derived.Test.YtcemgdekcfdfhaaDoorTwoIP
namespace Go.Proofs.YtcemgdekcfdfhaaDoor
open Go.RowKit

theorem inP : IntT 23 := Tryd.underlying23
theorem intA_snoc (us : List Tx) (t : Tx) : intA (us ++ [t]) = intA us ++ [(na t : Int)] := by simp [intA]
theorem intB_snoc (us : List Tx) (t : Tx) : intB (us ++ [t]) = intB us ++ [(nb t : Int)] := by simp [intB]
theorem na_more (t : Tx) (x : Bool) : na (t ++ [x]) = na t + (if x then 0 else 1) := by cases x <;> simp [na]
theorem nb_more (t : Tx) (x : Bool) : nb (t ++ [x]) = nb t + (if x then 1 else 0) := by cases x <;> simp [nb]
theorem last_set (xs : List Int) (x y : Int) : (xs ++ [x]).set xs.length y = xs ++ [y] := by simp
theorem sp_snoc {s : List UInt8} {ts : List Tx} (h : sp s = some ts) : ∃ us t, ts = us ++ [t] := by
  have ne := (jn_sp h).2
  exact ⟨ts.dropLast, ts.getLast ne, (List.dropLast_concat_getLast ne).symm⟩
/-- Two lists of numbers of the call's own, apart from each other, and whether there are any. -/
def PartsB (w : World) (o : Option (List Int × List Int)) (e : Ending) (w' : World) : Prop :=
  ∃ v u, e = .returned (.tuple #[v, u, .bool o.isSome]) ∧ IOwn w' w.heap.size v ((o.map Prod.fst).getD []) ∧ IOwn w' w.heap.size u ((o.map Prod.snd).getD []) ∧ Apt v u ∧ Below w.heap.size w w'
theorem parts_letters {s : List UInt8} {ts : List Tx} (h : sp s = some ts) : ts.flatten.length + ts.length = s.length + 1 := by
  obtain ⟨e, ne⟩ := jn_sp h
  rw [← e]
  clear e h
  induction ts with
  | nil => exact absurd rfl ne
  | cons t ts ih =>
    cases ts with
    | nil => simp [jn, body]
    | cons u ts =>
      rw [jn_more]
      have := ih (by simp)
      simp only [List.flatten_cons, List.length_append, List.length_cons, body_length] at this ⊢
      omega
theorem na_le (us : List Tx) (t : Tx) : na t ≤ (us ++ [t]).flatten.length ∧ nb t ≤ (us ++ [t]).flatten.length := by
  have := na_nb t
  simp only [List.flatten_append, List.length_append, List.flatten_cons, List.flatten_nil, List.length_nil]
  omega
theorem newI (w1 : World) {w : World} (k : Below w.heap.size w w1) : Hid (IOwn ((w1.alloc (.cells #[] 3)).alloc (.cells #[] 3)) w.heap.size (.slice (some ⟨w1.heap.size, 0, none⟩) 0 0) [] ∧
    IOwn ((w1.alloc (.cells #[] 3)).alloc (.cells #[] 3)) w.heap.size (.slice (some ⟨w1.heap.size + 1, 0, none⟩) 0 0) [] ∧ Apt (.slice (some ⟨w1.heap.size, 0, none⟩) 0 0) (.slice (some ⟨w1.heap.size + 1, 0, none⟩) 0 0) ∧ Below w.heap.size w ((w1.alloc (.cells #[] 3)).alloc (.cells #[] 3))) := Lib.hid (by
  refine ⟨(iown_new k.size).grow ((Below.refl _ _).alloc (Nat.le_refl _) _), ?_, fun b h1 h2 => ?_, (k.alloc k.size _).alloc (by have := k.size; simp; omega) _⟩
  · have h9 := iown_new (w := w1.alloc (.cells #[] 3)) (B := w.heap.size) (by have := k.size; simp; omega)
    rw [World.size_alloc] at h9
    exact h9
  · have h8 : w1.heap.size = b := Option.some.inj h1
    have h9 : w1.heap.size + 1 = b := Option.some.inj h2
    omega)
set_option maxRecDepth 100000 in
set_option maxHeartbeats 3200000 in
theorem specParts_any (L : List UInt8) (hL : L.length ≤ 1048600) (w : World) :
    Calls Tryd.prog 17 #[.string (str L)] w fun e w' => PartsB w (partsOf L) e w' := by
  have SZ := str_size L
  have L0 : Hid (IBlk ((w.alloc (.cells #[.int .i64 0] 3)).alloc (.cells #[.int .i64 0] 3)) w.heap.size (.slice (some ⟨w.heap.size, 0, none⟩) 1 1) [0]) := Lib.hid ⟨(iown_one (Nat.le_refl _) 0).grow ((Below.refl _ _).alloc (Nat.le_refl _) _), _, rfl⟩
  have H0 : Hid (IBlk ((w.alloc (.cells #[.int .i64 0] 3)).alloc (.cells #[.int .i64 0] 3)) w.heap.size (.slice (some ⟨w.heap.size + 1, 0, none⟩) 1 1) [0]) := Lib.hid (by
    have h9 := iown_one (w := w.alloc (.cells #[.int .i64 0] 3)) (B := w.heap.size) (by simp) 0
    rw [World.size_alloc] at h9
    exact ⟨h9, _, rfl⟩)
  have P0 : Hid (Apt (.slice (some ⟨w.heap.size, 0, none⟩) 1 1) (.slice (some ⟨w.heap.size + 1, 0, none⟩) 1 1)) := Lib.hid (fun b hb he => by have h8 : w.heap.size = b := Option.some.inj hb; have h9 : w.heap.size + 1 = b := Option.some.inj he; omega)
  have B0 : Hid (Below w.heap.size w ((w.alloc (.cells #[.int .i64 0] 3)).alloc (.cells #[.int .i64 0] 3))) := Lib.hid (((Below.refl _ _).alloc (Nat.le_refl _) _).alloc (by simp) _)
  go_enter Tryd.func17, Tryd.ntmps17
  go_wp2_with fail
  go_loopg [5, 6, 7] L.length (fun k x y z wr => ∃ (j : Nat) (us : List Tx) (t : Tx), z = .int .i64 j ∧ j + k = L.length ∧ sp (L.take j) = some (us ++ [t]) ∧ IBlk wr w.heap.size x (intA us ++ [(na t : Int)]) ∧ IBlk wr w.heap.size y (intB us ++ [(nb t : Int)]) ∧ Apt x y ∧ Below w.heap.size w wr)
  case atStart => exact ⟨0, [], [], rfl, by omega, rfl, L0.out, H0.out, P0.out, B0.out⟩
  case round =>
    obtain ⟨j, us, t, rfl, hk, hs, hx, hy, ha, hb⟩ := hrel
    have K := Lib.hid hk; have S := Lib.hid hs; have X := Lib.hid hx; have Y := Lib.hid hy; have AP := Lib.hid ha; have B := Lib.hid hb
    have hjl : j ≤ L.length := by omega
    have cn := parts_letters hs
    have nl := na_le us t
    rw [List.length_take, List.length_append, List.length_singleton] at cn
    have ul : us.length ≤ 1048600 := by omega
    have nb1 : na t ≤ 1048600 := by omega
    have nb2 : nb t ≤ 1048600 := by omega
    clear hk hs hx hy ha hb cn nl L0 H0 P0 B0
    by_cases hlt : j < L.length
    · have hlz : j < (str L).size := by omega
      have i0 : (0 : Int) ≤ (j : Int) := by omega
      have i1 : (j : Int) < ((str L).size : Int) := by omega
      have hg : (str L)[j]'hlz = L[j] := by simp [str]; rfl
      have tk : L.take (j + 1) = L.take j ++ [L[j]] := List.take_succ_eq_append_getElem hlt
      obtain ⟨c, hc⟩ : ∃ c, L[j] = c := ⟨_, rfl⟩
      rw [hc] at hg tk
      obtain ⟨g1, c1, ex, v1, v2, v3, v4, hp⟩ := X.out.own.at (by simp)
      obtain ⟨g2, c2, ey, u1, u2, u3, u4', hq⟩ := Y.out.own.at (by simp)
      have la : (intA us).length = us.length := by simp [intA]
      have lb : (intB us).length = us.length := by simp [intB]
      rw [List.length_append, List.length_singleton, la] at ex
      rw [List.length_append, List.length_singleton, lb] at ey
      subst ex ey
      have w0 : IntKind.i64.wrap ((us.length : Int) + 1 - 1) = (us.length : Int) := by rw [show (us.length : Int) + 1 - 1 = us.length by omega]; exact IntWalk.i64_in _ (by omega)
      have ap1 := AP.out
      by_cases c97 : c = 97
      · subst c97
        have TK : Hid (L.take (j + 1) = L.take j ++ [97]) := Lib.hid tk
        have P := hp us.length (by simp [la])
        have d0 := P.cell; have f0 := P.froz
        have gt : (intA us ++ [(na t : Int)])[us.length]'(by simp [la]) = (na t : Int) := by simp [la]
        rw [gt] at d0
        have st := P.set ((na t : Int) + 1)
        have ls := last_set (intA us) (na t : Int) ((na t : Int) + 1)
        rw [la] at ls
        rw [ls] at st
        have e8 : IntKind.i64.wrap ((na t : Int) + 1) = (na t : Int) + 1 := IntWalk.i64_in _ (by omega)
        have li : (us.length : Int) < (us.length : Int) + 1 := by omega
        have OT := Lib.hid (Y.out.own.same fun k hk => Below.heap_setCell wr ⟨g1, us.length, none⟩ (.int .i64 ((na t : Int) + 1)) k (fun e2 => AP.out g1 rfl (by have h9 : k = g1 := e2; rw [← h9]; exact hk)))
        have ST := Lib.hid st; have BS := Lib.hid (B.out.setCell (p := ⟨g1, us.length, none⟩) v3 (.int .i64 ((na t : Int) + 1)))
        have SN := Lib.hid (sp_letter S.out false)
        clear P st ls gt tk hc hp hq ap1
        go_wp2_with fail
        go_roundg (gk - 1)
        case measure => have := K.out; omega
        case rel =>
          refine ⟨j + 1, us, t ++ [false], by go_num, by have := K.out; omega, by rw [TK.out]; exact SN.out, ⟨?_, g1, rfl⟩, ⟨?_, Y.out.blk⟩, AP.out, BS.out⟩
          · rw [na_more]; exact ST.out
          · rw [nb_more]; exact OT.out
      have f97 : ((c.toNat : Int) == 97) = false := beq_eq_false_iff_ne.2 (fun h => c97 (UInt8.toNat_inj.1 (by show c.toNat = 97; omega)))
      by_cases c98 : c = 98
      · subst c98
        have TK : Hid (L.take (j + 1) = L.take j ++ [98]) := Lib.hid tk
        have P := hq us.length (by simp [lb])
        have d0 := P.cell; have f0 := P.froz
        have gt : (intB us ++ [(nb t : Int)])[us.length]'(by simp [lb]) = (nb t : Int) := by simp [lb]
        rw [gt] at d0
        have st := P.set ((nb t : Int) + 1)
        have ls := last_set (intB us) (nb t : Int) ((nb t : Int) + 1)
        rw [lb] at ls
        rw [ls] at st
        have e8 : IntKind.i64.wrap ((nb t : Int) + 1) = (nb t : Int) + 1 := IntWalk.i64_in _ (by omega)
        have li : (us.length : Int) < (us.length : Int) + 1 := by omega
        have OT := Lib.hid (X.out.own.same fun k hk => Below.heap_setCell wr ⟨g2, us.length, none⟩ (.int .i64 ((nb t : Int) + 1)) k (fun e2 => AP.out.symm g2 rfl (by have h9 : k = g2 := e2; rw [← h9]; exact hk)))
        have ST := Lib.hid st; have BS := Lib.hid (B.out.setCell (p := ⟨g2, us.length, none⟩) u3 (.int .i64 ((nb t : Int) + 1)))
        have SN := Lib.hid (sp_letter S.out true)
        clear P st ls gt tk hc hp hq ap1
        go_wp2_with fail
        go_roundg (gk - 1)
        case measure => have := K.out; omega
        case rel =>
          refine ⟨j + 1, us, t ++ [true], by go_num, by have := K.out; omega, by rw [TK.out]; exact SN.out, ⟨?_, X.out.blk⟩, ⟨?_, g2, rfl⟩, AP.out, BS.out⟩
          · rw [na_more]; exact OT.out
          · rw [nb_more]; exact ST.out
      have f98 : ((c.toNat : Int) == 98) = false := beq_eq_false_iff_ne.2 (fun h => c98 (UInt8.toNat_inj.1 (by show c.toNat = 98; omega)))
      by_cases c124 : c = 124
      · subst c124
        have TK : Hid (L.take (j + 1) = L.take j ++ [124]) := Lib.hid tk
        have SN := Lib.hid (sp_bar S.out)
        clear tk hc hp hq ap1
        have zb := B.out.size
        have n1 := new_one wr (.int .i64 0) 3
        have N1 := Lib.hid n1
        have BW := Lib.hid ((Below.refl wr.heap.size wr).alloc (Nat.le_refl _) (.cells #[.int .i64 0] 3))
        clear n1
        go_wp2_with (at_builtin; refine iappend_blk inP rfl _ _ rfl (B := w.heap.size) _ _ rfl (X.out.grow BW.out) ⟨wr.heap.size, 0, none⟩ 0 rfl N1.out (by simp [la]; omega) (by simp; omega) ?_)
        intro v9 w9 o9 g9 h9
        have X9 := Lib.hid o9; have UB := Lib.hid (Y.out.grow BW.out); have A9 := Lib.hid (AP.out.new (w := wr.alloc (.cells #[.int .i64 0] 3)) (fun k hk => (UB.out.own.lt k hk).2) (by rw [World.size_alloc]; exact h9)); have Y9 := Lib.hid (UB.out.stays g9 AP.out.symm); have B9 := Lib.hid (B.out.trans (BW.out.mono zb |>.trans ((X.out.grow BW.out).own.below g9 (by simp; omega)))); clear o9 g9 h9
        have z9 := B9.out.size
        have n2 := new_one w9 (.int .i64 0) 3
        have N2 := Lib.hid n2
        have BV := Lib.hid ((Below.refl w9.heap.size w9).alloc (Nat.le_refl _) (.cells #[.int .i64 0] 3))
        clear n2 UB N1 BW
        go_wp2_with (at_builtin; refine iappend_blk inP rfl _ _ rfl (B := w.heap.size) _ _ rfl (Y9.out.grow BV.out) ⟨w9.heap.size, 0, none⟩ 0 rfl N2.out (by simp [lb]; omega) (by simp; omega) ?_)
        intro v8 w8 o9 g9 h9
        have Y8 := Lib.hid o9; have UB := Lib.hid (X9.out.grow BV.out); have A8 := Lib.hid ((A9.out.symm.new (w := w9.alloc (.cells #[.int .i64 0] 3)) (fun k hk => (UB.out.own.lt k hk).2) (by rw [World.size_alloc]; exact h9)).symm); have X8 := Lib.hid (UB.out.stays g9 A9.out); have B8 := Lib.hid (B9.out.trans (BV.out.mono z9 |>.trans ((Y9.out.grow BV.out).own.below g9 (by simp; omega)))); clear o9 g9 h9
        go_wp2_with fail
        go_roundg (gk - 1)
        case measure => have := K.out; omega
        case rel =>
          refine ⟨j + 1, us ++ [t], [], by go_num, by have := K.out; omega, by rw [TK.out]; exact SN.out, ?_, ?_, A8.out, B8.out⟩
          · rw [intA_snoc, List.append_assoc]; exact X8.out
          · rw [intB_snoc, List.append_assoc]; exact Y8.out
      · have f124 : ((c.toNat : Int) == 124) = false := beq_eq_false_iff_ne.2 (fun h => c124 (UInt8.toNat_inj.1 (by show c.toNat = 124; omega)))
        have R : Hid (partsOf L = none) := Lib.hid (by
          have e : L = L.take j ++ c :: L.drop (j + 1) := by
            have hc2 : L[j]'hlt = c := hc
            rw [← hc2, ← List.drop_eq_getElem_cons hlt, List.take_append_drop]
          unfold partsOf
          rw [e, sp_other c97 c98 c124])
        have NI := newI wr B.out
        clear tk hc hp hq ap1
        go_wp2_with fail
        go_ret3
        rw [R.out]
        exact ⟨_, _, rfl, NI.out.1, NI.out.2.1, NI.out.2.2.1, NI.out.2.2.2⟩
    · have SL : Hid (sp L = some (us ++ [t])) := Lib.hid (by have := S.out; rwa [List.take_of_length_le (by omega)] at this)
      have i1 : ¬ (j : Int) < ((str L).size : Int) := by omega
      obtain ⟨pc, hpc⟩ : ∃ b, isPar (intA (us ++ [t])) (intB (us ++ [t])) = b := ⟨_, rfl⟩
      have XR := Lib.hid X.out.own.row; have YR := Lib.hid Y.out.own.row
      have hp2 := hpc
      rw [intA_snoc, intB_snoc] at hp2
      have PC := Lib.hid hpc; have PC2 := Lib.hid hp2
      clear hpc hp2
      go_wp2_with fail
      refine (parS_is XR.out YR.out PC2.out).mono ?_
      rintro e w5 ⟨rfl, b5⟩
      have B5 := Lib.hid (B.out.trans (b5.mono B.out.size)); have X5 := Lib.hid (X.out.grow b5); have Y5 := Lib.hid (Y.out.grow b5)
      clear b5
      cases pc
      · have R : Hid (partsOf L = none) := Lib.hid (by unfold partsOf; rw [SL.out]; simp only [PC.out]; rfl)
        have NI := newI w5 B5.out
        go_wp2_with fail
        go_ret3
        rw [R.out]
        exact ⟨_, _, rfl, NI.out.1, NI.out.2.1, NI.out.2.2.1, NI.out.2.2.2⟩
      · have R : Hid (partsOf L = some (intA us ++ [(na t : Int)], intB us ++ [(nb t : Int)])) := Lib.hid (by unfold partsOf; rw [SL.out]; simp only [PC.out]; rw [intA_snoc, intB_snoc]; rfl)
        go_wp2_with fail
        go_ret3
        rw [R.out]
        exact ⟨_, _, rfl, X5.out.own, Y5.out.own, AP.out, B5.out⟩
end Go.Proofs.YtcemgdekcfdfhaaDoor
