/- The contracts of the model's ranks: of the text of a part, of orders. -/
import Derived.Test.YtcemgdekcfdfhaaDoorOrdParts
import Derived.Laws.Strings2
namespace Go.Proofs.YtcemgdekcfdfhaaDoor
open Go.RowKit

theorem body_get (t : Tx) (j : Nat) (h : j < (body t).length) (h2 : j < t.length) : (body t)[j] = byt t[j] := by simp [body]
theorem rk_a (t : Tx) : rk (false :: t) = rk t := rfl
theorem rk_b (t : Tx) : rk (true :: t) = (if na t = 0 then 0 else ch (na t - 1) (nb t + 1)) + rk t := rfl
set_option maxRecDepth 100000 in
set_option maxHeartbeats 3200000 in
theorem rank_any (t : Tx) (ha : na t ≤ 6) (hb : nb t ≤ 6) (w : World) :
    Calls Tryd.prog 35 #[.string (str (body t)), .int .i64 (na t), .int .i64 (nb t)] w fun e w' => e = .returned (.int .i64 (rk t)) ∧ w = w' := by
  have SZ := str_size (body t)
  have tl : t.length ≤ 12 := by have := na_nb t; omega
  rw [body_length] at SZ
  have top := rk_lt t
  have cm := ch_most (na t) (by omega) (nb t) (by omega)
  go_enter Tryd.func35, Tryd.ntmps35
  go_wp2_with fail
  go_loopg [1, 2, 7, 8] t.length (fun k x y z i wr => ∃ (j n : Nat), i = .int .i64 j ∧ j + k = t.length ∧ x = .int .i64 (na (t.drop j)) ∧ y = .int .i64 (nb (t.drop j)) ∧ z = .int .i64 n ∧ n + rk (t.drop j) = rk t ∧ w = wr)
  case atStart => exact ⟨0, 0, rfl, by omega, rfl, rfl, rfl, by simp, rfl⟩
  case round =>
    obtain ⟨j, n, rfl, hk, rfl, rfl, rfl, hn, rfl⟩ := hrel
    have K := Lib.hid hk; have N := Lib.hid hn
    have hjl : j ≤ t.length := by omega
    have nt : n ≤ 924 := by omega
    clear hk hn
    by_cases hlt : j < t.length
    · have hlz : j < (str (body t)).size := by omega
      have i0 : (0 : Int) ≤ (j : Int) := by omega
      have i1 : (j : Int) < ((str (body t)).size : Int) := by omega
      have hg : (str (body t))[j]'hlz = byt t[j] := by
        have h9 := body_get t j (by rw [body_length]; exact hlt) hlt
        rw [← h9]; rfl
      have dd := List.drop_eq_getElem_cons hlt
      obtain ⟨r, hr⟩ : ∃ r, t.drop (j + 1) = r := ⟨_, rfl⟩
      have rn : na (t.drop j) ≤ na t ∧ nb (t.drop j) ≤ nb t := ⟨(List.drop_sublist _ _).count_le _, (List.drop_sublist _ _).count_le _⟩
      obtain ⟨c, hc⟩ : ∃ c, t[j] = c := ⟨_, rfl⟩
      rw [hc, hr] at dd
      rw [hc] at hg
      rw [dd] at N rn ⊢
      have HR := Lib.hid hr
      clear dd hr hc
      cases c
      · have e1 : na (false :: r) = na r + 1 := na_a r
        have e2 : nb (false :: r) = nb r := nb_a r
        rw [e1, e2] at rn ⊢
        have N2 : Hid (n + rk r = rk t) := Lib.hid (by have := N.out; rwa [rk_a] at this)
        have s1 : IntKind.i64.wrap (((na r + 1 : Nat) : Int) - 1) = (na r : Int) := by rw [show ((na r + 1 : Nat) : Int) - 1 = (na r : Int) by omega]; exact IntWalk.i64_in _ (by omega)
        have s2 : IntKind.i64.wrap (na r : Int) = (na r : Int) := IntWalk.i64_in _ (by omega)
        have hg2 : (str (body t))[j]'hlz = 97 := hg
        clear e1 e2 hg
        go_wp2_with fail
        go_roundg (gk - 1)
        case measure => have := K.out; omega
        case rel => exact ⟨j + 1, n, by go_num, by have := K.out; omega, by rw [HR.out], by rw [HR.out], rfl, by rw [HR.out]; exact N2.out, rfl⟩
      · have e1 : na (true :: r) = na r := na_b r
        have e2 : nb (true :: r) = nb r + 1 := nb_b r
        rw [e1, e2] at rn ⊢
        have hg2 : (str (body t))[j]'hlz = 98 := hg
        have s1 : IntKind.i64.wrap (((nb r + 1 : Nat) : Int) - 1) = (nb r : Int) := by rw [show ((nb r + 1 : Nat) : Int) - 1 = (nb r : Int) by omega]; exact IntWalk.i64_in _ (by omega)
        have s2 : IntKind.i64.wrap (nb r : Int) = (nb r : Int) := IntWalk.i64_in _ (by omega)
        have n9 := N.out
        rw [rk_b] at n9
        clear e1 e2 hg
        cases hz : na r with
        | zero =>
          rw [hz, if_pos rfl] at n9
          have N2 : Hid (n + rk r = rk t) := Lib.hid (by omega)
          have HZ := Lib.hid hz
          clear n9 hz
          go_wp2_with fail
          go_roundg (gk - 1)
          case measure => have := K.out; omega
          case rel => exact ⟨j + 1, n, by go_num, by have := K.out; omega, by rw [HR.out, HZ.out], by rw [HR.out], rfl, by rw [HR.out]; exact N2.out, rfl⟩
        | succ q =>
          rw [hz, if_neg (by omega), Nat.add_sub_cancel] at n9
          obtain ⟨c, hc⟩ : ∃ c, ch q (nb r + 1) = c := ⟨_, rfl⟩
          rw [hc] at n9
          have cq := choose_any q (nb r + 1) (by omega) (by omega)
          rw [hc] at cq
          have N2 : Hid (n + c + rk r = rk t) := Lib.hid (by omega)
          have HZ := Lib.hid hz
          have i3 : (0 : Int) < (q : Int) + 1 := by omega
          have s3 : IntKind.i64.wrap (((q + 1 : Nat) : Int) - 1) = (q : Int) := by rw [show ((q + 1 : Nat) : Int) - 1 = (q : Int) by omega]; exact IntWalk.i64_in _ (by omega)
          have s4 : IntKind.i64.wrap ((q : Int) + 1 - 1) = (q : Int) := by rw [show (q : Int) + 1 - 1 = (q : Int) by omega]; exact IntWalk.i64_in _ (by omega)
          have s5 : IntKind.i64.wrap (q : Int) = (q : Int) := IntWalk.i64_in _ (by omega)
          have s6 : IntKind.i64.wrap ((n : Int) + (c : Int)) = ((n + c : Nat) : Int) := by rw [show (n : Int) + (c : Int) = ((n + c : Nat) : Int) by omega]; exact IntWalk.i64_in _ (by omega)
          clear n9 hz hc
          go_wp2_with fail
          refine (cq _).mono ?_
          rintro e w1 ⟨rfl, rfl⟩
          go_wp2_with fail
          go_roundg (gk - 1)
          case measure => have := K.out; omega
          case rel => exact ⟨j + 1, n + c, by go_num, by have := K.out; omega, by rw [HR.out, HZ.out]; first | rfl | (simp; done), by rw [HR.out], by first | rfl | (simp; done), by rw [HR.out]; exact N2.out, rfl⟩
    · have RT : Hid (n = rk t) := Lib.hid (by have := N.out; rw [List.drop_of_length_le (by omega)] at this; exact this)
      have i1 : ¬ (j : Int) < ((str (body t)).size : Int) := by omega
      go_wp2_with fail
      go_ret
      exact ⟨by rw [RT.out]; rfl, rfl⟩
/-- Where a part begins in the text. -/
def ofs : List Tx → Nat → Nat
  | _, 0 => 0
  | [], _ + 1 => 0
  | t :: ts, j + 1 => t.length + 1 + ofs ts j
theorem jn_part : ∀ (ts : List Tx) (j : Nat) (h : j < ts.length), ((jn ts).drop (ofs ts j)).take ts[j].length = body ts[j] ∧ ofs ts j + ts[j].length ≤ (jn ts).length
  | [], j, h => by simp at h
  | [t], 0, _ => by
    have hl : (body t).length = t.length := body_length t
    simp only [ofs, List.drop_zero, List.getElem_cons_zero, jn_one]
    exact ⟨by rw [← hl, List.take_length], by omega⟩
  | [t], j + 1, h => by simp at h
  | t :: u :: ts, 0, _ => by
    rw [jn_more]
    simp only [ofs, List.drop_zero, List.getElem_cons_zero]
    have hl : (body t).length = t.length := body_length t
    refine ⟨?_, by simp [hl]⟩
    rw [← hl, List.take_left]
  | t :: u :: ts, j + 1, h => by
    have ih := jn_part (u :: ts) j (by simpa using h)
    rw [jn_more]
    simp only [ofs, List.getElem_cons_succ]
    have hl : (body t).length = t.length := body_length t
    refine ⟨?_, ?_⟩
    · rw [show t.length + 1 + ofs (u :: ts) j = (body t).length + (ofs (u :: ts) j + 1) by omega, List.drop_append, show (body t).length + (ofs (u :: ts) j + 1) - (body t).length = ofs (u :: ts) j + 1 by omega, List.drop_of_length_le (by omega), List.nil_append, List.drop_succ_cons]
      exact ih.1
    · have := ih.2
      simp only [List.length_append, List.length_cons, hl]
      omega
theorem ofs_next : ∀ (ts : List Tx) (j : Nat) (h : j < ts.length), ofs ts (j + 1) = ofs ts j + (ts[j]'h).length + 1
  | [], j, h => by simp at h
  | t :: ts, 0, _ => by cases ts <;> simp [ofs]
  | t :: ts, j + 1, h => by
    have ih := ofs_next ts j (by simpa using h)
    simp only [ofs, List.getElem_cons_succ] at ih ⊢
    rw [ih]; omega
theorem str_extract (L : List UInt8) (lo n : Nat) : (str L).extract lo (lo + n) = str ((L.drop lo).take n) := by
  unfold str
  rw [ByteArray.extract_mk]
  congr 1
  simp
set_option maxRecDepth 100000 in
set_option maxHeartbeats 3200000 in
theorem specRank_any (L : List UInt8) (hL : L.length ≤ 1048600) (w : World) :
    Calls Tryd.prog 14 #[.string (str L)] w fun e w' => Val w (.int .i64 (rankOf L)) e w' := by
  have SZ := str_size L
  cases hp : partsOf L with
  | none =>
    have HP := Lib.hid hp
    have R : Hid (rankOf L = -1) := Lib.hid (by
      unfold partsOf at hp
      unfold rankOf
      cases c : sp L with
      | none => rfl
      | some ts =>
        rw [c] at hp
        simp only at hp ⊢
        split at hp
        · cases hp
        · rename_i h; rw [if_neg h])
    clear hp
    go_enter Tryd.func14, Tryd.ntmps14
    go_wp2_with fail
    refine (specParts_any L hL _).mono ?_
    rintro e w1 ⟨v, u, rfl, o1, o2, ap, b1⟩
    have B1 := Lib.hid b1
    rw [HP.out]
    clear o1 o2 ap b1
    go_wp2_with fail
    go_ret
    exact ⟨by rw [R.out]; rfl, B1.out⟩
  | some ab =>
    obtain ⟨a, b⟩ := ab
    have HP := Lib.hid hp
    obtain ⟨ts, hts, hpar, rfl, rfl⟩ : ∃ ts, sp L = some ts ∧ isPar (intA ts) (intB ts) = true ∧ intA ts = a ∧ intB ts = b := by
      unfold partsOf at hp
      cases c : sp L with
      | none => rw [c] at hp; cases hp
      | some ts =>
        rw [c] at hp
        simp only at hp
        split at hp
        · rename_i h; cases hp; exact ⟨ts, rfl, h, rfl, rfl⟩
        · cases hp
    have R : Hid (rankOf L = (rks ts : Int)) := Lib.hid (by unfold rankOf; rw [hts]; simp only; rw [if_pos hpar])
    have W := Lib.hid (isPar_iff.1 hpar)
    obtain ⟨rfl, -⟩ := jn_sp hts
    have la : (intA ts).length = ts.length := by simp [intA]
    have lb : (intB ts).length = ts.length := by simp [intB]
    have t4 : ts.length ≤ 4 := by have := W.out.most; omega
    have t1 : 1 ≤ ts.length := by have := W.out.one; omega
    have six : Hid (∀ j (h : j < ts.length), na ts[j] ≤ 6 ∧ nb ts[j] ≤ 6) := Lib.hid (fun j h => by
      have h1 := W.out.a6 j (by omega); have h2 := W.out.b6 j (by omega)
      simp only [intA, intB, List.getElem_map] at h1 h2
      omega)
    have top := rks_lt ts
    have bd := cnt_four W.out.small (by rw [par_length _ _ W.out.len]; exact W.out.most)
    rw [par_int] at bd
    clear hp hts hpar
    go_enter Tryd.func14, Tryd.ntmps14
    go_wp2_with fail
    refine (specParts_any _ hL _).mono ?_
    rintro e w1 ⟨v, u, rfl, o1, o2, ap, b1⟩
    rw [HP.out] at o1 o2 ⊢
    simp only [Option.map_some, Option.getD_some] at o1 o2
    obtain ⟨g1, c1, rfl, v1, v2, v3, v4, hx⟩ := o1.at (by omega)
    obtain ⟨g2, c2, rfl, u1, u2, u3, u4, hy⟩ := o2.at (by omega)
    rw [la] at o1
    rw [lb] at o2
    have B1 := Lib.hid b1; have X1 := Lib.hid o1; have Y1 := Lib.hid o2
    have CX : Hid (∀ j (h : j < ts.length), w1.cell? ⟨g1, j, none⟩ = some (.int .i64 (na ts[j]))) := Lib.hid (fun j h => by
      have := (hx j (by omega)).cell; simpa [intA] using this)
    have CY : Hid (∀ j (h : j < ts.length), w1.cell? ⟨g2, j, none⟩ = some (.int .i64 (nb ts[j]))) := Lib.hid (fun j h => by
      have := (hy j (by omega)).cell; simpa [intB] using this)
    simp only [la, lb]
    clear o1 o2 ap b1 hx hy
    go_wp2_with fail
    go_loopg [6, 7, 8] ts.length (fun k x y z wr => ∃ (j n : Nat), z = .int .i64 j ∧ j + k = ts.length ∧ x = .int .i64 n ∧ y = .int .i64 (ofs ts j) ∧ n + rks (ts.drop j) = rks ts ∧ Below w1.heap.size w1 wr)
    case atStart => exact ⟨0, 0, rfl, by omega, rfl, by cases ts <;> rfl, by simp, Below.refl _ _⟩
    case round =>
      obtain ⟨j, n, rfl, hk, rfl, rfl, hn, hb⟩ := hrel
      have K := Lib.hid hk; have N := Lib.hid hn; have B := Lib.hid hb
      have hjl : j ≤ ts.length := by omega
      clear hk hn hb
      by_cases hlt : j < ts.length
      · have s6 := six.out j hlt
        have jp := jn_part ts j hlt
        have on := ofs_next ts j hlt
        have n9 := N.out
        rw [List.drop_eq_getElem_cons hlt] at n9
        have y1 := (B.out.cell (cell_below (CX.out j hlt))).trans (CX.out j hlt)
        have y2 := (B.out.cell (cell_below (CY.out j hlt))).trans (CY.out j hlt)
        obtain ⟨c, hc⟩ : ∃ c, ts[j] = c := ⟨_, rfl⟩
        rw [hc] at s6 jp on n9 y1 y2
        have cl := na_nb c
        obtain ⟨f, hf⟩ : ∃ f, ofs ts j = f := ⟨_, rfl⟩
        rw [hf] at jp on ⊢
        have cn0 : ∀ (w' : World), IRow w' (.slice (some ⟨g1, 0, none⟩) ts.length c1) (intA ts) → IRow w' (.slice (some ⟨g2, 0, none⟩) ts.length c2) (intB ts) → Calls Tryd.prog 30 #[.slice (some ⟨g1, 0, none⟩) ts.length c1, .slice (some ⟨g2, 0, none⟩) ts.length c2, .int .i64 ((j : Int) + 1)] w' fun e w'' => Val w' (.int .i64 (cnt ((ts.drop (j + 1)).map cts) : Nat)) e w'' := fun w' h1 h2 => by
          have h9 := count_any h1 h2 W.out (j + 1) (by omega)
          rw [par_int, ← List.map_drop, show ((j + 1 : Nat) : Int) = (j : Int) + 1 by omega] at h9
          exact h9
        simp only [rks] at n9
        obtain ⟨d, hd⟩ : ∃ d, cnt ((ts.drop (j + 1)).map cts) = d := ⟨_, rfl⟩
        rw [hd] at n9 cn0
        obtain ⟨m, hm⟩ : ∃ m, rk c * d = m := ⟨_, rfl⟩
        rw [hm] at n9
        have e1 : (rk c : Int) * (d : Int) = (m : Int) := by rw [← hm]; exact (Int.natCast_mul _ _).symm
        have N2 : Hid (n + m + rks (ts.drop (j + 1)) = rks ts) := Lib.hid (by omega)
        have ON : Hid (ofs ts (j + 1) = f + c.length + 1) := Lib.hid on
        have cn := cn0
        have w1' : IntKind.i64.wrap ((f : Int) + (na c : Int)) = (f : Int) + (na c : Int) := IntWalk.i64_in _ (by have := jp.2; omega)
        have w2' : IntKind.i64.wrap ((f : Int) + (na c : Int) + (nb c : Int)) = (f : Int) + (c.length : Int) := by rw [show (f : Int) + (na c : Int) + (nb c : Int) = (f : Int) + (c.length : Int) by omega]; exact IntWalk.i64_in _ (by have := jp.2; omega)
        have w3' : IntKind.i64.wrap ((f : Int) + (c.length : Int) + 1) = ((f + c.length + 1 : Nat) : Int) := by rw [show (f : Int) + (c.length : Int) + 1 = ((f + c.length + 1 : Nat) : Int) by omega]; exact IntWalk.i64_in _ (by have := jp.2; omega)
        have w4' : IntKind.i64.wrap ((rk c : Int) * (d : Int)) = (m : Int) := by rw [e1]; exact IntWalk.i64_in _ (by omega)
        have w5' : IntKind.i64.wrap ((n : Int) + (m : Int)) = ((n + m : Nat) : Int) := by rw [show (n : Int) + (m : Int) = ((n + m : Nat) : Int) by omega]; exact IntWalk.i64_in _ (by omega)
        have w6' : IntKind.i64.wrap ((j : Int) + 1) = (j : Int) + 1 := IntWalk.i64_in _ (by omega)
        have ex : (str (jn ts)).extract f (f + c.length) = str (body c) := by rw [str_extract, jp.1]
        have i0 : (0 : Int) ≤ (j : Int) := by omega
        have i1 : (j : Int) < (ts.length : Int) := by omega
        have i2 : (0 : Int) ≤ (f : Int) := by omega
        have i3 : (f : Int) ≤ (f : Int) + (c.length : Int) := by omega
        have i4 : (f : Int) + (c.length : Int) ≤ ((jn ts).length : Int) := by have := jp.2; omega
        have i5 : ((f : Int) + (c.length : Int)).toNat = f + c.length := by omega
        clear n9 e1 hd hm jp on hc hf
        have hzB := B.out.size
        have mkS : ∀ w' : World, Below wr.heap.size wr w' → (fun w' => (Below wr.heap.size wr w' ∧ w'.cell? ⟨g1, j, none⟩ = some (.int .i64 (na c)) ∧ w'.cell? ⟨g2, j, none⟩ = some (.int .i64 (nb c)))) w' := fun w' b => ⟨b, (b.cell (cell_below y1)).trans y1, (b.cell (cell_below y2)).trans y2⟩
        go_wp2_with fail
        go_quiet (fail)
        go_wp2_with fail
        refine wp_region_held_drew (S := (fun w' => (Below wr.heap.size wr w' ∧ w'.cell? ⟨g1, j, none⟩ = some (.int .i64 (na c)) ∧ w'.cell? ⟨g2, j, none⟩ = some (.int .i64 (nb c))))) (by kernel_rfl) (by exact mkS _ (below_drews (Below.refl _ _) _).drew) (fun hHeld => ?_)
        refine take_h 0 38 rfl rfl (by kernel_rfl) (by kernel_rfl) (by kernel_rfl) (fun _ _ _ h => h) (by kernel_rfl) (by intro w hSw; (try dsimp only at hSw); go_simp; try with_reducible rfl) (by assumption) ?_
        refine take_h 1 39 rfl rfl (by kernel_rfl) (by kernel_rfl) (by kernel_rfl) (fun _ _ _ h => h) (by kernel_rfl) (by intro w hSw; (try dsimp only at hSw); go_simp; try with_reducible rfl) (by assumption) ?_
        refine take_h 2 40 rfl rfl (by kernel_rfl) (by kernel_rfl) (by kernel_rfl) (fun _ _ _ h => h) (by kernel_rfl) (by intro w hSw; (try dsimp only at hSw); go_simp; try with_reducible rfl) (by assumption) ?_
        refine take_h 3 41 rfl rfl (by kernel_rfl) (by kernel_rfl) (by kernel_rfl) (fun _ _ _ h => h) (by kernel_rfl) (by intro w hSw; (try dsimp only at hSw); go_simp; try with_reducible rfl) (by assumption) ?_
        refine take_h 4 42 rfl rfl (by kernel_rfl) (by kernel_rfl) (by kernel_rfl) (fun _ _ _ h => h) (by kernel_rfl) (by intro w hSw; (try dsimp only at hSw); go_simp; try with_reducible rfl) (by assumption) ?_
        refine take_h 5 43 rfl rfl (by kernel_rfl) (by kernel_rfl) (by kernel_rfl) (fun _ _ _ h => h) (by kernel_rfl) (by intro w hSw; (try dsimp only at hSw); go_simp; try with_reducible rfl) (by assumption) ?_
        refine take_h 6 44 rfl rfl (by kernel_rfl) (by kernel_rfl) (by kernel_rfl) (fun _ _ _ h => h) (by kernel_rfl) (by intro w hSw; (try dsimp only at hSw); go_simp; try with_reducible rfl) (by assumption) ?_
        refine take_h 7 45 rfl rfl (by kernel_rfl) (by kernel_rfl) (by kernel_rfl) (fun _ _ _ h => h) (by kernel_rfl) (by intro w hSw; (try dsimp only at hSw); go_simp; try with_reducible rfl) (by assumption) ?_
        refine take_h 8 46 rfl rfl (by kernel_rfl) (by kernel_rfl) (by kernel_rfl) (fun _ _ _ h => h) (by kernel_rfl) (by intro w hSw; (try dsimp only at hSw); go_simp; try with_reducible rfl) (by assumption) ?_
        refine take_h 9 47 rfl rfl (by kernel_rfl) (by kernel_rfl) (by kernel_rfl) (fun _ _ _ h => h) (by kernel_rfl) (by intro w hSw; (try dsimp only at hSw); go_simp; try with_reducible rfl) (by assumption) ?_
        refine take_h 11 49 rfl rfl (by kernel_rfl) (by kernel_rfl) (by kernel_rfl) (fun _ _ _ h => h) (by kernel_rfl) (by intro w hSw; (try dsimp only at hSw); go_simp; try with_reducible rfl) (by assumption) ?_
        refine take_h 12 50 rfl rfl (by kernel_rfl) (by kernel_rfl) (by kernel_rfl) (fun _ _ _ h => h) (by kernel_rfl) (by intro w hSw; (try dsimp only at hSw); go_simp; try with_reducible rfl) (by assumption) ?_
        refine take_h 13 51 rfl rfl (by kernel_rfl) (by kernel_rfl) (by kernel_rfl) (fun _ _ _ h => h) (by kernel_rfl) (by intro w hSw; (try dsimp only at hSw); go_simp; try with_reducible rfl) (by assumption) ?_
        refine take_h 14 52 rfl rfl (by kernel_rfl) (by kernel_rfl) (by kernel_rfl) (fun _ _ _ h => h) (by kernel_rfl) (by intro w hSw; (try dsimp only at hSw); go_simp; try with_reducible rfl) (by assumption) ?_
        refine wpAnyH_ready (rs := [10]) (by kernel_rfl) (by simp) (AllReadyH.cons rfl (fun K hK => ?_) AllReadyH.nil)
        go_simp
        go_wp2_with ((go_at_call 35; refine (rank_any c (by omega) (by omega) _).mono ?_; rintro e w8 ⟨rfl, rfl⟩))
        refine hK.out _ _ (by (try dsimp only); exact hHeld) (fun hHeld => ?_)
        clear hK K
        refine wpAnyH_ready (rs := [15]) (by kernel_rfl) (by simp) (AllReadyH.cons rfl (fun K hK => ?_) AllReadyH.nil)
        go_simp
        go_wp2_with ((go_at_call 30; refine (cn _ (X1.out.row.grow (B.out.trans (hHeld.1.mono hzB))) (Y1.out.row.grow (B.out.trans (hHeld.1.mono hzB)))).mono ?_; rintro e w9 ⟨rfl, b9⟩; have b9' := Below.trans hHeld.1 (b9.mono hHeld.1.size)))
        refine hK.out _ _ (by (try dsimp only); exact mkS _ b9') (fun hHeld => ?_)
        clear hK K
        refine take_h 16 54 rfl rfl (by kernel_rfl) (by kernel_rfl) (by kernel_rfl) (fun _ _ _ h => h) (by kernel_rfl) (by intro w hSw; (try dsimp only at hSw); go_simp; try with_reducible rfl) (by assumption) ?_
        refine take_h 17 55 rfl rfl (by kernel_rfl) (by kernel_rfl) (by kernel_rfl) (fun _ _ _ h => h) (by kernel_rfl) (by intro w hSw; (try dsimp only at hSw); go_simp; try with_reducible rfl) (by assumption) ?_
        refine take_h 18 6 rfl rfl (by kernel_rfl) (by kernel_rfl) (by kernel_rfl) (fun _ _ _ h => h) (by kernel_rfl) (by intro w hSw; (try dsimp only at hSw); go_simp; try with_reducible rfl) (by assumption) ?_
        refine wpAnyH_done (by kernel_rfl) ?_ _
        simp only [Exit.then]
        simp only [Act.put, List.setIfInBounds_toArray, List.set_cons_succ, List.set_cons_zero]
        have z1 := hHeld.2.1; have z2 := hHeld.2.2
        have B9 := Lib.hid (B.out.trans (hHeld.1.mono hzB))
        clear y1 y2 mkS b9 b9' hHeld cn cn0
        go_wp2_with fail
        go_quiet (fail)
        go_wp2_with fail
        go_roundg (gk - 1)
        case measure => have := K.out; omega
        case rel => exact ⟨j + 1, n + m, by go_num, by have := K.out; omega, by first | rfl | (simp; done), by rw [ON.out, Int.natCast_add, Int.natCast_add]; rfl, N2.out, below_drews B9.out _⟩
      · have RT : Hid (n = rks ts) := Lib.hid (by have := N.out; rw [List.drop_of_length_le (by omega)] at this; exact this)
        have zz := B1.out.size
        go_wp2_with fail
        go_ret
        exact ⟨by rw [R.out, RT.out]; rfl, B1.out.trans (B.out.mono zz)⟩
end Go.Proofs.YtcemgdekcfdfhaaDoor
