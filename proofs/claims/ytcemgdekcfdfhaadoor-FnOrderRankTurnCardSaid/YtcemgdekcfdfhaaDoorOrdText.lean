/- The contracts of the model's functions on orders: the text of a part, the orders with a rank. -/
import Derived.Test.YtcemgdekcfdfhaaDoorOrdSpec
import Derived.Laws.Concat
namespace Go.Proofs.YtcemgdekcfdfhaaDoor
open Go.RowKit

/-- A text of bytes. -/
def str (l : List UInt8) : ByteArray := ⟨l.toArray⟩
theorem str_append (l m : List UInt8) : str l ++ str m = str (l ++ m) := by
  unfold str; simp [ByteArray.mk_append_mk]
theorem str_size (l : List UInt8) : (str l).size = l.length := by simp [str, ByteArray.size]
theorem add_str (o p : List UInt8) (w : World) (h : o.length + p.length ≤ 1000000) : (Op.stringOp .add (str o) (str p)).run Tryd.prog w = .ok (.string (str (o ++ p))) w := by
  rw [run_string_add_sum w _ _ (by rw [str_size, str_size]; omega), str_append]
theorem tx_a {a b n : Nat} (h : n < ch a b) : tx (a + 1) b n = false :: tx a b n := by
  cases b with
  | zero => rw [ch_left] at h; rw [tx_left, show n = 0 by omega]
  | succ b => rw [tx_step, if_pos h]
theorem tx_b {a b n : Nat} (h : ¬ n < ch a b) (hn : n < ch (a + 1) b) : ∃ b', b = b' + 1 ∧ tx (a + 1) b n = true :: tx (a + 1) b' (n - ch a b) ∧ n - ch a b < ch (a + 1) b' := by
  cases b with
  | zero => rw [ch_left] at h hn; omega
  | succ b => rw [ch_step] at hn; exact ⟨b, rfl, by rw [tx_step, if_neg h], by omega⟩
theorem tx_0 (b n : Nat) : tx 0 (b + 1) n = true :: tx 0 b n := by rw [tx_none, tx_none, List.replicate_succ]
set_option maxRecDepth 100000 in
set_option maxHeartbeats 1600000 in
theorem text_any (a b n : Nat) (ha : a < 7) (hb : b < 7) (hn : n < ch a b) (w : World) :
    Calls Tryd.prog 31 #[.int .i64 a, .int .i64 b, .int .i64 n] w fun e w' => e = .returned (.string (str (body (tx a b n)))) ∧ w = w' := by
  obtain ⟨T, hT⟩ : ∃ T, body (tx a b n) = T := ⟨_, rfl⟩
  have TL : T.length = a + b := by rw [← hT, body_length, tx_length]
  rw [hT]
  have HT := Lib.hid hT; have HN := Lib.hid hn
  clear hT hn
  go_enter Tryd.func31, Tryd.ntmps31
  go_wp2_with fail
  go_loopg [0, 1, 2, 7] (a + b) (fun k x y z t wr => ∃ (a' b' n' : Nat) (o : List UInt8), x = .int .i64 a' ∧ y = .int .i64 b' ∧ z = .int .i64 n' ∧ t = .string (str o) ∧ a' + b' = k ∧ a' ≤ a ∧ b' ≤ b ∧ n' < ch a' b' ∧ o ++ body (tx a' b' n') = T ∧ w = wr)
  case atStart => exact ⟨a, b, n, [], rfl, rfl, rfl, rfl, rfl, Nat.le_refl _, Nat.le_refl _, HN.out, by rw [List.nil_append]; exact HT.out, rfl⟩
  case round =>
    obtain ⟨a', b', n', o, rfl, rfl, rfl, rfl, hk, hla, hlb, hn', ho, rfl⟩ := hrel
    have K := Lib.hid hk; have O := Lib.hid ho; have N := Lib.hid hn'
    have ol : o.length ≤ 12 := by have := congrArg List.length ho; rw [List.length_append] at this; omega
    have add1 : ∀ w, (Op.stringOp .add (str o) ⟨#[97]⟩).run Tryd.prog w = .ok (.string (str (o ++ [97]))) w := fun w => add_str o [97] w (by simp; omega)
    have add2 : ∀ w, (Op.stringOp .add (str o) ⟨#[98]⟩).run Tryd.prog w = .ok (.string (str (o ++ [98]))) w := fun w => add_str o [98] w (by simp; omega)
    have s1 : IntKind.i64.wrap ((a' : Int) + (b' : Int)) = (a' : Int) + (b' : Int) := IntWalk.i64_in _ (by omega)
    have nb9 := ch_most a' (by omega) b' (by omega)
    clear hk ho
    cases a' with
    | zero =>
      cases b' with
      | zero =>
        have OT : Hid (o = T) := Lib.hid (by have := O.out; simpa [tx, body] using this)
        go_wp2_with fail
        go_ret
        exact ⟨by rw [OT.out]; rfl, rfl⟩
      | succ b' =>
        have i1 : (0 : Int) < (b' : Int) + 1 := by omega
        have i2 : ¬ (n' : Int) < 0 := by omega
        have s2 : IntKind.i64.wrap ((b' : Int) + 1 - 1) = (b' : Int) := by rw [show (b' : Int) + 1 - 1 = b' by omega]; exact IntWalk.i64_in _ (by omega)
        have s3 : IntKind.i64.wrap ((n' : Int) - 0) = (n' : Int) := by rw [Int.sub_zero]; exact IntWalk.i64_in _ (by omega)
        have s4 : IntKind.i64.wrap (n' : Int) = (n' : Int) := IntWalk.i64_in _ (by omega)
        have s5 : IntKind.i64.wrap (b' : Int) = (b' : Int) := IntWalk.i64_in _ (by omega)
        have s6 : IntKind.i64.wrap ((b' : Int) + 1) = (b' : Int) + 1 := IntWalk.i64_in _ (by omega)
        have NX : Hid ((o ++ [98]) ++ body (tx 0 b' n') = T) := Lib.hid (by have := O.out; rw [tx_0] at this; simpa [body, byt] using this)
        go_wp2_with fail
        go_roundg (gk - 1)
        case measure => have := K.out; omega
        case rel => exact ⟨0, b', n', _, rfl, by first | rfl | go_num, by first | rfl | go_num, rfl, by have := K.out; omega, by omega, by omega, by have := N.out; rw [ch_none] at this ⊢; omega, NX.out, rfl⟩
    | succ a' =>
      have i1 : (0 : Int) < (a' : Int) + 1 + (b' : Int) := by omega
      have i3 : (0 : Int) < (a' : Int) + 1 := by omega
      have s2 : IntKind.i64.wrap ((a' : Int) + 1 - 1) = (a' : Int) := by rw [show (a' : Int) + 1 - 1 = a' by omega]; exact IntWalk.i64_in _ (by omega)
      have s5 : IntKind.i64.wrap (a' : Int) = (a' : Int) := IntWalk.i64_in _ (by omega)
      by_cases hc : n' < ch a' b'
      · have i4 : (n' : Int) < (ch a' b' : Nat) := by omega
        have NX : Hid ((o ++ [97]) ++ body (tx a' b' n') = T) := Lib.hid (by have := O.out; rw [tx_a hc] at this; simpa [body, byt] using this)
        have HC := Lib.hid hc
        clear hc
        go_wp2_with fail
        refine (choose_any a' b' (by omega) (by omega) _).mono ?_
        rintro e w1 ⟨rfl, rfl⟩
        go_wp2_with fail
        go_roundg (gk - 1)
        case measure => have := K.out; omega
        case rel => exact ⟨a', b', n', _, by first | rfl | go_num, rfl, rfl, rfl, by have := K.out; omega, by omega, by omega, HC.out, NX.out, rfl⟩
      · have i4 : ¬ (n' : Int) < (ch a' b' : Nat) := by omega
        obtain ⟨b'', rfl, t1, t2⟩ := tx_b hc N.out
        have NX : Hid ((o ++ [98]) ++ body (tx (a' + 1) b'' (n' - ch a' (b'' + 1))) = T) := Lib.hid (by have := O.out; rw [t1] at this; simpa [body, byt] using this)
        have T2 := Lib.hid t2
        have s6 : IntKind.i64.wrap ((b'' : Int) + 1 - 1) = (b'' : Int) := by rw [show (b'' : Int) + 1 - 1 = b'' by omega]; exact IntWalk.i64_in _ (by omega)
        have s7 : IntKind.i64.wrap (b'' : Int) = (b'' : Int) := IntWalk.i64_in _ (by omega)
        have s8 : IntKind.i64.wrap ((n' : Int) - ((ch a' (b'' + 1) : Nat) : Int)) = ((n' - ch a' (b'' + 1) : Nat) : Int) := by rw [show (n' : Int) - ((ch a' (b'' + 1) : Nat) : Int) = ((n' - ch a' (b'' + 1) : Nat) : Int) by omega]; exact IntWalk.i64_in _ (by omega)
        have cc := choose_any a' (b'' + 1) (by omega) (by omega)
        rw [show (((b'' + 1 : Nat)) : Int) = (b'' : Int) + 1 by omega] at cc
        clear hc t1 t2
        go_wp2_with fail
        refine (cc _).mono ?_
        rintro e w1 ⟨rfl, rfl⟩
        go_wp2_with fail
        go_roundg (gk - 1)
        case measure => have := K.out; omega
        case rel => exact ⟨a' + 1, b'', n' - ch a' (b'' + 1), _, by first | rfl | go_num, by first | rfl | go_num, by first | rfl | go_num, rfl, by have := K.out; omega, by omega, by omega, T2.out, NX.out, rfl⟩
theorem text_is {x y : Int} {n : Nat} {t : List UInt8} (hx : 0 ≤ x ∧ x ≤ 6) (hy : 0 ≤ y ∧ y ≤ 6) (hn : n < ch x.toNat y.toNat) (ht : body (tx x.toNat y.toNat n) = t) (w : World) :
    Calls Tryd.prog 31 #[.int .i64 x, .int .i64 y, .int .i64 n] w fun e w' => e = .returned (.string (str t)) ∧ w = w' := by
  have h := text_any x.toNat y.toNat n (by omega) (by omega) hn w
  rw [ht, Int.toNat_of_nonneg hx.1, Int.toNat_of_nonneg hy.1] at h
  exact h
/-- A text, and whether there is one. -/
def NthB (w : World) (o : Option (List UInt8)) (e : Ending) (w' : World) : Prop := e = .returned (.tuple #[.string (str (o.getD [])), .bool o.isSome]) ∧ Below w.heap.size w w'
theorem nthOf_no {a b : List Int} {n : Int} (h : isIn n 0 (countOf a b - 1) = false) : nthOf a b n = none := by
  unfold nthOf
  rw [if_neg]
  rintro ⟨h1, h2, h3⟩
  unfold countOf at h
  rw [if_pos h1] at h
  simp only [isIn, decide_eq_false_iff_not] at h
  omega
theorem nthOf_yes {a b : List Int} {n : Int} (h : isIn n 0 (countOf a b - 1) = true) : IsPar a b ∧ 0 ≤ n ∧ n < (cnt (par a b) : Int) ∧ nthOf a b n = some (jn (txs (par a b) n.toNat)) := by
  unfold countOf at h
  simp only [isIn, decide_eq_true_eq] at h
  by_cases hp : isPar a b = true
  · rw [if_pos hp] at h
    have h3 : n < (cnt (par a b) : Int) := by omega
    exact ⟨isPar_iff.1 hp, h.1, h3, by unfold nthOf; rw [if_pos ⟨hp, h.1, h3⟩]⟩
  · rw [if_neg hp] at h; omega
theorem jn_take {ts : List Tx} {j : Nat} (hj : j < ts.length) : jn (ts.take (j + 1)) = if j = 0 then body ts[j] else jn (ts.take j) ++ 124 :: body ts[j] := by
  rw [List.take_succ_eq_append_getElem hj]
  split
  · rename_i h; subst h; rfl
  · rename_i h
    exact jn_snoc _ (fun e => by have h9 := congrArg List.length e; rw [List.length_take, List.length_nil] at h9; omega) _
theorem txs_drop {ps : List Pt} {j m : Nat} (hj : j < ps.length) : txs (ps.drop j) m = tx ps[j].1 ps[j].2 (m / cnt (ps.drop (j + 1))) :: txs (ps.drop (j + 1)) (m % cnt (ps.drop (j + 1))) := by
  rw [List.drop_eq_getElem_cons hj]; rfl
theorem cnt_drop {ps : List Pt} {j : Nat} (hj : j < ps.length) : cnt (ps.drop j) = ch ps[j].1 ps[j].2 * cnt (ps.drop (j + 1)) := by
  rw [List.drop_eq_getElem_cons hj]; rfl
theorem body_le {x y n : Nat} (hx : x ≤ 6) (hy : y ≤ 6) : (body (tx x y n)).length ≤ 12 := by rw [body_length, tx_length]; omega
set_option maxRecDepth 100000 in
set_option maxHeartbeats 3200000 in
theorem specNth_any {w : World} {v u : Value} {a b : List Int} (n : Int) (h : IRow w v a) (k : IRow w u b) (hn63 : -9223372036854775808 ≤ n ∧ n ≤ 9223372036854775807) :
    Calls Tryd.prog 9 #[v, u, .int .i64 n] w fun e w' => NthB w (nthOf a b n) e w' := by
  obtain ⟨pa, ca, rfl, h1, h2⟩ := h.len
  obtain ⟨pb, cb, rfl, k1, k2⟩ := k.len
  have H := Lib.hid h; have H' := Lib.hid k
  unfold maxLen at h2 k2
  obtain ⟨c, hc⟩ : ∃ c, countOf a b = c := ⟨_, rfl⟩
  have HC := Lib.hid hc
  have cb9 : -1 ≤ c ∧ c ≤ 728933458176 := by
    rw [← hc]; unfold countOf
    split
    · rename_i hp
      have W := isPar_iff.1 hp
      have := cnt_four W.small (by rw [par_length a b W.len]; exact W.most)
      omega
    · omega
  have s1 : IntKind.i64.wrap (c - 1) = c - 1 := IntWalk.i64_in _ (by omega)
  clear h k hc
  cases hx : isIn n 0 (c - 1)
  · have HX := Lib.hid hx
    have R : Hid (nthOf a b n = none) := Lib.hid (nthOf_no (by rw [HC.out]; exact hx))
    clear hx
    go_enter Tryd.func9, Tryd.ntmps9
    go_wp2_with fail
    refine (countS_is H.out H'.out HC.out).mono ?_
    rintro e w1 ⟨rfl, b1⟩
    have B1 := Lib.hid b1
    clear b1
    go_wp2_with fail
    refine (inn_is HX.out _).mono ?_
    rintro e w2 ⟨rfl, rfl⟩
    go_wp2_with fail
    go_ret2
    exact ⟨by rw [R.out]; rfl, B1.out⟩
  · have HX := Lib.hid hx
    obtain ⟨hp, n0, n1, hr⟩ := nthOf_yes (a := a) (b := b) (n := n) (by rw [HC.out]; exact hx)
    obtain ⟨N, rfl⟩ : ∃ N : Nat, n = (N : Int) := ⟨n.toNat, by omega⟩
    have W := Lib.hid hp
    have a4 := hp.most; have a1 := hp.one
    have PL := Lib.hid (par_length a b hp.len)
    have SM := Lib.hid hp.small
    obtain ⟨ts, hts⟩ : ∃ ts, txs (par a b) N = ts := ⟨_, rfl⟩
    have TL : Hid (ts.length = a.length) := Lib.hid (by rw [← hts, txs_length, PL.out])
    rw [Int.toNat_natCast, hts] at hr
    have R := Lib.hid hr
    have TS := Lib.hid hts
    have NC : Hid (N < cnt (par a b)) := Lib.hid (by omega)
    clear hx hp hr hts n1
    go_enter Tryd.func9, Tryd.ntmps9
    go_wp2_with fail
    refine (countS_is H.out H'.out HC.out).mono ?_
    rintro e w1 ⟨rfl, b1⟩
    have B1 := Lib.hid b1
    clear b1
    go_wp2_with fail
    refine (inn_is HX.out _).mono ?_
    rintro e w2 ⟨rfl, rfl⟩
    go_wp2_with fail
    go_loopg [2, 8, 9] a.length (fun k x y z wr => ∃ (j m : Nat) (o : List UInt8), z = .int .i64 j ∧ j + k = a.length ∧ x = .int .i64 m ∧ y = .string (str o) ∧ o = jn (ts.take j) ∧ o.length ≤ 13 * j ∧ txs ((par a b).drop j) m = ts.drop j ∧ m < cnt ((par a b).drop j) ∧ Below w.heap.size w wr)
    case atStart => exact ⟨0, N, [], rfl, by omega, rfl, rfl, rfl, by simp, TS.out, NC.out, B1.out⟩
    case round =>
      obtain ⟨j, m, o, rfl, hk, rfl, rfl, ho, hol, ht, hm, hb⟩ := hrel
      have K := Lib.hid hk; have O := Lib.hid ho; have T := Lib.hid ht; have M := Lib.hid hm; have B := Lib.hid hb
      have hjl : j ≤ a.length := by omega
      clear hk ho ht hm hb
      by_cases hlt : j < a.length
      · have hlb : j < b.length := by have := W.out.len; omega
        have hlp : j < (par a b).length := by have := PL.out; omega
        have hlt2 : j < ts.length := by have := TL.out; omega
        obtain ⟨ga, oa, c1, e1, _, _⟩ := H.out.known (by omega)
        simp only [Value.slice.injEq, true_and] at e1
        obtain ⟨rfl, rfl⟩ := e1
        obtain ⟨gb, ob, c2, e2, _, _⟩ := H'.out.known (by omega)
        simp only [Value.slice.injEq, true_and] at e2
        obtain ⟨rfl, rfl⟩ := e2
        have d1 := H.out.cells j hlt
        have d2 := H'.out.cells j hlb
        have x6 := W.out.a6 j hlt; have y6 := W.out.b6 j hlb
        have td := txs_drop (ps := par a b) (j := j) (m := m) hlp
        have cd := cnt_drop (ps := par a b) (j := j) hlp
        rw [T.out, List.drop_eq_getElem_cons hlt2, List.cons.injEq] at td
        obtain ⟨td1, td2⟩ := td
        have jt := jn_take (ts := ts) (j := j) hlt2
        have bd := cnt_four (ps := (par a b).drop j) (small_sub SM.out fun p hp => List.mem_of_mem_drop hp) (by rw [List.length_drop]; have := PL.out; omega)
        have c1p := cnt_pos ((par a b).drop (j + 1))
        rw [par_get a b j hlp hlt hlb] at td1 cd
        simp only at td1 cd
        obtain ⟨r, hr⟩ : ∃ r, cnt ((par a b).drop (j + 1)) = r := ⟨_, rfl⟩
        rw [hr] at td1 td2 cd c1p
        have mlt := M.out
        rw [cd] at mlt bd
        obtain ⟨x, hx⟩ : ∃ x, a[j] = x := ⟨_, rfl⟩
        obtain ⟨y, hy⟩ : ∃ y, b[j] = y := ⟨_, rfl⟩
        rw [hx] at d1 x6 td1 mlt bd
        rw [hy] at d2 y6 td1 mlt bd
        have qlt : m / r < ch x.toNat y.toNat := by rw [Nat.div_lt_iff_lt_mul (by omega)]; exact mlt
        have rm : m % r < r := Nat.mod_lt _ (by omega)
        have dle : m / r ≤ m := Nat.div_le_self m r
        have mb : m ≤ 728933458176 := by omega
        have rb : r ≤ 728933458176 := by
          have := Nat.le_mul_of_pos_left r (ch_pos x.toNat y.toNat)
          omega
        have e2 : ((m : Int).tdiv (r : Int)) = ((m / r : Nat) : Int) := by rw [Int.tdiv_eq_ediv_of_nonneg (by omega)]; exact (Int.natCast_ediv m r).symm
        have e3 : ((m : Int).tmod (r : Int)) = ((m % r : Nat) : Int) := by rw [Int.tmod_eq_emod_of_nonneg (by omega)]; exact (Int.natCast_emod m r).symm
        obtain ⟨q, hq⟩ : ∃ q, m / r = q := ⟨_, rfl⟩
        obtain ⟨z, hz⟩ : ∃ z, m % r = z := ⟨_, rfl⟩
        rw [hq] at qlt td1 e2 dle
        rw [hz] at rm td2 e3
        obtain ⟨t, ht⟩ : ∃ t, body (tx x.toNat y.toNat q) = t := ⟨_, rfl⟩
        have t12 : t.length ≤ 12 := by rw [← ht]; exact body_le (by omega) (by omega)
        rw [td1, ht] at jt
        have HR := Lib.hid hr; have HT := Lib.hid ht; have QL := Lib.hid qlt; have RM : Hid (z < cnt ((par a b).drop (j + 1))) := Lib.hid (by rw [hr]; exact rm); have T2 := Lib.hid td2.symm; have JT := Lib.hid jt
        have D1 := Lib.hid d1; have D2 := Lib.hid d2
        have i0 : (0 : Int) ≤ (j : Int) := by omega
        have i1 : (j : Int) < (a.length : Int) := by omega
        have i2 : (j : Int) < (b.length : Int) := by omega
        have e1 : IntKind.i64.wrap ((j : Int) + 1) = (j : Int) + 1 := IntWalk.i64_in _ (by omega)
        have e4 : IntKind.i64.wrap (q : Int) = (q : Int) := IntWalk.i64_in _ (by omega)
        have e5 : IntKind.i64.wrap (z : Int) = (z : Int) := IntWalk.i64_in _ (by omega)
        have e6 : ((r : Int) == 0) = false := beq_eq_false_iff_ne.2 (by omega)
        have e7 : ¬ (r : Int) = 0 := by omega
        have cn := count_any (w := wr) (H.out.grow B.out) (H'.out.grow B.out) W.out (j + 1) (by omega)
        rw [hr, show ((j + 1 : Nat) : Int) = (j : Int) + 1 by omega] at cn
        clear d1 d2 hx hy hr ht qlt rm td1 td2 cd jt mlt bd c1p hq hz dle
        go_wp2_with fail
        refine cn.mono ?_
        rintro e w5 ⟨rfl, b5⟩
        have B5 := Lib.hid (B.out.trans (b5.mono B.out.size))
        have y1 := (B5.out.cell (cell_below D1.out)).trans D1.out
        have y2 := (B5.out.cell (cell_below D2.out)).trans D2.out
        clear b5 cn
        by_cases hj0 : j = 0
        · subst hj0
          have OE : Hid (o = []) := Lib.hid (by rw [O.out]; rfl)
          have ad : ∀ w, (Op.stringOp .add (str o) (str t)).run Tryd.prog w = .ok (.string (str (o ++ t))) w := fun w => add_str o t w (by omega)
          have NX : Hid (o ++ t = jn (ts.take 1)) := Lib.hid (by rw [OE.out, List.nil_append]; have := JT.out; rw [if_pos rfl] at this; exact this.symm)
          simp only [Nat.add_zero] at y1 y2
          go_wp2_with fail
          go_quiet ((go_at_call 31; refine Calls.quiet_of_same ((text_is x6 y6 QL.out HT.out _).mono fun _ _ h => ⟨h.1, h.2.symm⟩)))
          go_wp2_with fail
          go_roundg (gk - 1)
          case measure => have := K.out; omega
          case rel => exact ⟨1, z, _, by go_num, by have := K.out; omega, rfl, rfl, NX.out, by simp; omega, T2.out, RM.out, below_drews B5.out _⟩
        · have i3 : (0 : Int) < (j : Int) := by omega
          have ad1 : ∀ w, (Op.stringOp .add (str o) ⟨#[124]⟩).run Tryd.prog w = .ok (.string (str (o ++ [124]))) w := fun w => add_str o [124] w (by simp; omega)
          have ad : ∀ w, (Op.stringOp .add (str (o ++ [124])) (str t)).run Tryd.prog w = .ok (.string (str (o ++ [124] ++ t))) w := fun w => add_str _ t w (by simp; omega)
          have NX : Hid (o ++ [124] ++ t = jn (ts.take (j + 1))) := Lib.hid (by have := JT.out; rw [if_neg hj0, ← O.out] at this; rw [this]; simp)
          clear hj0
          go_wp2_with fail
          go_quiet ((go_at_call 31; refine Calls.quiet_of_same ((text_is x6 y6 QL.out HT.out _).mono fun _ _ h => ⟨h.1, h.2.symm⟩)))
          go_wp2_with fail
          go_roundg (gk - 1)
          case measure => have := K.out; omega
          case rel => exact ⟨j + 1, z, _, by go_num, by have := K.out; omega, rfl, rfl, by simpa using NX.out, by simp; omega, T2.out, RM.out, below_drews B5.out _⟩
      · have OT : Hid (o = jn ts) := Lib.hid (by rw [O.out, List.take_of_length_le (by have := TL.out; omega)])
        go_wp2_with fail
        go_ret2
        exact ⟨by rw [R.out, OT.out]; rfl, B.out⟩
end Go.Proofs.YtcemgdekcfdfhaaDoor
