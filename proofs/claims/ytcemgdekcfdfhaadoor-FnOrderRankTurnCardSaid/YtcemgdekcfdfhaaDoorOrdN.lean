/- The program's texts of orders: the order of a part with a rank, and OrderNth. -/
import Derived.Test.YtcemgdekcfdfhaaDoorShelf
import Derived.Test.YtcemgdekcfdfhaaDoorOrdI2
import Derived.Test.YtcemgdekcfdfhaaDoorOneL
import Derived.Test.YtcemgdekcfdfhaaDoorOrdText
import Derived.Test.YtcemgdekcfdfhaaDoorOrdCut
import Derived.Laws.BytesArg
namespace Go.Proofs.YtcemgdekcfdfhaaDoor
open Go.RowKit

theorem bytT : OneT 5 22 (.int .u8 0) 1 := ⟨Tryd.underlying22, by kernel_rfl, by decide, rfl⟩
theorem strT : OneT 9 47 (.string ByteArray.empty) 16 := ⟨Tryd.underlying47, by kernel_rfl, by decide, rfl⟩
def bytV (x : UInt8) : Value := .int .u8 x.toNat
/-- A part that a method has in memory, as its own variable. -/
def PtC (w : World) (p : Nat) (x y : Int) : Prop := w.heap[p]? = some (.cells #[.int .i64 x, .int .i64 y] 49 (0, 0))
theorem PtC.c0 {w : World} {p : Nat} {x y : Int} (h : PtC w p x y) : w.cell? ⟨p, 0, none⟩ = some (.int .i64 x) := by rw [cell_of_row w p 0 _ _ _ h]; rfl
theorem PtC.c1 {w : World} {p : Nat} {x y : Int} (h : PtC w p x y) : w.cell? ⟨p, 1, none⟩ = some (.int .i64 y) := by rw [cell_of_row w p 1 _ _ _ h]; rfl
theorem PtC.froz {w : World} {p : Nat} {x y : Int} (h : PtC w p x y) (i : Nat) : w.frozen? ⟨p, i, none⟩ = false := by
  have h' : w.heap[p]? = some (.cells #[.int .i64 x, .int .i64 y] 49 (0, 0)) := h
  simp [World.frozen?, h']
theorem PtC.set0 {w : World} {p : Nat} {x y : Int} (h : PtC w p x y) (z : Int) : PtC (w.setCell ⟨p, 0, none⟩ (.int .i64 z)) p z y := heap_setCell_same w p 0 _ _ _ h
theorem PtC.set1 {w : World} {p : Nat} {x y : Int} (h : PtC w p x y) (z : Int) : PtC (w.setCell ⟨p, 1, none⟩ (.int .i64 z)) p x z := heap_setCell_same w p 1 _ _ _ h
theorem PtC.keep {w w' : World} {p B : Nat} {x y : Int} (h : PtC w p x y) (k : Below B w w') (hp : p < B) : PtC w' p x y := (k.block p hp).trans h
theorem PtC.lt {w : World} {p : Nat} {x y : Int} (h : PtC w p x y) : p < w.heap.size := (Array.getElem?_eq_some_iff.1 h).1
theorem ptc_new (w : World) (x y : Int) : PtC (w.alloc (.cells #[.int .i64 x, .int .i64 y] 49)) w.heap.size x y := by
  show (w.heap.push _)[w.heap.size]? = _
  simp
/-- The text of a list of bytes of the call's own. -/
theorem conv_bytes {w : World} {B : Nat} {v : Value} {l : List UInt8} (h : GrwV 5 w B v (l.map bytV)) : (convert 22 9 v).run Tryd.prog w = .ok (.string (str l)) w := by
  rcases h with ⟨hl, a, rfl⟩ | h
  · obtain rfl : l = [] := by simpa using hl
    cases a with
    | none => exact run_convert_bytes_nil w _ _ Tryd.underlying22 Tryd.underlying5 0 0 _ Tryd.underlying9
    | some a =>
      rw [run_convert_bytes_string w _ _ 5 (some a) 0 0 Tryd.underlying22 Tryd.underlying5 Tryd.underlying9, run_bytesToString w a 0 0 [] (by simpa using run_loadCells_list (P := Tryd.prog) w a [] (fun j v hj => by simp at hj))]
      rfl
  · cases l with
    | nil =>
      rcases h.2 with ⟨rfl, _⟩ | ⟨g, cap, cur, rfl, _⟩
      · exact run_convert_bytes_nil w _ _ Tryd.underlying22 Tryd.underlying5 0 0 _ Tryd.underlying9
      · exact run_convert_bytes_arg w _ _ Tryd.underlying22 Tryd.underlying5 g 0 _ _ [] rfl (fun i hi => by simp at hi) _ Tryd.underlying9
    | cons x l =>
      obtain ⟨g, c, rfl, _, _, _, hc⟩ := h.parts (by simp)
      have k := run_convert_bytes_arg w _ _ Tryd.underlying22 Tryd.underlying5 g 0 ((x :: l).map bytV).length c ((x :: l).map fun b => ((b.toNat : Nat) : Int)) (by simp) (fun i hi => by
        have := hc i hi
        rw [Nat.zero_add, this]
        simp only [List.getElem_map, bytV]
        have hi' : i < ((x :: l).map fun b => ((b.toNat : Nat) : Int)).length := by simpa using hi
        have e : ((x :: l).map fun b => ((b.toNat : Nat) : Int)).getD i 0 = (((x :: l)[i]'(by simpa using hi)).toNat : Int) := by
          rw [List.getD, List.getElem?_eq_getElem hi', Option.getD_some, List.getElem_map]
        rw [e]) _ Tryd.underlying9
      rw [k]
      congr 2
      unfold strOfNums str
      congr 2
      rw [List.map_map]
      conv => rhs; rw [← List.map_id (x :: l)]
      apply List.map_congr_left
      intro b _
      simp
theorem tx_go_a {a b n : Nat} (h : n < begN a b) : ∃ a', a = a' + 1 ∧ tx a b n = false :: tx a' b n ∧ n < ch a' b := by
  unfold begN at h
  cases a with
  | zero => simp at h
  | succ a => rw [if_neg (by omega), Nat.add_sub_cancel] at h; exact ⟨a, rfl, tx_a h, h⟩
theorem tx_go_b {a b n : Nat} (h : ¬ n < begN a b) (hn : n < ch a b) (h0 : 0 < a + b) : ∃ b', b = b' + 1 ∧ tx a b n = true :: tx a b' (n - begN a b) ∧ n - begN a b < ch a b' := by
  unfold begN at h ⊢
  cases a with
  | zero =>
    obtain ⟨b', rfl⟩ : ∃ b', b = b' + 1 := ⟨b - 1, by omega⟩
    rw [ch_none] at hn
    exact ⟨b', rfl, by rw [if_pos rfl, tx_0, Nat.sub_zero, tx_none], by rw [if_pos rfl, ch_none]; omega⟩
  | succ a =>
    rw [if_neg (by omega), Nat.add_sub_cancel] at h ⊢
    exact tx_b h hn
theorem begN_le (a b : Nat) : begN a b ≤ ch a b := by
  unfold begN
  cases a with
  | zero => simp
  | succ a => rw [if_neg (by omega), Nat.add_sub_cancel]; exact ch_mono
theorem new_byt (w : World) (u : Value) (t : TypeId) : (w.alloc (.cells #[u] t)).cell? ((⟨w.heap.size, 0, none⟩ : Addr).add 0) = some u ∧ Below w.heap.size w (w.alloc (.cells #[u] t)) := ⟨new_one w u t, by go_grown⟩
set_option maxRecDepth 100000 in
set_option maxHeartbeats 3200000 in
theorem nthI_any {w : World} {g : Nat} (h : Tab w g) (a b n : Nat) (ha : a < 7) (hb : b < 7) (hn : n < ch a b) :
    Calls Tryd.prog 27 #[.pointer (some ⟨g, 0, none⟩), .agg #[.int .i64 a, .int .i64 b], .int .i64 n] w fun e w' => e = .returned (.string (str (body (tx a b n)))) ∧ Below w.heap.size w w' := by
  obtain ⟨T, hT⟩ : ∃ T, body (tx a b n) = T := ⟨_, rfl⟩
  have TL : T.length = a + b := by rw [← hT, body_length, tx_length]
  rw [hT]
  have HT := Lib.hid hT; have HN := Lib.hid hn
  have nb := (new_pt w a b).2.2
  have N0 : Hid (PtC ((w.alloc (.cells #[.int .i64 (a : Int), .int .i64 (b : Int)] 49)).alloc (.cells #[] 5)) w.heap.size a b ∧ Below w.heap.size w ((w.alloc (.cells #[.int .i64 (a : Int), .int .i64 (b : Int)] 49)).alloc (.cells #[] 5))) := Lib.hid ⟨(ptc_new w a b).keep (B := w.heap.size + 1) (by go_grown) (by omega), by go_grown⟩
  have TB := Lib.hid h
  have hsz : w.heap.size + 2 = ((w.alloc (.cells #[.int .i64 (a : Int), .int .i64 (b : Int)] 49)).alloc (.cells #[] 5)).heap.size := by simp
  clear hT hn nb h
  go_enter Tryd.func27, Tryd.ntmps27
  go_wp2_with fail
  go_loopg [2, 7] (a + b) (fun k x y wr => ∃ (a' b' n' : Nat) (o : List UInt8), x = .int .i64 n' ∧ GrwV 5 wr (w.heap.size + 1) y (o.map bytV) ∧ a' + b' = k ∧ a' ≤ a ∧ b' ≤ b ∧ n' < ch a' b' ∧ o ++ body (tx a' b' n') = T ∧ PtC wr w.heap.size a' b' ∧ Below w.heap.size w wr)
  case atStart => exact ⟨a, b, n, [], rfl, .inl ⟨rfl, _, rfl⟩, rfl, Nat.le_refl _, Nat.le_refl _, HN.out, by rw [List.nil_append]; exact HT.out, N0.out.1, N0.out.2⟩
  case round =>
    obtain ⟨a', b', n', o, rfl, hgr, hk, hla, hlb, hn', ho, hp, hb⟩ := hrel
    have K := Lib.hid hk; have O := Lib.hid ho; have N := Lib.hid hn'; have G := Lib.hid hgr; have P := Lib.hid hp; have BB := Lib.hid hb
    have ol : o.length ≤ 12 := by have := congrArg List.length ho; rw [List.length_append] at this; omega
    have c0 := hp.c0; have c1 := hp.c1
    have s1 : IntKind.i64.wrap ((a' : Int) + (b' : Int)) = (a' : Int) + (b' : Int) := IntWalk.i64_in _ (by omega)
    have n9 := ch_most a' (by omega) b' (by omega)
    clear hk ho hgr hb
    by_cases h0 : 0 < a' + b'
    · have h0' : (0 : Int) < (a' : Int) + (b' : Int) := by omega
      have bl := begN_le a' b'
      obtain ⟨f, hf⟩ : ∃ f, begN a' b' = f := ⟨_, rfl⟩
      have F : Hid (begN ((a' : Int)).toNat ((b' : Int)).toNat = f) := Lib.hid (by simpa using hf)
      rw [hf] at bl
      by_cases lt : n' < f
      · have lt' : (n' : Int) < (f : Int) := by omega
        obtain ⟨a1, rfl, t1, t2⟩ := tx_go_a (by rw [hf]; exact lt)
        have NX : Hid ((o ++ [97]) ++ body (tx a1 b' n') = T) := Lib.hid (by have := O.out; rw [t1] at this; simpa [body, byt] using this)
        have T2 := Lib.hid t2
        have s2 : IntKind.i64.wrap ((a1 : Int) + 1 - 1) = (a1 : Int) := by rw [show (a1 : Int) + 1 - 1 = a1 by omega]; exact IntWalk.i64_in _ (by omega)
        have s3 : IntKind.i64.wrap (a1 : Int) = (a1 : Int) := IntWalk.i64_in _ (by omega)
        have x6 : 0 ≤ ((a1 : Int) + 1) ∧ ((a1 : Int) + 1) ≤ 6 := by omega
        have y6 : 0 ≤ (b' : Int) ∧ (b' : Int) ≤ 6 := by omega
        have F : Hid (begN (((a1 : Int) + 1)).toNat ((b' : Int)).toNat = f) := Lib.hid (by rw [show (((a1 : Int) + 1)).toNat = (a1 + 1) by omega, show ((b' : Int)).toNat = b' by omega]; exact hf)
        clear t1 t2 hf hp lt
        go_wp2_with fail
        refine (beg_is (TB.out.grow BB.out) x6 y6 F.out).mono ?_
        rintro e w2 ⟨rfl, b2⟩
        have P2 := Lib.hid (P.out.keep b2 P.out.lt)
        have G2 := Lib.hid (G.out.grow b2)
        have B2 := Lib.hid (BB.out.trans (b2.mono BB.out.size))
        have z2 : w.heap.size + 1 ≤ w2.heap.size := P2.out.lt
        have N1 : Hid ((w2.alloc (.cells #[.int .u8 97] 5)).cell? ((⟨w2.heap.size, 0, none⟩ : Addr).add 0) = some (bytV 97) ∧ Below w2.heap.size w2 (w2.alloc (.cells #[.int .u8 97] 5))) := Lib.hid (new_byt w2 (.int .u8 97) _)
        have lo : (o.map bytV).length ≤ 12 := by rw [List.length_map]; exact ol
        clear b2 c0 c1
        go_wp2_with (at_builtin; refine grwv_append bytT rfl _ _ rfl (B := w.heap.size + 1) _ _ rfl (G2.out.grow N1.out.2) ⟨w2.heap.size, 0, none⟩ (bytV 97) rfl rfl N1.out.1 (by omega) (by simp; omega) ?_; intro v5 w5 hown5 b5; have O5 := Lib.hid hown5; have b6 := (N1.out.2.mono z2).trans b5; have P5 := Lib.hid (P2.out.keep b6 (by omega)); have d0 := P5.out.c0; have f0 := P5.out.froz 0; have B5 := Lib.hid (B2.out.trans (b6.mono (by omega))); clear hown5 b5 b6)
        have O6 := Lib.hid (O5.out.same fun k hk => Below.heap_setCell w5 ⟨w.heap.size, 0, none⟩ (.int .i64 (a1 : Int)) k (fun e => by have h9 := (O5.out.lt k hk).1; simp only at e; omega))
        have P6 := Lib.hid (P5.out.set0 (a1 : Int))
        have B6 := Lib.hid (B5.out.setCell (p := ⟨w.heap.size, 0, none⟩) (Nat.le_refl _) (.int .i64 (a1 : Int)))
        go_roundg (gk - 1)
        case measure => have := K.out; omega
        case rel => exact ⟨a1, b', n', o ++ [97], rfl, .inr (by rw [List.map_append]; exact O6.out), by have := K.out; omega, by omega, by omega, T2.out, NX.out, by first | exact P6.out | (simpa using P6.out), B6.out⟩
      · have lt' : decide (n' < f) = false := decide_eq_false lt
        obtain ⟨b1, rfl, t1, t2⟩ := tx_go_b (by rw [hf]; exact lt) N.out h0
        rw [hf] at t1 t2
        have NX : Hid ((o ++ [98]) ++ body (tx a' b1 (n' - f)) = T) := Lib.hid (by have := O.out; rw [t1] at this; simpa [body, byt] using this)
        have T2 := Lib.hid t2
        have s4 : IntKind.i64.wrap ((n' : Int) - (f : Int)) = ((n' - f : Nat) : Int) := by rw [show (n' : Int) - (f : Int) = ((n' - f : Nat) : Int) by omega]; exact IntWalk.i64_in _ (by omega)
        have s2 : IntKind.i64.wrap ((b1 : Int) + 1 - 1) = (b1 : Int) := by rw [show (b1 : Int) + 1 - 1 = b1 by omega]; exact IntWalk.i64_in _ (by omega)
        have s3 : IntKind.i64.wrap (b1 : Int) = (b1 : Int) := IntWalk.i64_in _ (by omega)
        have x6 : 0 ≤ (a' : Int) ∧ (a' : Int) ≤ 6 := by omega
        have y6 : 0 ≤ ((b1 : Int) + 1) ∧ ((b1 : Int) + 1) ≤ 6 := by omega
        have F : Hid (begN ((a' : Int)).toNat (((b1 : Int) + 1)).toNat = f) := Lib.hid (by rw [show ((a' : Int)).toNat = a' by omega, show (((b1 : Int) + 1)).toNat = (b1 + 1) by omega]; exact hf)
        clear t1 t2 hf hp lt
        go_wp2_with fail
        refine (beg_is (TB.out.grow BB.out) x6 y6 F.out).mono ?_
        rintro e w2 ⟨rfl, b2⟩
        have P2 := Lib.hid (P.out.keep b2 P.out.lt)
        have G2 := Lib.hid (G.out.grow b2)
        have B2 := Lib.hid (BB.out.trans (b2.mono BB.out.size))
        have z2 : w.heap.size + 1 ≤ w2.heap.size := P2.out.lt
        have N1 : Hid ((w2.alloc (.cells #[.int .u8 98] 5)).cell? ((⟨w2.heap.size, 0, none⟩ : Addr).add 0) = some (bytV 98) ∧ Below w2.heap.size w2 (w2.alloc (.cells #[.int .u8 98] 5))) := Lib.hid (new_byt w2 (.int .u8 98) _)
        have lo : (o.map bytV).length ≤ 12 := by rw [List.length_map]; exact ol
        clear b2 c0 c1
        go_wp2_with (at_builtin; refine grwv_append bytT rfl _ _ rfl (B := w.heap.size + 1) _ _ rfl (G2.out.grow N1.out.2) ⟨w2.heap.size, 0, none⟩ (bytV 98) rfl rfl N1.out.1 (by omega) (by simp; omega) ?_; intro v5 w5 hown5 b5; have O5 := Lib.hid hown5; have b6 := (N1.out.2.mono z2).trans b5; have P5 := Lib.hid (P2.out.keep b6 (by omega)); have d0 := P5.out.c1; have f0 := P5.out.froz 1; have B5 := Lib.hid (B2.out.trans (b6.mono (by omega))); clear hown5 b5 b6)
        have O6 := Lib.hid (O5.out.same fun k hk => Below.heap_setCell w5 ⟨w.heap.size, 1, none⟩ (.int .i64 (b1 : Int)) k (fun e => by have h9 := (O5.out.lt k hk).1; simp only at e; omega))
        have P6 := Lib.hid (P5.out.set1 (b1 : Int))
        have B6 := Lib.hid (B5.out.setCell (p := ⟨w.heap.size, 1, none⟩) (Nat.le_refl _) (.int .i64 (b1 : Int)))
        go_roundg (gk - 1)
        case measure => have := K.out; omega
        case rel => exact ⟨a', b1, (n' - f), o ++ [98], by first | rfl | go_num, .inr (by rw [List.map_append]; exact O6.out), by have := K.out; omega, by omega, by omega, T2.out, NX.out, by first | exact P6.out | (simpa using P6.out), B6.out⟩
    · have e0 : a' = 0 ∧ b' = 0 := by omega
      obtain ⟨rfl, rfl⟩ := e0
      have OT : Hid (o = T) := Lib.hid (by have := O.out; simpa [tx, body] using this)
      have cv := conv_bytes G.out
      rw [OT.out] at cv
      have CV := cv
      clear cv hn'
      go_wp2_with fail
      go_ret
      exact ⟨rfl, BB.out⟩
theorem nthI_is {w : World} {g : Nat} (h : Tab w g) {x y : Int} {n : Nat} {t : List UInt8} (hx : 0 ≤ x ∧ x ≤ 6) (hy : 0 ≤ y ∧ y ≤ 6) (hn : n < ch x.toNat y.toNat) (ht : body (tx x.toNat y.toNat n) = t) :
    Calls Tryd.prog 27 #[.pointer (some ⟨g, 0, none⟩), .agg #[.int .i64 x, .int .i64 y], .int .i64 n] w fun e w' => e = .returned (.string (str t)) ∧ Below w.heap.size w w' := by
  have k := nthI_any h x.toNat y.toNat n (by omega) (by omega) hn
  rw [ht, Int.toNat_of_nonneg hx.1, Int.toNat_of_nonneg hy.1] at k
  exact k
theorem jn_le12 (ts : List Tx) (h : ∀ t ∈ ts, t.length ≤ 12) : (jn ts).length ≤ 13 * ts.length := by
  induction ts with
  | nil => simp [jn]
  | cons t ts ih =>
    have h1 := h t (by simp)
    cases ts with
    | nil => rw [jn_one, body_length]; simp; omega
    | cons u ts =>
      have := ih fun v hv => h v (by simp [hv])
      rw [jn_more]
      simp only [List.length_append, List.length_cons, body_length] at this ⊢
      omega
theorem quo_nat {d c r : Nat} (h : ((d : Int)).tdiv (c : Int) = (r : Int)) (hr : r ≤ 728933458176) : wrap64 ((d : Int) / (c : Int)) = (r : Int) ∧ IntKind.i64.wrap ((d : Int) / (c : Int)) = (r : Int) := by
  have e : ((d : Int)) / (c : Int) = (r : Int) := by rw [← Int.tdiv_eq_ediv_of_nonneg (by omega), h]
  rw [e]
  exact ⟨IntWalk.wrap64_in _ (by omega), IntWalk.i64_in _ (by omega)⟩
theorem rem_nat {d c r : Nat} (h : ((d : Int)).tmod (c : Int) = (r : Int)) (hr : r ≤ 728933458176) : wrap64 ((d : Int) % (c : Int)) = (r : Int) ∧ IntKind.i64.wrap ((d : Int) % (c : Int)) = (r : Int) := by
  have e : ((d : Int)) % (c : Int) = (r : Int) := by rw [← Int.tmod_eq_emod_of_nonneg (by omega), h]
  rw [e]
  exact ⟨IntWalk.wrap64_in _ (by omega), IntWalk.i64_in _ (by omega)⟩
def strV (t : Tx) : Value := .string (str (body t))
/-- The texts of parts, joined. -/
theorem join_any {w : World} {B : Nat} {v : Value} {ts : List Tx} (h : GrwV 9 w B v (ts.map strV)) (h0 : 0 < ts.length) (h4 : ts.length ≤ 4) (h12 : ∀ t ∈ ts, t.length ≤ 12) :
    Calls Tryd.prog 28 #[v, .string ⟨#[124]⟩] w fun e w' => e = .returned (.string (str (jn ts))) ∧ Below w.heap.size w w' := by
  rcases h with ⟨e, _⟩ | h
  · have := congrArg List.length e; simp at this; subst this; simp at h0
  · obtain ⟨g, c, rfl, q1, q2, q3, q4⟩ := h.parts (by simpa using h0)
    have ll : (ts.map fun t => str (body t)).length = (ts.map strV).length := by simp
    have dd : (ts.map fun t => str (body t)).map (·.data.toList) = ts.map body := by
      rw [List.map_map]
      apply List.map_congr_left
      intro t _
      rfl
    have jj : Lib.join ((ts.map fun t => str (body t)).map (·.data.toList)) (⟨#[124]⟩ : ByteArray).data.toList = jn ts := by rw [dd]; exact join_jn ts
    have k := Tryd.strings_Join g 0 c (ts.map fun t => str (body t)) ⟨#[124]⟩ w (fun j x hx => by
      obtain ⟨hj, e⟩ := List.getElem?_eq_some_iff.1 hx
      rw [Nat.zero_add, q4 j (by omega), ← e]
      simp [strV]) q3 (by simp; omega) (by omega) (by rw [jj]; have := jn_le12 ts h12; omega)
    rw [jj, ll] at k
    exact k
theorem nth_no {a b : List Int} {n : Int} (h : isPar a b = false ∨ n < 0 ∨ (cnt (par a b) : Int) ≤ n) : nthOf a b n = none := by
  unfold nthOf
  rw [if_neg]
  rintro ⟨h1, h2, h3⟩
  rcases h with h | h | h
  · rw [h1] at h; cases h
  · omega
  · omega
theorem strV_take {ts : List Tx} {j : Nat} (hj : j < ts.length) : (ts.take j).map strV ++ [strV ts[j]] = (ts.take (j + 1)).map strV := by
  rw [List.take_succ_eq_append_getElem hj, List.map_append, List.map_cons, List.map_nil]
end Go.Proofs.YtcemgdekcfdfhaaDoor
