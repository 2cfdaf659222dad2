/- The draws of texts of orders. -/
import Derived.Test.YtcemgdekcfdfhaaDoorOrdDraws
namespace Go.Proofs.YtcemgdekcfdfhaaDoor
open Go.RowKit

theorem jn_le {ts : List Tx} (h : ∀ t ∈ ts, t.length ≤ 12) : (jn ts).length ≤ 13 * ts.length := by
  induction ts with
  | nil => simp [jn]
  | cons t ts ih =>
    have h1 := h t (by simp)
    have h2 := ih fun x hx => h x (by simp [hx])
    cases ts with
    | nil => simp only [jn, body_length, List.length_cons, List.length_nil]; omega
    | cons y ys =>
      simp only [jn, List.length_append, List.length_cons, body_length] at h2 ⊢
      omega
theorem txs_le {ps : List Pt} (h : Small ps) (n : Nat) : ∀ t ∈ txs ps n, t.length ≤ 12 := by
  induction ps generalizing n with
  | nil => simp [txs]
  | cons p ps ih =>
    intro t ht
    simp only [txs, List.mem_cons] at ht
    rcases ht with rfl | ht
    · have := h p (by simp); rw [tx_length]; omega
    · exact ih (fun q hq => h q (by simp [hq])) _ t ht
theorem nthOf_le {a b : List Int} {n : Int} {L : List UInt8} (h : nthOf a b n = some L) : L.length ≤ 52 := by
  unfold nthOf at h
  split at h
  · rename_i hp
    have W := isPar_iff.1 hp.1
    obtain rfl := Option.some.inj h
    have h1 := jn_le (txs_le W.small n.toNat)
    have h2 := W.most
    rw [txs_length, par_length a b W.len] at h1
    omega
  · cases h

theorem Bytes.stays {w w' : World} {a : Option Addr} {len cap : Nat} (h : Bytes w a len cap) (b : Below w.heap.size w w') : Bytes w' a len cap := by
  rcases h with h | ⟨x, h1, h2, h3, h4, h5⟩
  · exact .inl h
  · refine .inr ⟨x, h1, h2, h3, ?_, fun i hi => ?_⟩
    · rcases h4 with h4 | h4
      · exact .inl h4
      · exact .inr (Nat.lt_of_lt_of_le h4 b.size)
    · obtain ⟨z, hz, hz'⟩ := h5 i hi
      exact ⟨z, (World.cell?_of_block (b.block _ (cell_lt hz))).trans hz, hz'⟩
theorem str_new (w : World) (C : Array Value) (t : TypeId) (i : Nat) : (w.alloc (.cells C t)).cell? ((⟨w.heap.size, 0, none⟩ : Addr).add i) = C[i]? := by
  have e : (⟨w.heap.size, 0, none⟩ : Addr).add i = ⟨w.heap.size, i, none⟩ := by
    unfold Addr.add
    split
    · rename_i h; subst h; rfl
    · simp
  rw [e, World.cell?_alloc_new]
/-- What a draw of a text comes to. -/
def TxDrawn (n : Nat) (w w' : World) (b m : Nat) (e : Ending) : Prop := ∃ s : List UInt8, e = .returned (.string (str s)) ∧ s.length ≤ n ∧ At w' b m ∧ Keep b w w'
theorem of_str {w : World} {b m : Nat} (h : At w b m) (hm : m ≤ 900000) (k : Nat) (x : Addr) (n cap : Nat) (hn : 1 ≤ n) (hn' : n ≤ 1000) (hx : x.block ≠ b)
    (hc : ∀ i, i < n → ∃ s : List UInt8, w.cell? (x.add i) = some (.string (str s)) ∧ s.length ≤ k) :
    Calls Tryd.prog 34 #[.pointer (some ⟨b, 0, none⟩), .slice (some x) n cap] w fun e w' => TxDrawn k w w' b (m + 1) e := by
  have hc' := Lib.hid hc
  clear hc
  go_enter Tryd.func34, Tryd.ntmps34
  go_wp2_with fail
  refine (pick_at _ h (by omega)).mono ?_
  rintro e w1 ⟨r, rfl, r0, r1, _, a1, k1⟩
  replace r1 := r1 (by omega)
  obtain ⟨i, rfl⟩ := Int.eq_ofNat_of_zero_le r0
  have hi : i < n := by omega
  obtain ⟨s, hs, hz⟩ := hc'.out i hi
  have c1 := k1.cell (cell_lt hs) (by rw [add_block]; exact hx)
  rw [hs] at c1
  clear hs
  go_wp2_with fail
  go_ret
  exact ⟨s, rfl, hz, a1, k1⟩
/-- A text out of a code. -/
def DrewTx (w : World) (e : Ending) (w' : World) : Prop := ∃ s : List UInt8, e = .returned (.string (str s)) ∧ s.length ≤ 64 ∧ Below w.heap.size w w'
theorem DrawOrderRank_any {w : World} {a : Option Addr} {len cap : Nat} (h : Bytes w a len cap) :
    Calls Tryd.prog 13 #[.slice a len cap] w fun e w' => DrewTx w e w' := by
  go_enter Tryd.func13, Tryd.ntmps13
  go_wp2_with fail
  refine (open_any h).mono ?_
  rintro e w1 ⟨rfl, a1, b1, s1⟩
  go_wp2_with fail
  refine (DrawOrderNth_any (h.stays b1)).mono ?_
  rintro e w2 ⟨v, u, l, s, n, rfl, dd, n0, n1, k2⟩
  have NS := specNth_any n dd.one.row dd.two.row (by omega)
  have A2 := Lib.hid (a1.below (k2.mono a1.lt)); have B2 := Lib.hid (b1.trans (k2.mono (by omega)))
  have z2 : w.heap.size < w2.heap.size := Nat.lt_of_lt_of_le a1.lt k2.size
  clear a1 b1 k2 dd
  obtain ⟨o, ho⟩ : ∃ o, nthOf l s n = o := ⟨_, rfl⟩
  rw [ho] at NS
  cases o with
  | none =>
    simp only [NthB, Option.getD_none, Option.isSome_none] at NS
    go_wp2_with fail
    refine NS.mono ?_
    rintro e w3 ⟨rfl, k3⟩
    have A3 := Lib.hid (A2.out.below (k3.mono z2)); have B3 := Lib.hid (B2.out.trans (k3.mono (by omega)))
    have z3 : w.heap.size < w3.heap.size := Nat.lt_of_lt_of_le z2 k3.size
    clear A2 B2 NS k3
    go_wp2_with fail
    refine (of_str (A3.out.alloc _) (by omega) 64 ⟨w3.heap.size, 0, none⟩ 6 6 (by decide) (by decide) (by show w3.heap.size ≠ _; omega) ?_).mono ?_
    · intro i hi
      rw [str_new]
      have hi' : i = 0 ∨ i = 1 ∨ i = 2 ∨ i = 3 ∨ i = 4 ∨ i = 5 := by omega
      rcases hi' with rfl | rfl | rfl | rfl | rfl | rfl
      · exact ⟨[], rfl, by decide⟩
      · exact ⟨[124], rfl, by decide⟩
      · exact ⟨[97, 98, 120], rfl, by decide⟩
      · exact ⟨[97, 97, 97, 97, 97, 97, 97], rfl, by decide⟩
      · exact ⟨[97, 124, 98, 124, 97, 124, 98, 124, 97], rfl, by decide⟩
      · exact ⟨[124, 124, 124, 124], rfl, by decide⟩
    · rintro e w5 ⟨t, rfl, hz, a5, k5⟩
      go_wp2_with fail
      go_ret
      exact ⟨t, rfl, hz, k5.below (B3.out.alloc (by omega) _) (Nat.le_refl _) (by simp; omega)⟩
  | some L =>
    simp only [NthB, Option.getD_some, Option.isSome_some] at NS
    have hL := nthOf_le ho
    go_wp2_with fail
    refine NS.mono ?_
    rintro e w3 ⟨rfl, k3⟩
    have A3 := Lib.hid (A2.out.below (k3.mono z2)); have B3 := Lib.hid (B2.out.trans (k3.mono (by omega)))
    have z3 : w.heap.size < w3.heap.size := Nat.lt_of_lt_of_le z2 k3.size
    clear A2 B2 NS k3
    go_wp2_with fail
    refine (pick_at 12 A3.out (by omega)).mono ?_
    rintro e w4 ⟨q, rfl, p4, q4, _, a4, k4⟩
    have A4 := Lib.hid a4; have B4 := Lib.hid (k4.below B3.out (Nat.le_refl _) B3.out.size)
    have z4 : w.heap.size < w4.heap.size := Nat.lt_of_lt_of_le z3 k4.size
    clear A3 B3 a4 k4
    by_cases z : q = 0
    · subst z
      go_wp2_with fail
      refine (of_str (A4.out.alloc _) (by omega) 64 ⟨w4.heap.size, 0, none⟩ 6 6 (by decide) (by decide) (by show w4.heap.size ≠ _; omega) ?_).mono ?_
      · intro i hi
        rw [str_new]
        have hi' : i = 0 ∨ i = 1 ∨ i = 2 ∨ i = 3 ∨ i = 4 ∨ i = 5 := by omega
        rcases hi' with rfl | rfl | rfl | rfl | rfl | rfl
        · exact ⟨[], rfl, by decide⟩
        · exact ⟨[124], rfl, by decide⟩
        · exact ⟨[97, 98, 120], rfl, by decide⟩
        · exact ⟨[97, 97, 97, 97, 97, 97, 97], rfl, by decide⟩
        · exact ⟨[97, 124, 98, 124, 97, 124, 98, 124, 97], rfl, by decide⟩
        · exact ⟨[124, 124, 124, 124], rfl, by decide⟩
      · rintro e w5 ⟨t, rfl, hz, a5, k5⟩
        go_wp2_with fail
        go_ret
        exact ⟨t, rfl, hz, k5.below (B4.out.alloc (by omega) _) (Nat.le_refl _) (by simp; omega)⟩
    · have z0 : (q == 0) = false := by simpa using z
      go_wp2_with fail
      go_ret
      exact ⟨L, rfl, by omega, B4.out⟩
theorem DrawOrderParts_any {w : World} {a : Option Addr} {len cap : Nat} (h : Bytes w a len cap) :
    Calls Tryd.prog 16 #[.slice a len cap] w fun e w' => DrewTx w e w' := by
  go_enter Tryd.func16, Tryd.ntmps16
  go_wp2_with fail
  refine (DrawOrderRank_any h).mono ?_
  rintro e w1 ⟨t, rfl, hz, b1⟩
  go_wp2_with fail
  go_ret
  exact ⟨t, rfl, hz, b1⟩
end Go.Proofs.YtcemgdekcfdfhaaDoor
