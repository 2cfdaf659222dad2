/- The contracts of the reader of drawn codes, in this seat's translation. -/
import Derived.Test.YtcemgdekcfdfhaaDoorRows
import Derived.WalkKit
import Derived.ProofKit
import Derived.OpenShut
import Derived.Below
import Derived.Lib.Hide
import Derived.Deep.QuietTactic
import Derived.BigQuiet
import Derived.Outline
namespace Go.Proofs.YtcemgdekcfdfhaaDoor
open Go.RowKit

/-- A number that is drawn: from 0 on, and less than the bound. -/
def Picked (n : Int) (w w' : World) (b : Nat) (p : Int) (e : Ending) : Prop :=
  ∃ r : Int, e = .returned (.int .i64 r) ∧ 0 ≤ r ∧ (1 ≤ n → r < n) ∧ (n < 1 → r = 0) ∧ ∃ k, w' = (w.setCell ⟨b, 1, none⟩ (.int .i64 (p + 1))).drewN k

theorem picked_mk {n : Int} {w w' : World} {b : Nat} {p r : Int} (h0 : 0 ≤ r) (h1 : 1 ≤ n → r < n) (h2 : n < 1 → r = 0) (k : Nat) (h : w' = (w.setCell ⟨b, 1, none⟩ (.int .i64 (p + 1))).drewN k) :
    Picked n w w' b p (.returned (.int .i64 r)) := ⟨r, rfl, h0, h1, h2, k, h⟩

theorem add_block (x : Addr) (n : Nat) : (x.add n).block = x.block := by unfold Addr.add; split <;> rfl
theorem cell_past {w : World} {x a : Addr} {i : Nat} {v : Value} (u : Value) (h : x.block ≠ a.block) (hc : w.cell? (x.add i) = some v) : (w.setCell a u).cell? (x.add i) = some v :=
  (World.cell?_setCell_other _ _ _ _ (by intro e; apply h; rw [e, add_block])).trans hc

theorem xor_i64_nat (a b : Nat) (ha : a < 9223372036854775808) (hb : b < 9223372036854775808) : bits .xor .i64 (a : Int) (b : Int) = ((a ^^^ b : Nat) : Int) := by
  have hx : a ^^^ b < 2 ^ 63 := Nat.xor_lt_two_pow (by omega) (by omega)
  have h1 : (BitVec.ofInt 64 (a : Int)).toNat = a := by
    rw [BitVec.ofInt_natCast, BitVec.toNat_ofNat]; exact Nat.mod_eq_of_lt (by omega)
  have h2 : (BitVec.ofInt 64 (b : Int)).toNat = b := by
    rw [BitVec.ofInt_natCast, BitVec.toNat_ofNat]; exact Nat.mod_eq_of_lt (by omega)
  show IntKind.i64.wrap ((BitVec.ofInt 64 (a : Int) ^^^ BitVec.ofInt 64 (b : Int)).toNat : Int) = _
  rw [BitVec.toNat_xor, h1, h2]
  exact IntWalk.i64_in _ (by omega)
theorem xor_shift (v : Int) (h : 0 ≤ v) (h' : v < 9223372036854775808) : 0 ≤ bits .xor .i64 v (v / 64) := by
  obtain ⟨n, rfl⟩ := Int.eq_ofNat_of_zero_le h
  rw [show ((n : Int) / 64) = ((n / 64 : Nat) : Int) from by omega, xor_i64_nat _ _ (by omega) (by omega)]
  exact Int.natCast_nonneg _

theorem pick_zero (b : Nat) (n p : Int) (w : World) (hP : w.cell? ⟨b, 1, none⟩ = some (.int .i64 p)) (hF : w.frozen? ⟨b, 1, none⟩ = false)
    (h0 : 0 ≤ p) (h1 : p ≤ 1000000) (hn : n < 1) :
    Calls Tryd.prog 22 #[.pointer (some ⟨b, 0, none⟩), .int .i64 n] w fun e w' => Picked n w w' b p e := by
  have hd : decide (n < 1) = true := by simpa using hn
  go_enter Tryd.func22, Tryd.ntmps22
  go_wp2
  go_ret
  exact picked_mk (by omega) (by omega) (fun _ => rfl) 0 rfl
theorem pick_none (b : Nat) (n p : Int) (a : Option Addr) (cap : Nat) (w : World) (hP : w.cell? ⟨b, 1, none⟩ = some (.int .i64 p)) (hF : w.frozen? ⟨b, 1, none⟩ = false)
    (hS : w.cell? ⟨b, 0, none⟩ = some (.slice a 0 cap)) (h0 : 0 ≤ p) (h1 : p ≤ 1000000) (hn : 1 ≤ n) :
    Calls Tryd.prog 22 #[.pointer (some ⟨b, 0, none⟩), .int .i64 n] w fun e w' => Picked n w w' b p e := by
  have hd : decide (n < 1) = false := by simpa using hn
  go_enter Tryd.func22, Tryd.ntmps22
  go_wp2
  go_ret
  exact picked_mk (by omega) (by omega) (fun _ => rfl) 0 rfl
theorem pick_byte (b : Nat) (n : Int) (p len cap : Nat) (x : Addr) (z : Int) (w : World) (hP : w.cell? ⟨b, 1, none⟩ = some (.int .i64 p)) (hF : w.frozen? ⟨b, 1, none⟩ = false)
    (hS : w.cell? ⟨b, 0, none⟩ = some (.slice (some x) len cap)) (h1 : p ≤ 1000000) (hn : 1 ≤ n) (hp : p < len)
    (hz : w.cell? (x.add p) = some (.int .u8 z)) (hz0 : 0 ≤ z) (hz1 : z ≤ 255) (hx : x.block ≠ b) :
    Calls Tryd.prog 22 #[.pointer (some ⟨b, 0, none⟩), .int .i64 n] w fun e w' => Picked n w w' b p e := by
  have hd : decide (n < 1) = false := by simpa using hn
  have hl0 : ((len : Int) == 0) = false := by simp; omega
  have hz' : (w.setCell ⟨b, 1, none⟩ (.int .i64 ((p : Int) + 1))).cell? (x.add p) = some (.int .u8 z) :=
    cell_past _ hx hz
  clear hz
  go_enter Tryd.func22, Tryd.ntmps22
  go_wp2
  go_ret
  exact picked_mk (Int.emod_nonneg _ (by omega)) (fun _ => Int.emod_lt_of_pos _ (by omega)) (by omega) 0 rfl
theorem pick_mixed (b : Nat) (n : Int) (p len cap : Nat) (x : Addr) (z y : Int) (w : World) (hP : w.cell? ⟨b, 1, none⟩ = some (.int .i64 p)) (hF : w.frozen? ⟨b, 1, none⟩ = false)
    (hS : w.cell? ⟨b, 0, none⟩ = some (.slice (some x) len cap)) (h1 : p ≤ 1000000) (hn : 1 ≤ n) (hl : len ≤ 2000) (hp : len ≤ p) (hp0 : 0 < len)
    (hz : w.cell? (x.add (p % len)) = some (.int .u8 z)) (hz0 : 0 ≤ z) (hz1 : z ≤ 255)
    (hy : w.cell? (x.add ((p * 7 + 3) % len)) = some (.int .u8 y)) (hy0 : 0 ≤ y) (hy1 : y ≤ 255) (hx : x.block ≠ b) :
    Calls Tryd.prog 22 #[.pointer (some ⟨b, 0, none⟩), .int .i64 n] w fun e w' => Picked n w w' b p e := by
  have hd : decide (n < 1) = false := by simpa using hn
  have hl0 : ((len : Int) == 0) = false := by simp; omega
  have hz' : (w.setCell ⟨b, 1, none⟩ (.int .i64 ((p : Int) + 1))).cell? (x.add (p % len)) = some (.int .u8 z) := cell_past _ hx hz
  have hy' : (w.setCell ⟨b, 1, none⟩ (.int .i64 ((p : Int) + 1))).cell? (x.add ((p * 7 + 3) % len)) = some (.int .u8 y) := cell_past _ hx hy
  clear hz hy
  have m1 : (0 : Int) ≤ (p : Int) % (len : Int) := Int.emod_nonneg _ (by omega)
  have m2 : (p : Int) % (len : Int) < len := Int.emod_lt_of_pos _ (by omega)
  have m3 : (0 : Int) ≤ ((p : Int) * 7 + 3) % (len : Int) := Int.emod_nonneg _ (by omega)
  have m4 : ((p : Int) * 7 + 3) % (len : Int) < len := Int.emod_lt_of_pos _ (by omega)
  have m5 : (0 : Int) ≤ (p : Int) / (len : Int) := Int.ediv_nonneg (by omega) (by omega)
  have m6 : (p : Int) / (len : Int) ≤ p := Int.ediv_le_self _ (by omega)
  go_enter Tryd.func22, Tryd.ntmps22
  go_wp2
  go_quiet (fail)
  go_wp2
  have hv := xor_shift (z * 131 + y * 1117 + (p : Int) * 29 + (p : Int) / (len : Int) * 53) (by omega) (by omega)
  go_ret
  rw [Int.tmod_eq_emod_of_nonneg hv]
  exact picked_mk (Int.emod_nonneg _ (by omega)) (fun _ => Int.emod_lt_of_pos _ (by omega)) (by omega) _ rfl

/-- Block b is a reader: its place is p, its bytes lie elsewhere and can be read. -/
structure Rd (w : World) (b : Nat) (p : Nat) : Prop where
  place : w.cell? ⟨b, 1, none⟩ = some (.int .i64 p)
  free : w.frozen? ⟨b, 1, none⟩ = false
  bytes : ∃ (a : Option Addr) (len cap : Nat), w.cell? ⟨b, 0, none⟩ = some (.slice a len cap) ∧ len ≤ 2000 ∧
    (len = 0 ∨ ∃ x, a = some x ∧ x.block < b ∧ ∀ i, i < len → ∃ z : Int, w.cell? (x.add i) = some (.int .u8 z) ∧ 0 ≤ z ∧ z ≤ 255)

theorem pick_any {w : World} {b p : Nat} (n : Int) (h : Rd w b p) (h1 : p ≤ 1000000) :
    Calls Tryd.prog 22 #[.pointer (some ⟨b, 0, none⟩), .int .i64 n] w fun e w' => Picked n w w' b p e := by
  obtain ⟨hP, hF, a, len, cap, hS, hl, hx⟩ := h
  by_cases hn : 1 ≤ n
  · rcases hx with rfl | ⟨x, rfl, hb, hz⟩
    · exact pick_none b n p a cap w hP hF hS (by omega) (by omega) hn
    · by_cases h0 : len = 0
      · subst h0
        exact pick_none b n p _ cap w hP hF hS (by omega) (by omega) hn
      · by_cases hp : p < len
        · obtain ⟨z, hz, z0, z1⟩ := hz p hp
          exact pick_byte b n p len cap x z w hP hF hS h1 hn hp hz z0 z1 (by omega)
        · obtain ⟨z, hz', z0, z1⟩ := hz (p % len) (Nat.mod_lt _ (by omega))
          obtain ⟨y, hy', y0, y1⟩ := hz ((p * 7 + 3) % len) (Nat.mod_lt _ (by omega))
          exact pick_mixed b n p len cap x z y w hP hF hS h1 hn hl (by omega) (by omega) hz' z0 z1 hy' y0 y1 (by omega)
  · exact pick_zero b n p w hP hF (by omega) (by omega) (by omega)

end Go.Proofs.YtcemgdekcfdfhaaDoor
