/- The program's texts read: the part of which a text is an order, the parts of a text. -/
import Derived.Test.YtcemgdekcfdfhaaDoorShelf
import Derived.Test.YtcemgdekcfdfhaaDoorOrdI1
import Derived.Test.YtcemgdekcfdfhaaDoorOrdI2
import Derived.Test.YtcemgdekcfdfhaaDoorOneL
import Derived.Test.YtcemgdekcfdfhaaDoorOrdText
import Derived.Test.YtcemgdekcfdfhaaDoorOrdCut
namespace Go.Proofs.YtcemgdekcfdfhaaDoor
open Go.RowKit Go.Shelf

/-- A variable of the library's holds a number. -/
def ML (w : World) : Prop := ∃ m, w.cell? ⟨0, 0, none⟩ = some (.int .i64 m)
theorem ml_of {w : World} (h : w.ShapedOpen Tryd.prog) : ML w := Tryd.laysM146.s1_3 w h
theorem ML.grow {w w' : World} (h : ML w) (k : Below w.heap.size w w') : ML w' := by
  obtain ⟨m, hm⟩ := h
  exact ⟨m, (k.cell (cell_below hm)).trans hm⟩
def pieceV (p : List UInt8) : Value := .string (str p)
theorem split_any (l : List UInt8) (hl : l.length ≤ 1048600) {w : World} (h : ML w) :
    Calls Tryd.prog 43 #[.string (str l), .string ⟨#[124]⟩] w fun e w' => e = .returned (.slice (some ⟨w.heap.size, 0, none⟩) (pcs l).length (pcs l).length) ∧ w' = w.alloc (.cells ((pcs l).map pieceV).toArray 9) := by
  obtain ⟨m, hm⟩ := h
  have k := Tryd.strings_Split (str l) ⟨#[124]⟩ m w (by rw [str_size]; omega) hm (by decide)
  obtain ⟨e1, e2⟩ := splitB_pcs (str l)
  have e3 : (str l).data.toList = l := rfl
  rw [e3] at e1 e2
  have e4 : (Lib.splitB ⟨#[124]⟩ 0 (Lib.countB (str l) ⟨#[124]⟩) (str l)).map Value.string = (pcs l).map pieceV := by
    rw [← e1, List.map_map]
    apply List.map_congr_left
    intro x _
    simp [pieceV, str]
  rw [e2, e4] at k
  exact k
theorem okPart_parts (p : List UInt8) : okPart p = (((p.count 97 : Nat) : Int) + ((p.count 98 : Nat) : Int) == ((p.length : Nat) : Int) && okPt ((p.count 97 : Nat), (p.count 98 : Nat))) := by
  unfold okPart okP okPt
  congr 1
  rw [Bool.eq_iff_iff]
  simp only [beq_iff_eq]
  omega
/-- A part in memory, as a variable of the call's own. -/
def PtR (w : World) (p : Nat) (x y : Int) : Prop := w.heap[p]? = some (.cells #[.int .i64 x, .int .i64 y] 49 (0, 0))
theorem PtR.c0 {w : World} {p : Nat} {x y : Int} (h : PtR w p x y) : w.cell? ⟨p, 0, none⟩ = some (.int .i64 x) := by rw [cell_of_row w p 0 _ _ _ h]; rfl
theorem PtR.c1 {w : World} {p : Nat} {x y : Int} (h : PtR w p x y) : w.cell? ⟨p, 1, none⟩ = some (.int .i64 y) := by rw [cell_of_row w p 1 _ _ _ h]; rfl
theorem PtR.froz {w : World} {p : Nat} {x y : Int} (h : PtR w p x y) (i : Nat) : w.frozen? ⟨p, i, none⟩ = false := by
  have h' : w.heap[p]? = some (.cells #[.int .i64 x, .int .i64 y] 49 (0, 0)) := h
  simp [World.frozen?, h']
theorem PtR.set0 {w : World} {p : Nat} {x y : Int} (h : PtR w p x y) (z : Int) : PtR (w.setCell ⟨p, 0, none⟩ (.int .i64 z)) p z y := heap_setCell_same w p 0 _ _ _ h
theorem PtR.set1 {w : World} {p : Nat} {x y : Int} (h : PtR w p x y) (z : Int) : PtR (w.setCell ⟨p, 1, none⟩ (.int .i64 z)) p x z := heap_setCell_same w p 1 _ _ _ h
theorem PtR.keep {w w' : World} {p B : Nat} {x y : Int} (h : PtR w p x y) (k : Below B w w') (hp : p < B) : PtR w' p x y := (k.block p hp).trans h
theorem PtR.lt {w : World} {p : Nat} {x y : Int} (h : PtR w p x y) : p < w.heap.size := (Array.getElem?_eq_some_iff.1 h).1
theorem ptr_new (w : World) (x y : Int) : PtR (w.alloc (.cells #[.int .i64 x, .int .i64 y] 49)) w.heap.size x y := by
  show (w.heap.push _)[w.heap.size]? = _
  simp
/-- A function's result that lies in such a variable, and another. -/
theorem ret_part {fn : Func} {p q : Tmp} {R : Ending → World → Prop} {a : Act} {w : World} (h : fn.results = #[.cell p 49, .tmp q]) (hd : a.defers = [])
    {g : Nat} (hp : a.tmps.getD p undef = .pointer (some ⟨g, 0, none⟩)) {x y : Int} (hg : PtR w g x y) (hR : R (.returned (.tuple #[.agg #[.int .i64 x, .int .i64 y], a.tmps.getD q undef])) w) : bodyPost Tryd.prog fn R .ret a w := by
  refine ⟨hd, _, ?_, hR⟩
  rw [results_cell_tmp h]
  have hl : (loadVar 49 ⟨g, 0, none⟩).run Tryd.prog w = .ok (.agg #[.int .i64 x, .int .i64 y]) w := run_loadVar_row w g 49 49 #[.int .i64 x, .int .i64 y] (0, 0) _ hg Tryd.underlying49 rfl (by kernel_rfl)
  rw [hp]
  simp [asAddr, hl, Result.andThen]
/-- What orderPartOf has in memory at its end's region. -/
def PartS (w : World) (x y : Int) (w' : World) : Prop := (Below w.heap.size w w' ∧ w'.cell? ⟨w.heap.size + 1, 0, none⟩ = some (.int .i64 x) ∧ w'.cell? ⟨w.heap.size + 1, 1, none⟩ = some (.int .i64 y) ∧ ∃ p q, PtR w' w.heap.size p q)
theorem PartS.next {w w1 w2 : World} {x y : Int} (h : PartS w x y w1) (k : Below w1.heap.size w1 w2) : PartS w x y w2 := by
  obtain ⟨b, c0, c1, p, q, d⟩ := h
  exact ⟨b.trans (k.mono b.size), (k.cell (cell_below c0)).trans c0, (k.cell (cell_below c1)).trans c1, p, q, d.keep k d.lt⟩
theorem PartS.put {w w1 : World} {x y : Int} (h : PartS w x y w1) (u v : Int) : PartS w x y ((w1.setCell ⟨w.heap.size, 0, none⟩ (.int .i64 u)).setCell ⟨w.heap.size, 1, none⟩ (.int .i64 v)) ∧
    PtR ((w1.setCell ⟨w.heap.size, 0, none⟩ (.int .i64 u)).setCell ⟨w.heap.size, 1, none⟩ (.int .i64 v)) w.heap.size u v := by
  obtain ⟨b, c0, c1, p, q, d⟩ := h
  have z := (d.set0 u).set1 v
  refine ⟨⟨(b.setCell (p := ⟨w.heap.size, 0, none⟩) (Nat.le_refl _) _).setCell (p := ⟨w.heap.size, 1, none⟩) (Nat.le_refl _) _, ?_, ?_, u, v, z⟩, z⟩
  · rw [World.cell?_setCell_other _ _ _ _ (by simp), World.cell?_setCell_other _ _ _ _ (by simp)]; exact c0
  · rw [World.cell?_setCell_other _ _ _ _ (by simp), World.cell?_setCell_other _ _ _ _ (by simp)]; exact c1
theorem partS_new (w : World) (x y : Int) : PartS w x y ((w.alloc (.cells #[.int .i64 0, .int .i64 0] 49)).alloc (.cells #[.int .i64 x, .int .i64 y] 49)) :=
  ⟨by go_grown, by go_cell, by go_cell, 0, 0, (Below.heap_alloc (w.alloc (.cells #[.int .i64 0, .int .i64 0] 49)) _ w.heap.size (by simp)).trans (ptr_new w 0 0)⟩
set_option maxRecDepth 100000 in
set_option maxHeartbeats 3200000 in
theorem partOf_any (l : List UInt8) (hl : l.length ≤ 1048600) (w : World) :
    Calls Tryd.prog 44 #[.string (str l)] w fun e w' => e = .returned (.tuple #[.agg #[.int .i64 (l.count 97 : Nat), .int .i64 (l.count 98 : Nat)], .bool (okPart l)]) ∧ Below w.heap.size w w' := by
  have c97 : Calls Tryd.prog 48 #[.string (str l), .string ⟨#[97]⟩] (w.alloc (.cells #[.int .i64 0, .int .i64 0] 49)) fun e w' => e = .returned (.int .i64 (l.count 97 : Nat)) ∧ w' = w.alloc (.cells #[.int .i64 0, .int .i64 0] 49) := Tryd.strings_Count_one (str l) 97 _
  have c98 : Calls Tryd.prog 48 #[.string (str l), .string ⟨#[98]⟩] (w.alloc (.cells #[.int .i64 0, .int .i64 0] 49)) fun e w' => e = .returned (.int .i64 (l.count 98 : Nat)) ∧ w' = w.alloc (.cells #[.int .i64 0, .int .i64 0] 49) := Tryd.strings_Count_one (str l) 98 _
  have OP := Lib.hid (okPart_parts l)
  have l1 := List.count_le_length (a := (97 : UInt8)) (l := l)
  have l2 := List.count_le_length (a := (98 : UInt8)) (l := l)
  have SZ := str_size l
  obtain ⟨m, hm⟩ : ∃ m, l.count 97 = m := ⟨_, rfl⟩
  obtain ⟨n, hn⟩ : ∃ n, l.count 98 = n := ⟨_, rfl⟩
  rw [hm] at c97 OP l1 ⊢
  rw [hn] at c98 OP l2 ⊢
  have w1 : IntKind.i64.wrap ((m : Int) + (n : Int)) = (m : Int) + (n : Int) := IntWalk.i64_in _ (by omega)
  have PS := Lib.hid (partS_new w m n)
  clear hm hn
  by_cases hs : (m : Int) + (n : Int) = (l.length : Int)
  · have e1 : ((m : Int) + (n : Int) == (l.length : Int)) = true := by simpa using hs
    have R : Hid (okPart l = okPt ((m : Int), (n : Int))) := Lib.hid (by rw [OP.out, e1, Bool.true_and])
    obtain ⟨b, hb⟩ : ∃ b, okPt ((m : Int), (n : Int)) = b := ⟨_, rfl⟩
    have HB := Lib.hid hb
    clear hb hs OP
    go_enter Tryd.func44, Tryd.ntmps44
    go_wp2_with fail
    refine c97.mono ?_
    rintro e w2 ⟨rfl, rfl⟩
    go_wp2_with fail
    refine c98.mono ?_
    rintro e w2 ⟨rfl, rfl⟩
    go_wp2_with fail
    obtain ⟨w3, hw3⟩ : ∃ v, (w.alloc (.cells #[.int .i64 0, .int .i64 0] 49)).alloc (.cells #[.int .i64 (m : Int), .int .i64 (n : Int)] 49) = v := ⟨_, rfl⟩
    rw [hw3] at PS ⊢
    clear hw3 c97 c98
    refine wp_region_held_drew (S := (fun w' => (Below w.heap.size w w' ∧ w'.cell? ⟨w.heap.size + 1, 0, none⟩ = some (.int .i64 (m : Int)) ∧ w'.cell? ⟨w.heap.size + 1, 1, none⟩ = some (.int .i64 (n : Int)) ∧ ∃ p q, PtR w' w.heap.size p q))) (by kernel_rfl) (by exact (PS.out.next (Below.drew (Below.refl _ _)))) (fun hHeld => ?_)
    refine take_h 0 10 rfl rfl (by kernel_rfl) (by kernel_rfl) (by kernel_rfl) (fun _ _ _ h => h) (by kernel_rfl) (by intro w hSw; (try dsimp only at hSw); go_simp; try with_reducible rfl) (by assumption) ?_
    refine take_h 1 11 rfl rfl (by kernel_rfl) (by kernel_rfl) (by kernel_rfl) (fun _ _ _ h => h) (by kernel_rfl) (by intro w hSw; (try dsimp only at hSw); go_simp; try with_reducible rfl) (by assumption) ?_
    refine take_h 2 12 rfl rfl (by kernel_rfl) (by kernel_rfl) (by kernel_rfl) (fun _ _ _ h => h) (by kernel_rfl) (by intro w hSw; (try dsimp only at hSw); go_simp; try with_reducible rfl) (by assumption) ?_
    refine take_h 3 13 rfl rfl (by kernel_rfl) (by kernel_rfl) (by kernel_rfl) (fun _ _ _ h => h) (by kernel_rfl) (by intro w hSw; (try dsimp only at hSw); go_simp; try with_reducible rfl) (by assumption) ?_
    refine take_h 4 14 rfl rfl (by kernel_rfl) (by kernel_rfl) (by kernel_rfl) (fun _ _ _ h => h) (by kernel_rfl) (by intro w hSw; (try dsimp only at hSw); go_simp; try with_reducible rfl) (by assumption) ?_
    refine take_h 5 15 rfl rfl (by kernel_rfl) (by kernel_rfl) (by kernel_rfl) (fun _ _ _ h => h) (by kernel_rfl) (by intro w hSw; (try dsimp only at hSw); go_simp; try with_reducible rfl) (by assumption) ?_
    refine take_h 6 16 rfl rfl (by kernel_rfl) (by kernel_rfl) (by kernel_rfl) (fun _ _ _ h => h) (by kernel_rfl) (by intro w hSw; (try dsimp only at hSw); go_simp; try with_reducible rfl) (by assumption) ?_
    refine take_h 7 17 rfl rfl (by kernel_rfl) (by kernel_rfl) (by kernel_rfl) (fun _ _ _ h => h) (by kernel_rfl) (by intro w hSw; (try dsimp only at hSw); go_simp; try with_reducible rfl) (by assumption) ?_
    refine take_h 8 18 rfl rfl (by kernel_rfl) (by kernel_rfl) (by kernel_rfl) (fun _ _ _ h => h) (by kernel_rfl) (by intro w hSw; (try dsimp only at hSw); go_simp; try with_reducible rfl) (by assumption) ?_
    refine take_h 9 19 rfl rfl (by kernel_rfl) (by kernel_rfl) (by kernel_rfl) (fun _ _ _ h => h) (by kernel_rfl) (by intro w hSw; (try dsimp only at hSw); go_simp; try with_reducible rfl) (by assumption) ?_
    refine take_h 10 20 rfl rfl (by kernel_rfl) (by kernel_rfl) (by kernel_rfl) (fun _ _ _ h => h) (by kernel_rfl) (by intro w hSw; (try dsimp only at hSw); go_simp; try with_reducible rfl) (by assumption) ?_
    refine wpAnyH_ready (rs := [11]) (by kernel_rfl) (by simp) (AllReadyH.cons rfl (fun K hK => ?_) AllReadyH.nil)
    go_simp
    go_wp2_with ((go_at_call 37; refine (partValid_is (p := ((m : Int), (n : Int))) HB.out _).mono ?_; rintro e w8 ⟨rfl, b8⟩))
    refine hK.out _ _ (by (try dsimp only); exact PartS.next hHeld b8) (fun hHeld => ?_)
    clear hK K
    refine take_h 12 22 rfl rfl (by kernel_rfl) (by kernel_rfl) (by kernel_rfl) (fun _ _ _ h => h) (by kernel_rfl) (by intro w hSw; (try dsimp only at hSw); go_simp; try with_reducible rfl) (by assumption) ?_
    refine wpAnyH_ready (rs := [13]) (by kernel_rfl) (by simp) (AllReadyH.cons rfl (fun K hK => ?_) AllReadyH.nil)
    obtain ⟨hb9, hc0, hc1, p9, q9, hd9⟩ := hHeld
    have d0 := hd9.c0
    have d1 := hd9.c1
    have f0 := hd9.froz 0
    have f1 := hd9.froz 1
    go_simp
    refine hK.out _ _ (by (try dsimp only); exact (PartS.put ⟨hb9, hc0, hc1, p9, q9, hd9⟩ _ _).1) (fun hHeld => ?_)
    clear hK K
    refine take_h 14 3 rfl rfl (by kernel_rfl) (by kernel_rfl) (by kernel_rfl) (fun _ _ _ h => h) (by kernel_rfl) (by intro w hSw; (try dsimp only at hSw); go_simp; try with_reducible rfl) (by assumption) ?_
    refine wpAnyH_done (by kernel_rfl) ?_ _
    simp only [Exit.then]
    obtain ⟨_, z0⟩ := PartS.put (w1 := w8) ⟨hb9, hc0, hc1, p9, q9, hd9⟩ (m : Int) (n : Int)
    have hb10 := hHeld.1
    obtain ⟨w9, hw9⟩ : ∃ v, (w8.setCell ⟨w.heap.size, 0, none⟩ (.int .i64 (m : Int))).setCell ⟨w.heap.size, 1, none⟩ (.int .i64 (n : Int)) = v := ⟨_, rfl⟩
    rw [hw9] at z0 hb10 ⊢
    clear hw9 hHeld hb9 hc0 hc1 hd9 d0 d1 f0 f1
    go_wp2_with fail
    refine ret_part rfl rfl (g := w.heap.size) rfl z0 ?_
    rw [R.out, HB.out]
    exact ⟨rfl, hb10⟩
  · have e1 : ((m : Int) + (n : Int) == (l.length : Int)) = false := by simpa using hs
    have R : Hid (okPart l = false) := Lib.hid (by rw [OP.out, e1, Bool.false_and])
    have h2 : ¬ m + n = l.length := by omega
    clear hs h2 OP
    go_enter Tryd.func44, Tryd.ntmps44
    go_wp2_with fail
    refine c97.mono ?_
    rintro e w2 ⟨rfl, rfl⟩
    go_wp2_with fail
    refine c98.mono ?_
    rintro e w2 ⟨rfl, rfl⟩
    go_wp2_with fail
    obtain ⟨w3, hw3⟩ : ∃ v, (w.alloc (.cells #[.int .i64 0, .int .i64 0] 49)).alloc (.cells #[.int .i64 (m : Int), .int .i64 (n : Int)] 49) = v := ⟨_, rfl⟩
    rw [hw3] at PS ⊢
    clear hw3 c97 c98
    have PS2 : Hid (PartS w (m : Int) (n : Int) w3) := PS
    obtain ⟨hb9, hc0, hc1, p9, q9, hd9⟩ := PS.out
    have d0 := hd9.c0
    have d1 := hd9.c1
    have f0 := hd9.froz 0
    have f1 := hd9.froz 1
    clear hb9 hd9 PS
    go_region_with fail
    all_goals
      simp only [Exit.then]
      obtain ⟨ps, z0⟩ := PS2.out.put (m : Int) (n : Int)
      have hb10 := ps.1.drew
      obtain ⟨w9, hw9⟩ : ∃ v, ((w3.setCell ⟨w.heap.size, 0, none⟩ (.int .i64 (m : Int))).setCell ⟨w.heap.size, 1, none⟩ (.int .i64 (n : Int))).drew = v := ⟨_, rfl⟩
      have z1 : PtR ((w3.setCell ⟨w.heap.size, 0, none⟩ (.int .i64 (m : Int))).setCell ⟨w.heap.size, 1, none⟩ (.int .i64 (n : Int))).drew w.heap.size (m : Int) (n : Int) := z0
      rw [hw9] at z1 hb10 ⊢
      clear hw9 ps z0 hc0 hc1 d0 d1 f0 f1
      go_wp2_with fail
      refine ret_part rfl rfl (g := w.heap.size) rfl z1 ?_
      rw [R.out]
      exact ⟨rfl, hb10⟩
end Go.Proofs.YtcemgdekcfdfhaaDoor
