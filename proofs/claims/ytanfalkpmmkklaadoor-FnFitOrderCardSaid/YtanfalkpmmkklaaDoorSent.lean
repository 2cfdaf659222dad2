/- A sentinel of the program: what the row's list gives a walk, and that a call's own memory does not turn it. E0: its name (sentinel.sh puts it in). -/
import Derived.Test.YtanfalkpmmkklaaDoorErrIs
import Derived.Test.YtanfalkpmmkklaaDoorCards
import Derived.Test.YtanfalkpmmkklaaDoorRegion
import Derived.Stop.LaidErr
namespace Go.Proofs.YtanfalkpmmkklaaDoor
open Go.RowKit

theorem gE0 : Tryd.prog.globalNamed "loop.example/icecores/impl.errNoAges" = some 0 := by kernel_rfl
theorem gE0Type : (Tryd.prog.globals[0]?).map (·.type) = some 47 := by kernel_rfl
theorem errCells : Tryd.prog.cellsOf 111 = 1 := by kernel_rfl
theorem strCells : Tryd.prog.cellsOf 9 = 1 := by kernel_rfl
theorem star : "*" ++ "errors.errorString" = "*errors.errorString" := by decide
theorem errRow (u : TypeId) (h : Tryd.prog.typeName? 3 u = some "*errors.errorString") : u = 85 :=
  typeName_ptr_named (nm := "errors.errorString") (by rw [star]; kernel_rfl) (by kernel_rfl) (by decide) u (by rw [star]; exact h)
/-- The package-level variable holds an error of errors.New's make. -/
structure Sent (w : World) : Prop where
  one : ∃ a : Addr, w.cell? ⟨0, 0, none⟩ = some (.iface 85 (.pointer (some a)))
theorem Sent.next {w w' : World} (h : Sent w) (k : Below w.heap.size w w') : Sent w' := by
  obtain ⟨a, h1⟩ := h.one
  exact ⟨a, (k.cell (World.block_lt_of_cell? w _ h1)).trans h1⟩
theorem Sent.grow {w w' : World} (h : Sent w) (k : Below w.heap.size w w') : Sent w' := h.next k
theorem sent_of {w : World} {r : List (String × DataW Unit)} (h : laidMet Tryd.prog (("loop.example/icecores/impl.errNoAges", Rows.laid_loop_example_icecores_impl_errNoAges) :: r) w) : Sent w := by
  obtain ⟨a, s, v0, -⟩ := laid_sentinel h gE0 gE0Type Tryd.underlying47 errRow Tryd.underlying85 Tryd.underlying111 rfl rfl Tryd.underlying9 errCells strCells
  exact ⟨a, World.var?_cell gE0 v0 0⟩
/-- The variable, read as a token, and read so again behind the call. -/
theorem sent_back0 {H : Type} {enc : TypeId × Value → H} {W : World} {r : List (String × DataW Unit)} {sp : Nat → Bool} {gs : List (DataW H)} {q : List MemPlace} (h : laidMet Tryd.prog (("loop.example/icecores/impl.errNoAges", Rows.laid_loop_example_icecores_impl_errNoAges) :: r) W)
    (hV : DataW.TrodVars enc Tryd.prog W sp ["loop.example/icecores/impl.errNoAges"] gs q) :
    ∃ g1, gs = [g1] ∧ ∀ (sp' : Nat → Bool) (W' : World), Below W.heap.size W W' → DataW.TrodVars enc Tryd.prog W' sp' ["loop.example/icecores/impl.errNoAges"] [g1] [.cell 0 0] := by
  obtain ⟨a, s, v0, -⟩ := laid_sentinel h gE0 gE0Type Tryd.underlying47 errRow Tryd.underlying85 Tryd.underlying111 rfl rfl Tryd.underlying9 errCells strCells
  obtain ⟨rfl, rfl⟩ := hV.unique (vars_read1 enc gE0 gE0Type Tryd.underlying47 v0 trivial _)
  have l0 := World.block_lt_of_cell? W _ (World.var?_cell gE0 v0 0)
  exact ⟨_, rfl, fun sp' W' k => vars_read1 enc gE0 gE0Type Tryd.underlying47 (var?_below k gE0 l0 v0) trivial _⟩
end Go.Proofs.YtanfalkpmmkklaaDoor
