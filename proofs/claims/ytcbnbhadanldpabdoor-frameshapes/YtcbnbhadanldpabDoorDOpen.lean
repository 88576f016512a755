/-
  The table of shapes, as the rows lay it.
-/
import Derived.Test.YtcbnbhadanldpabDoorRows
import Derived.Test.YtcbnbhadanldpabDoorOt
import Derived.Test.YtcbnbhadanldpabDoorD1
namespace Go.Proofs.YtcbnbhadanldpabDoor
open Go.RowKit Go.ChangeShapes Go.WideShapes Go.ChangeAt
set_option maxRecDepth 100000

theorem gShapes : Tryd.prog.globalNamed "intaglio/frame.shapes" = some 0 := by kernel_rfl
theorem hgl_of {W : World} (h : laidMetH Tryd.prog [("intaglio/frame.shapes", Rows.laid_intaglio_frame_shapes)] W) : ∀ g l, (g, l) ∈ tabs → Lies (cxL W tabs) g 0 l := by
  intro g l hg
  simp only [tabs, List.mem_singleton, Prod.mk.injEq] at hg
  obtain ⟨rfl, rfl⟩ := hg
  exact lies_of_head (n := 8) gShapes rfl (by kernel_rfl) (by kernel_rfl) (Nat.le_of_ble_eq_true (by kernel_rfl)) h
def putCells (cs : Array Value) : Obj → Obj
  | .cells _ t frozen => .cells cs t frozen
  | o => o
/-- A world for the witness: the settled one, the table holding what its initialiser lays. -/
noncomputable def laidW (os : Os) : World :=
  { World.holding Tryd.prog os ⟨#[], #[], []⟩ with heap := (World.holding Tryd.prog os ⟨#[], #[], []⟩).heap.modify 0 (putCells tabS.c.toArray) }
end Go.Proofs.YtcbnbhadanldpabDoor
