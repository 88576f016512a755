/-
  What the rows' readings give: the table of the order.
-/
import Derived.Test.YtmfjlicchgacmaaDoorOpen
import Derived.Test.YtmfjlicchgacmaaDoorWalk1
import Derived.Test.YtmfjlicchgacmaaDoorCards
import Derived.Test.YtmfjlicchgacmaaDoorTie
namespace Go.Proofs.YtmfjlicchgacmaaDoor
open Go.RowKit Go.ChangeShapes Go.WideShapes Go.ChangeAt

theorem gOr : Tryd.prog.globalNamed "intaglio/scalar.order" = some 0 := by kernel_rfl
theorem gOrT : (Tryd.prog.globals[0]?).map (·.type) = some 50 := by kernel_rfl
theorem cellsT8 : Tryd.prog.cellsOf 50 = 8 := by kernel_rfl
theorem cellsU32 : Tryd.prog.cellsOf 45 = 1 := by kernel_rfl
/-- What all rows of this seat list. -/
abbrev laidL : List (String × DataW Unit) := [("intaglio/scalar.order", Rows.laid_intaglio_scalar_order)]
theorem order_eq : (Rows.laid_intaglio_scalar_order : DataW Unit) = Lib.tabData .u32 ordL := by kernel_rfl
theorem tw_of {W : World} (h : laidMetH Tryd.prog laidL W) : Tab W := by
  unfold laidL at h
  rw [order_eq] at h
  have t1 : Lib.TabIs Tryd.prog W "intaglio/scalar.order" .u32 ordL := Lib.tabIs_of_head gOr gOrT Tryd.underlying50 Tryd.underlying45 cellsU32 cellsT8 h
  exact fun j hj => t1.cell gOr j (by exact hj)
def putCells (cs : Array Value) : Obj → Obj
  | .cells _ t frozen => .cells cs t frozen
  | o => o
/-- A world for the witness: the settled one, the table holding what its initialiser lays. -/
noncomputable def laidW (os : Os) : World :=
  { World.holding Tryd.prog os ⟨#[], #[], []⟩ with heap := (World.holding Tryd.prog os ⟨#[], #[], []⟩).heap.modify 0 (putCells (ordL.map (Value.int .u32)).toArray) }
end Go.Proofs.YtmfjlicchgacmaaDoor
