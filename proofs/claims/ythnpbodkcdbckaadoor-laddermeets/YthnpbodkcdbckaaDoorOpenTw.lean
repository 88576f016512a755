/-
  What the rows' readings give: the table of twice p.
-/
import Derived.Test.YthnpbodkcdbckaaDoorOpen
import Derived.Test.YthnpbodkcdbckaaDoorSub
import Derived.Test.YthnpbodkcdbckaaDoorCards
import Derived.Test.YthnpbodkcdbckaaDoorTie
namespace Go.Proofs.YthnpbodkcdbckaaDoor
set_option maxRecDepth 100000
open Go.RowKit Go.ChangeShapes Go.WideShapes Go.ChangeAt

theorem gTw : Tryd.prog.globalNamed "intaglio/field.twice" = some 0 := by kernel_rfl
theorem gTwT : (Tryd.prog.globals[0]?).map (·.type) = some 37 := by kernel_rfl
theorem cells26 : Tryd.prog.cellsOf 37 = 5 := by kernel_rfl
theorem cells25 : Tryd.prog.cellsOf 36 = 1 := by kernel_rfl
def tabT : List Int := [4503599627370458, 4503599627370494, 4503599627370494, 4503599627370494, 4503599627370494]
/-- What all rows of this seat list. -/
abbrev laidL : List (String × DataW Unit) := [("intaglio/field.twice", Rows.laid_intaglio_field_twice)]
theorem twice_eq : (Rows.laid_intaglio_field_twice : DataW Unit) = Lib.tabData .u64 tabT := by kernel_rfl
theorem tw_of {W : World} (h : laidMetH Tryd.prog laidL W) : Tw W := by
  unfold laidL at h
  rw [twice_eq] at h
  have t1 : Lib.TabIs Tryd.prog W "intaglio/field.twice" .u64 tabT := Lib.tabIs_of_head gTw gTwT Tryd.underlying37 Tryd.underlying36 cells25 cells26 h
  exact ⟨t1.cell gTw 0 (by decide), t1.cell gTw 1 (by decide), t1.cell gTw 2 (by decide), t1.cell gTw 3 (by decide), t1.cell gTw 4 (by decide)⟩
def putCells (cs : Array Value) : Obj → Obj
  | .cells _ t frozen => .cells cs t frozen
  | o => o
/-- A world for the witness: the settled one, the table holding what its initialiser lays. -/
noncomputable def laidW (os : Os) : World :=
  { World.holding Tryd.prog os ⟨#[], #[], []⟩ with heap := (World.holding Tryd.prog os ⟨#[], #[], []⟩).heap.modify 0 (putCells (tabT.map (Value.int .u64)).toArray) }
end Go.Proofs.YthnpbodkcdbckaaDoor
