/-
  What PointOrder's row lists: the table of twice p, and the order.
-/
import Derived.Test.YtdpafemcpbhlfaaDoorOpenTw
import Derived.Test.YtdpafemcpbhlfaaDoorScWalk1
namespace Go.Proofs.YtdpafemcpbhlfaaDoor
set_option maxRecDepth 100000
open Go.RowKit Go.ChangeShapes Go.WideShapes Go.ChangeAt

theorem gOr : Tryd.prog.globalNamed "intaglio/scalar.order" = some 1 := by kernel_rfl
theorem gOrT : (Tryd.prog.globals[1]?).map (·.type) = some 126 := by kernel_rfl
theorem cellsO8 : Tryd.prog.cellsOf 126 = 8 := by kernel_rfl
theorem cellsO1 : Tryd.prog.cellsOf 67 = 1 := by kernel_rfl
abbrev laidO : List (String × DataW Unit) := [("intaglio/field.twice", Rows.laid_intaglio_field_twice), ("intaglio/scalar.order", Rows.laid_intaglio_scalar_order)]
theorem order_eq : (Rows.laid_intaglio_scalar_order : DataW Unit) = Lib.tabData .u32 Sc.ordL := by kernel_rfl
theorem laidO_tail : laidO.filter (fun x => x.1 == "intaglio/scalar.order") = [("intaglio/scalar.order", Rows.laid_intaglio_scalar_order)] := by
  simp [laidO]
theorem tw_of2 {W : World} (h : laidMetH Tryd.prog laidO W) : Tw W ∧ Sc.Tab W := by
  have h2 := h.filter (fun x => x.1 == "intaglio/scalar.order")
  rw [laidO_tail, order_eq] at h2
  unfold laidO at h
  rw [twice_eq] at h
  have t1 : Lib.TabIs Tryd.prog W "intaglio/field.twice" .u64 tabT := Lib.tabIs_of_head gTw gTwT Tryd.underlying37 Tryd.underlying36 cells25 cells26 h
  have t2 : Lib.TabIs Tryd.prog W "intaglio/scalar.order" .u32 Sc.ordL := Lib.tabIs_of_head gOr gOrT Tryd.underlying126 Tryd.underlying67 cellsO1 cellsO8 h2
  exact ⟨⟨t1.cell gTw 0 (by decide), t1.cell gTw 1 (by decide), t1.cell gTw 2 (by decide), t1.cell gTw 3 (by decide), t1.cell gTw 4 (by decide)⟩, fun j hj => t2.cell gOr j hj⟩
/-- A world for the witness: the settled one, the tables holding what their initialisers lay. -/
noncomputable def laidW2 (os : Os) : World :=
  { World.holding Tryd.prog os ⟨#[], #[], []⟩ with heap := ((World.holding Tryd.prog os ⟨#[], #[], []⟩).heap.modify 0 (putCells (tabT.map (Value.int .u64)).toArray)).modify 1 (putCells (Sc.ordL.map (Value.int .u32)).toArray) }
end Go.Proofs.YtdpafemcpbhlfaaDoor
