/-
  The tables of SHA-2, as the rows lay them.
-/
import Derived.Test.YthhjcpiaoempfaaDoorRows
import Derived.Test.YthhjcpiaoempfaaDoorOt
import Derived.Test.YthhjcpiaoempfaaDoorH2
import Derived.LaidSub
namespace Go.Proofs.YthhjcpiaoempfaaDoor
open Go.RowKit Go.ChangeShapes Go.WideShapes Go.ChangeAt
set_option maxRecDepth 100000

theorem gFirst : Tryd.prog.globalNamed "intaglio/sha2.first" = some 0 := by kernel_rfl
theorem gRounds : Tryd.prog.globalNamed "intaglio/sha2.rounds" = some 1 := by kernel_rfl
/-- What the rows of this seat list. -/
abbrev laidL : List (String × DataW Unit) := [("intaglio/sha2.first", Rows.laid_intaglio_sha2_first), ("intaglio/sha2.rounds", Rows.laid_intaglio_sha2_rounds)]
theorem laid_tail : laidL.filter (fun x => x.1 == "intaglio/sha2.rounds") = [("intaglio/sha2.rounds", Rows.laid_intaglio_sha2_rounds)] := by
  simp [laidL]
theorem hgl_of {W : World} (h : laidMetH Tryd.prog laidL W) : ∀ g l, (g, l) ∈ tabH → Lies (cxL W tabH) g 0 l := by
  intro g l hg
  have h2 := h.filter (fun x => x.1 == "intaglio/sha2.rounds")
  rw [laid_tail] at h2
  unfold tabH at hg
  rcases List.mem_cons.1 hg with e | hg
  · cases e
    exact lies_of_head (n := 8) gFirst rfl (by kernel_rfl) (by kernel_rfl) (Nat.le_of_ble_eq_true (by kernel_rfl)) h
  · rcases List.mem_cons.1 hg with e | hg
    · cases e
      exact lies_of_head (n := 8) gRounds rfl (by kernel_rfl) (by kernel_rfl) (Nat.le_of_ble_eq_true (by kernel_rfl)) h2
    · cases hg
def putCells (cs : Array Value) : Obj → Obj
  | .cells _ t frozen => .cells cs t frozen
  | o => o
/-- A world for the witness: the settled one, the tables holding what their initialisers lay. -/
noncomputable def laidW (os : Os) : World :=
  { World.holding Tryd.prog os ⟨#[], #[], []⟩ with heap := ((World.holding Tryd.prog os ⟨#[], #[], []⟩).heap.modify 0 (putCells (tabF.map (Value.int .u64)).toArray)).modify 1 (putCells (tabR.map (Value.int .u64)).toArray) }
end Go.Proofs.YthhjcpiaoempfaaDoor
