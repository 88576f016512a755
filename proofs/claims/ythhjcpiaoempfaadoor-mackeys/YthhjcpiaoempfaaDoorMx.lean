/-
  The seat's program and the order of its operations.
-/
import Derived.Test.YthhjcpiaoempfaaDoorSyk
import Derived.Test.YthhjcpiaoempfaaDoorProg
namespace Go.Proofs.YthhjcpiaoempfaaDoor
open Go.RowKit
theorem mixed : Tryd.prog.follows .mixedOrders = true := by kernel_rfl
end Go.Proofs.YthhjcpiaoempfaaDoor
