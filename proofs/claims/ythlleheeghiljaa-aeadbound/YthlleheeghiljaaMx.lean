/-
  The seat's program and the order of its operations.
-/
import Derived.Test.YthlleheeghiljaaSyk
import Derived.Test.YthlleheeghiljaaProg
namespace Go.Proofs.Ythlleheeghiljaa
open Go.RowKit
theorem mixed : Try.prog.follows .mixedOrders = true := by kernel_rfl
end Go.Proofs.Ythlleheeghiljaa
