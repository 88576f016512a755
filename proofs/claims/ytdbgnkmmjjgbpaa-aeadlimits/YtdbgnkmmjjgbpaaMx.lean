/-
  The seat's program and the order of its operations.
-/
import Derived.Test.YtdbgnkmmjjgbpaaSyk
import Derived.Test.YtdbgnkmmjjgbpaaProg
namespace Go.Proofs.Ytdbgnkmmjjgbpaa
open Go.RowKit
theorem mixed : Try.prog.follows .mixedOrders = true := by kernel_rfl
end Go.Proofs.Ytdbgnkmmjjgbpaa
