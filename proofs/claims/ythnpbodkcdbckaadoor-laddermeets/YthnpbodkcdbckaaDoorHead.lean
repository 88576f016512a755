/-
  The statements' head: counts; Canonical.
-/
import Derived.Test.YthnpbodkcdbckaaDoorBytes
import Derived.Test.YthnpbodkcdbckaaDoorProd
namespace Go.Proofs.YthnpbodkcdbckaaDoor
set_option maxRecDepth 100000
open Go.RowKit

/-- A small number's key. -/
def keyL (n : Int) : List Int := n :: List.replicate 31 0
theorem keyL_length (n : Int) : (keyL n).length = 32 := by simp [keyL]
theorem zeroK_set (n : Int) : zeroK.setIfInBounds 0 (.int .u8 n) = numsA .u8 (keyL n) := by
  show (List.replicate 32 (Value.int .u8 0)).toArray.setIfInBounds 0 (.int .u8 n) = _
  rfl
theorem Upd.range {T : Nat → Prop} {w w' : World} {b o : Nat} {cs : List Value} (hu : Upd T w w') (hb : ¬ T b) (h : w.rangeAt b o cs) : w'.rangeAt b o cs := fun j v hv => hu.cell (h j v hv) hb
theorem Blk.range {w : World} {b : Nat} {t : TypeId} {arr : Array Value} (h : Blk w b t arr) : w.rangeAt b 0 arr.toList := fun j v hv => by
  rw [h.cell, Nat.zero_add, ← hv, Array.getElem?_toList]
theorem guardKey : Tryd.prog.eqGuardType Tryd.prog.depth 23 = false := by kernel_rfl
theorem cellsOf_length (k : IntKind) (l : List Int) : (cellsOf k l).length = l.length := by simp [cellsOf]
theorem cellsOf_toArray (k : IntKind) (l : List Int) : (cellsOf k l).toArray = numsA k l := rfl
theorem cellsOf_one (k : IntKind) (l : List Int) : ∀ v ∈ cellsOf k l, v.oneCell' = true := by rw [← numsA_toList]; exact numsA_one k l

end Go.Proofs.YthnpbodkcdbckaaDoor
