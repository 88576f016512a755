/-
  What ladder reckons, as functions of the field's elements. No program.
-/
import Derived.Test.YthnpbodkcdbckaaDoorSh
namespace Go.Proofs.YthnpbodkcdbckaaDoor
set_option maxRecDepth 100000

/-- Two points of the ladder. -/
structure L4 where
  (x1 z1 x2 z2 : Fp)
def turnF (t : Bool) (s : L4) : L4 := ⟨if t then s.x2 else s.x1, if t then s.z2 else s.z1, if t then s.x1 else s.x2, if t then s.z1 else s.z2⟩
def stepF (u : Fp) (s : L4) : L4 :=
  ⟨(s.x1 + s.z1) * (s.x1 + s.z1) * ((s.x1 - s.z1) * (s.x1 - s.z1)), ((s.x1 + s.z1) * (s.x1 + s.z1) - (s.x1 - s.z1) * (s.x1 - s.z1)) * ((s.x1 + s.z1) * (s.x1 + s.z1) + fv 121665 * ((s.x1 + s.z1) * (s.x1 + s.z1) - (s.x1 - s.z1) * (s.x1 - s.z1))),
    ((s.x1 - s.z1) * (s.x2 + s.z2) + (s.x1 + s.z1) * (s.x2 - s.z2)) * ((s.x1 - s.z1) * (s.x2 + s.z2) + (s.x1 + s.z1) * (s.x2 - s.z2)), u * (((s.x1 - s.z1) * (s.x2 + s.z2) - (s.x1 + s.z1) * (s.x2 - s.z2)) * ((s.x1 - s.z1) * (s.x2 + s.z2) - (s.x1 + s.z1) * (s.x2 - s.z2)))⟩
/-- The ladder, when m bits have been seen to. -/
def ladM (l : List Int) (u : Fp) : Nat → L4
  | 0 => ⟨fv 1, 0, u, fv 1⟩
  | m + 1 => turnF (kb l (254 - m)) (stepF u (turnF (kb l (254 - m)) (ladM l u m)))
def ladF (l : List Int) (u : Fp) (k : Nat) : L4 := ladM l u (255 - k)
theorem ladF_top (l : List Int) (u : Fp) : ladF l u 255 = ⟨fv 1, 0, u, fv 1⟩ := rfl
theorem ladF_step (l : List Int) (u : Fp) (j : Nat) (h : j < 255) : ladF l u j = turnF (kb l j) (stepF u (turnF (kb l j) (ladF l u (j + 1)))) := by
  unfold ladF
  rw [show 255 - j = 255 - (j + 1) + 1 by omega]
  show turnF (kb l (254 - (255 - (j + 1)))) _ = _
  rw [show 254 - (255 - (j + 1)) = j by omega]
/-- What ladder.Multiply answers. -/
def ladV (k : List Int) (u : Fp) : Fp := (ladF k u 0).x1 * finv (ladF k u 0).z1
end Go.Proofs.YthnpbodkcdbckaaDoor
