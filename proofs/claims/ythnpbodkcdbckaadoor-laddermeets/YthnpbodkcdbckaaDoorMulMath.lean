/-
  The mathematics of a product. No program.
-/
import Derived.Test.YthnpbodkcdbckaaDoorNum
namespace Go.Proofs.YthnpbodkcdbckaaDoor
set_option maxRecDepth 100000
open Go.RowKit

theorem mul5 (x y0 y1 y2 y3 y4 : Int) : x * val5 y0 y1 y2 y3 y4 = x * y0 + 2251799813685248 * (x * y1) + 5070602400912917605986812821504 * (x * y2) + 11417981541647679048466287755595961091061972992 * (x * y3) + 25711008708143844408671393477458601640355247900524685364822016 * (x * y4) := by
  unfold val5
  rw [Int.mul_add, Int.mul_add, Int.mul_add, Int.mul_add, Int.mul_left_comm x 2251799813685248, Int.mul_left_comm x 5070602400912917605986812821504, Int.mul_left_comm x 11417981541647679048466287755595961091061972992, Int.mul_left_comm x 25711008708143844408671393477458601640355247900524685364822016]
theorem val5_mul (x0 x1 x2 x3 x4 y0 y1 y2 y3 y4 : Int) : val5 x0 x1 x2 x3 x4 * val5 y0 y1 y2 y3 y4 = x0 * val5 y0 y1 y2 y3 y4 + 2251799813685248 * (x1 * val5 y0 y1 y2 y3 y4) + 5070602400912917605986812821504 * (x2 * val5 y0 y1 y2 y3 y4) + 11417981541647679048466287755595961091061972992 * (x3 * val5 y0 y1 y2 y3 y4) + 25711008708143844408671393477458601640355247900524685364822016 * (x4 * val5 y0 y1 y2 y3 y4) := by
  have e : val5 x0 x1 x2 x3 x4 = x0 + 2251799813685248 * x1 + 5070602400912917605986812821504 * x2 + 11417981541647679048466287755595961091061972992 * x3 + 25711008708143844408671393477458601640355247900524685364822016 * x4 := rfl
  rw [e, Int.add_mul, Int.add_mul, Int.add_mul, Int.add_mul, Int.mul_assoc, Int.mul_assoc, Int.mul_assoc, Int.mul_assoc]
theorem mul_bd {a b A B C : Int} (ha0 : 0 ≤ a) (ha : a < A) (hb0 : 0 ≤ b) (hb : b < B) (hC : A * B = C) : 0 ≤ a * b ∧ a * b < C := by
  refine ⟨Int.mul_nonneg ha0 hb0, ?_⟩
  rw [← hC]
  exact Int.lt_of_le_of_lt (Int.mul_le_mul_of_nonneg_left (Int.le_of_lt hb) ha0) (Int.mul_lt_mul_of_pos_right ha (by omega))
theorem mul_cong (x0 x1 x2 x3 x4 y0 y1 y2 y3 y4 z0 z1 z2 z3 z4 o0 o1 o2 o3 o4 : Int)
    (e0 : 0 + x0 * y0 + x1 * (19 * y4) + x2 * (19 * y3) + x3 * (19 * y2) + x4 * (19 * y1) = 2251799813685248 * o0 + z0)
    (e1 : 0 + x0 * y1 + x1 * y0 + x2 * (19 * y4) + x3 * (19 * y3) + x4 * (19 * y2) + o0 = 2251799813685248 * o1 + z1)
    (e2 : 0 + x0 * y2 + x1 * y1 + x2 * y0 + x3 * (19 * y4) + x4 * (19 * y3) + o1 = 2251799813685248 * o2 + z2)
    (e3 : 0 + x0 * y3 + x1 * y2 + x2 * y1 + x3 * y0 + x4 * (19 * y4) + o2 = 2251799813685248 * o3 + z3)
    (e4 : 0 + x0 * y4 + x1 * y3 + x2 * y2 + x3 * y1 + x4 * y0 + o3 = 2251799813685248 * o4 + z4)
    : Cong (val5 ((z0 + 19 * o4) % 2251799813685248) (z1 + (z0 + 19 * o4) / 2251799813685248) z2 z3 z4) (val5 x0 x1 x2 x3 x4 * val5 y0 y1 y2 y3 y4) := by
  have q := Int.mul_ediv_add_emod (z0 + 19 * o4) 2251799813685248
  generalize (z0 + 19 * o4) / 2251799813685248 = d at *
  generalize (z0 + 19 * o4) % 2251799813685248 = r at *
  rw [val5_mul, mul5 x0, mul5 x1, mul5 x2, mul5 x3, mul5 x4]
  rw [Int.mul_left_comm x1 19 y4] at e0
  rw [Int.mul_left_comm x2 19 y3] at e0
  rw [Int.mul_left_comm x2 19 y4] at e1
  rw [Int.mul_left_comm x3 19 y2] at e0
  rw [Int.mul_left_comm x3 19 y3] at e1
  rw [Int.mul_left_comm x3 19 y4] at e2
  rw [Int.mul_left_comm x4 19 y1] at e0
  rw [Int.mul_left_comm x4 19 y2] at e1
  rw [Int.mul_left_comm x4 19 y3] at e2
  rw [Int.mul_left_comm x4 19 y4] at e3
  refine ⟨-o4 - 1 * (x1 * y4) - 1 * (x2 * y3) - 2251799813685248 * (x2 * y4) - 1 * (x3 * y2) - 2251799813685248 * (x3 * y3) - 5070602400912917605986812821504 * (x3 * y4) - 1 * (x4 * y1) - 2251799813685248 * (x4 * y2) - 5070602400912917605986812821504 * (x4 * y3) - 11417981541647679048466287755595961091061972992 * (x4 * y4), ?_⟩
  unfold pp
  rw [show val5 r (z1 + d) z2 z3 z4 = r + 2251799813685248 * (z1 + d) + 5070602400912917605986812821504 * z2 + 11417981541647679048466287755595961091061972992 * z3 + 25711008708143844408671393477458601640355247900524685364822016 * z4 from rfl]
  omega
end Go.Proofs.YthnpbodkcdbckaaDoor
