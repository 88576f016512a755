/-
  Lists of Elems made for a call, at an act that is not written out.
-/
import Derived.Test.YthnpbodkcdbckaaDoorSp
namespace Go.Proofs.YthnpbodkcdbckaaDoor
set_option maxRecDepth 100000
open Go.RowKit

theorem run_list2 {o : Oper} {a : Act} {p q : Operand} {x0 x1 x2 x3 x4 y0 y1 y2 y3 y4 : Int} (ho : o.op = .buildSlice 108 2 #[(0, p), (1, q)]) (hp : a.eval p = .agg #[.int .u64 x0, .int .u64 x1, .int .u64 x2, .int .u64 x3, .int .u64 x4]) (hq : a.eval q = .agg #[.int .u64 y0, .int .u64 y1, .int .u64 y2, .int .u64 y3, .int .u64 y4]) (w : World) :
    (execOp a.eval o).run Tryd.prog w = .ok (.value (.slice (some ⟨w.heap.size, 0, none⟩) 2 2)) (w.alloc (.cells #[.int .u64 x0, .int .u64 x1, .int .u64 x2, .int .u64 x3, .int .u64 x4, .int .u64 y0, .int .u64 y1, .int .u64 y2, .int .u64 y3, .int .u64 y4] 39)) := by
  generalize a.eval = ev at hp hq ⊢
  unfold execOp
  simp only [ho]
  simp [hp, hq, go_sem]
theorem run_list3 {o : Oper} {a : Act} {p q r : Operand} {x0 x1 x2 x3 x4 y0 y1 y2 y3 y4 z0 z1 z2 z3 z4 : Int} (ho : o.op = .buildSlice 108 3 #[(0, p), (1, q), (2, r)]) (hp : a.eval p = .agg #[.int .u64 x0, .int .u64 x1, .int .u64 x2, .int .u64 x3, .int .u64 x4]) (hq : a.eval q = .agg #[.int .u64 y0, .int .u64 y1, .int .u64 y2, .int .u64 y3, .int .u64 y4]) (hr : a.eval r = .agg #[.int .u64 z0, .int .u64 z1, .int .u64 z2, .int .u64 z3, .int .u64 z4]) (w : World) :
    (execOp a.eval o).run Tryd.prog w = .ok (.value (.slice (some ⟨w.heap.size, 0, none⟩) 3 3)) (w.alloc (.cells #[.int .u64 x0, .int .u64 x1, .int .u64 x2, .int .u64 x3, .int .u64 x4, .int .u64 y0, .int .u64 y1, .int .u64 y2, .int .u64 y3, .int .u64 y4, .int .u64 z0, .int .u64 z1, .int .u64 z2, .int .u64 z3, .int .u64 z4] 39)) := by
  generalize a.eval = ev at hp hq hr ⊢
  unfold execOp
  simp only [ho]
  simp [hp, hq, hr, go_sem]
theorem guardKey' : Tryd.prog.eqGuardType Tryd.prog.depth 23 = false := by kernel_rfl
theorem run_eqlKey {o : Oper} {a : Act} {p q : Operand} {A B : List Int} (ho : o.op = .binOp .eql 23 p q 23) (hp : a.eval p = .agg (numsA .u8 A)) (hq : a.eval q = .agg (numsA .u8 B)) (hA : A.length = 32) (hB : B.length = 32) (w : World) :
    (execOp a.eval o).run Tryd.prog w = .ok (.value (.bool (decide (A = B)))) w := by
  have he := eqKey A B hA hB
  have hg := guardKey'
  generalize a.eval = ev at hp hq ⊢
  generalize decide (A = B) = b at *
  unfold execOp
  simp only [ho]
  simp [hp, hq, go_sem, he, hg]
end Go.Proofs.YthnpbodkcdbckaaDoor
