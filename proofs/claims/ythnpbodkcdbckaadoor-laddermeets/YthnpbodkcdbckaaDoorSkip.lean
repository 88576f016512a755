/-
  A drawn region's operations that a guard leaves out; small operations.
-/
import Derived.Test.YthnpbodkcdbckaaDoorSp
import Derived.Test.YthnpbodkcdbckaaDoorLists
import Derived.Test.YthnpbodkcdbckaaDoorHead
namespace Go.Proofs.YthnpbodkcdbckaaDoor
set_option maxRecDepth 100000
open Go.RowKit

section
variable {P : Program} {ops : Array Oper} {Q : Exit → Act → World → Prop} {sp : List SP} {a0 : Act} {w0 : World} {listed : Array Bool} {a : Act} {w : World} {base : Nat} {K' : Act → World → Prop} {i : Nat} {o : Oper} {d : Nat}
theorem wanted_not {j : Nat} {oj : Oper} {dj : Nat} {want b : Bool} (hg : o.guard = some (j, want)) (hoj : ops[j]? = some oj) (hdj : oj.dst = some dj) (hv : a.tmps[dj]? = some (.bool b)) (hb : b = !want) : Region.wanted o (yielded ops a.tmps) = false := by
  subst hb
  cases want <;> simp [Region.wanted, hg, yielded, hoj, hdj, hv]
theorem Slots.stepSkip (h : Slots ops (specOf base sp) a0 w0 listed a w) (hdst : dstB ops a0.tmps.size = true) (hls : listed.size = ops.size) (ho : ops[i]? = some o) (hw : Region.wanted o (yielded ops a.tmps) = false) (hd : o.dst = some d) (hsp : sp[i]? = some (.val undef)) (hnew : newB o = false)
    (hK' : ∀ a' w', Slots ops (specOf base sp) a0 w0 (listed.setIfInBounds i true) a' w' → K' a' w') : if Region.wanted o (yielded ops a.tmps) = true then Oper.wp P o a w K' Q else K' (a.put o.dst undef) w := by
  rw [if_neg (by rw [hw]; simp)]
  exact hK' _ _ (h.put hdst (specOf_stable base sp) hls ho hd (Upd.refl _ w) (fun s hs => by rw [hsp] at hs; cases hs; rfl) (fun hq => by rw [hnew] at hq; cases hq))
end
/-- Two keys that are the same list are not held to differ. -/
theorem run_diffKey {o : Oper} {a : Act} {p q : Operand} {A B : List Int} (ho : o.op = .binOp .neq 23 p q 23) (hp : a.eval p = .agg (numsA .u8 A)) (hq : a.eval q = .agg (numsA .u8 B)) (hA : A.length = 32) (hB : B.length = 32) (h : A = B) (w : World) :
    (execOp a.eval o).run Tryd.prog w = .ok (.value (.bool false)) w := by
  have he := eqKey A B hA hB
  have hg := guardKey'
  rw [decide_eq_true h] at he
  generalize a.eval = ev at hp hq ⊢
  unfold execOp
  simp only [ho]
  simp [hp, hq, go_sem, he, hg]
theorem run_build1 {o : Oper} {a : Act} {x : Int} (ho : o.op = .build 23 #[(0, .const (.int .u8 x))]) (hc : a.eval (.const (.int .u8 x)) = .int .u8 x) (w : World) : (execOp a.eval o).run Tryd.prog w = .ok (.value (.agg (numsA .u8 (keyL x)))) w := by
  have hz := zeroK_run
  have hset := zeroK_set
  have hne : zeroK ≠ #[] := by
    intro h
    have h2 := zeroK_size
    rw [h] at h2
    exact absurd h2 (by decide)
  generalize a.eval = ev at hc ⊢
  unfold execOp
  simp only [ho]
  simp [hc, go_sem, hz, hne, hset]
theorem keyL_digs {n : Int} (h : 0 ≤ n ∧ n < 256) : Digs 256 (keyL n) := by
  intro v hv
  simp only [keyL, List.mem_cons, List.mem_replicate] at hv
  rcases hv with rfl | ⟨_, rfl⟩
  · exact h
  · omega
end Go.Proofs.YthnpbodkcdbckaaDoor
