/-
  A drawn region's operations behind its stores; two results; numbers of the reference compared.
-/
import Derived.Test.YthnpbodkcdbckaaDoorSkip
import Derived.Test.YthnpbodkcdbckaaDoorRefJ
namespace Go.Proofs.YthnpbodkcdbckaaDoor
set_option maxRecDepth 100000
open Go.RowKit

theorem step_pure {P : Program} {ops : Array Oper} {o : Oper} {a : Act} {w : World} {K : Act → World → Prop} {Q : Exit → Act → World → Prop} {E : Prop} (hgd : o.guard = none) (d : Nat) (hd : o.dst = some d) (v : Value)
    (hrun : (execOp a.eval o).run P w = .ok (.value v) w) (h : K { a with tmps := a.tmps.setIfInBounds d v } w) : if Region.wanted o (yielded ops a.tmps) = true then Oper.wp P o a w K Q else E := by
  have hw : Region.wanted o (yielded ops a.tmps) = true := by simp [Region.wanted, hgd]
  rw [if_pos hw]
  unfold Oper.wp
  rw [hrun, Oper.upon_value, hd]
  exact h
theorem results_cell_tmp {P : Program} {fn : Func} {p u : Tmp} {ty : TypeId} (h : fn.results = #[.cell p ty, .tmp u]) (tmps : Array Value) (w : World) (g : Nat) (t : TypeId) (cs : Array Value) (fr : Nat × Nat) (d : TypeDesc)
    (hp : tmps.getD p undef = .pointer (some ⟨g, 0, none⟩)) (hg : w.heap[g]? = some (.cells cs t fr))
    (hu : P.underlying ty = some d) (hd : (match d with | .struct _ | .array _ _ => true | _ => false) = true) (hi : (P.info? ty).map (·.size) = some cs.size) (v : Value) (hv : tmps.getD u undef = v) :
    (results fn tmps).run P w = .ok (.tuple #[.agg cs, v]) w := by
  have hp' : tmps[p]?.getD undef = .pointer (some ⟨g, 0, none⟩) := by simpa using hp
  have hv' : tmps[u]?.getD undef = v := by simpa using hv
  simp [results, h, hp', hv', asAddr, run_loadVar_row w g t ty cs fr d hg hu hd hi]
theorem run_eqlNum {o : Oper} {a : Act} {p q : Operand} {c d : Int} (ho : o.op = .binOp .eql 45 p q 45) (hp : a.eval p = .agg (numN c)) (hq : a.eval q = .agg (numN d)) (hc : 0 ≤ c ∧ c < 115792089237316195423570985008687907853269984665640564039457584007913129639936) (hd : 0 ≤ d ∧ d < 115792089237316195423570985008687907853269984665640564039457584007913129639936) (w : World) :
    (execOp a.eval o).run Tryd.prog w = .ok (.value (.bool (decide (c = d)))) w := by
  have he := eqNum c d
  have hg := guardNum
  rw [numN_inj hc hd] at he
  generalize a.eval = ev at hp hq ⊢
  generalize decide (c = d) = b at *
  unfold execOp
  simp only [ho]
  simp [hp, hq, go_sem, he, hg]
theorem run_buildN {o : Oper} {a : Act} (ho : o.op = .build 45 #[]) (w : World) : (execOp a.eval o).run Tryd.prog w = .ok (.value (.agg (numN 0))) w := by
  have hz := zeroN_run0
  generalize a.eval = ev
  unfold execOp
  simp only [ho]
  simp [go_sem, hz]
theorem okMod_bd (n : Int) : 0 ≤ n % pp ∧ n % pp < 115792089237316195423570985008687907853269984665640564039457584007913129639936 := ⟨(okMod n).1, (okMod n).2.1⟩
end Go.Proofs.YthnpbodkcdbckaaDoor
