/-
  Small operations, as they lie in a region that draws its order: what each yields. For any program.
-/
import Derived.Test.YtdpafemcpbhlfaaDoorScHead
namespace Go.Proofs.YtdpafemcpbhlfaaDoor.Sc
set_option maxRecDepth 100000
open Go.RowKit

section
variable {P : Program} {o : Oper} {a : Act} {p q : Operand} {T T' : TypeId} {k : IntKind} {x y r : Int} {b : Bool}
theorem run_lss (ho : o.op = .binOp .lss T p q T') (hp : a.eval p = .int k x) (hq : a.eval q = .int k y) (h : decide (x < y) = b) (w : World) : (execOp a.eval o).run P w = .ok (.value (.bool b)) w := by
  subst h; generalize a.eval = ev at *; unfold execOp; simp only [ho]; simp [hp, hq, go_sem]
theorem run_leq (ho : o.op = .binOp .leq T p q T') (hp : a.eval p = .int k x) (hq : a.eval q = .int k y) (h : decide (x ≤ y) = b) (w : World) : (execOp a.eval o).run P w = .ok (.value (.bool b)) w := by
  subst h; generalize a.eval = ev at *; unfold execOp; simp only [ho]; simp [hp, hq, go_sem]
theorem run_gtr (ho : o.op = .binOp .gtr T p q T') (hp : a.eval p = .int k x) (hq : a.eval q = .int k y) (h : decide (y < x) = b) (w : World) : (execOp a.eval o).run P w = .ok (.value (.bool b)) w := by
  subst h; generalize a.eval = ev at *; unfold execOp; simp only [ho]; simp [hp, hq, go_sem]
theorem run_geq (ho : o.op = .binOp .geq T p q T') (hp : a.eval p = .int k x) (hq : a.eval q = .int k y) (h : decide (y ≤ x) = b) (w : World) : (execOp a.eval o).run P w = .ok (.value (.bool b)) w := by
  subst h; generalize a.eval = ev at *; unfold execOp; simp only [ho]; simp [hp, hq, go_sem]
theorem run_eql (ho : o.op = .binOp .eql T p q T') (hp : a.eval p = .int k x) (hq : a.eval q = .int k y) (h : decide (x = y) = b) (w : World) : (execOp a.eval o).run P w = .ok (.value (.bool b)) w := by
  subst h; generalize a.eval = ev at *; unfold execOp; simp only [ho]; simp [hp, hq, go_sem]
  by_cases e : x = y <;> simp [e]
theorem run_neq (ho : o.op = .binOp .neq T p q T') (hp : a.eval p = .int k x) (hq : a.eval q = .int k y) (h : decide (x ≠ y) = b) (w : World) : (execOp a.eval o).run P w = .ok (.value (.bool b)) w := by
  subst h; generalize a.eval = ev at *; unfold execOp; simp only [ho]; simp [hp, hq, go_sem]
  by_cases e : x = y <;> simp [e]
theorem run_add (ho : o.op = .binOp .add T p q T') (hp : a.eval p = .int k x) (hq : a.eval q = .int k y) (h : k.wrap (x + y) = r) (w : World) : (execOp a.eval o).run P w = .ok (.value (.int k r)) w := by
  subst h; generalize a.eval = ev at *; unfold execOp; simp only [ho]; simp [hp, hq, go_sem]
theorem run_sub (ho : o.op = .binOp .sub T p q T') (hp : a.eval p = .int k x) (hq : a.eval q = .int k y) (h : k.wrap (x - y) = r) (w : World) : (execOp a.eval o).run P w = .ok (.value (.int k r)) w := by
  subst h; generalize a.eval = ev at *; unfold execOp; simp only [ho]; simp [hp, hq, go_sem]
theorem run_mul (ho : o.op = .binOp .mul T p q T') (hp : a.eval p = .int k x) (hq : a.eval q = .int k y) (h : k.wrap (x * y) = r) (w : World) : (execOp a.eval o).run P w = .ok (.value (.int k r)) w := by
  subst h; generalize a.eval = ev at *; unfold execOp; simp only [ho]; simp [hp, hq, go_sem]
theorem run_rem (ho : o.op = .binOp .rem T p q T') (hp : a.eval p = .int k x) (hq : a.eval q = .int k y) (h0 : y ≠ 0) (h : x.tmod y = r) (w : World) : (execOp a.eval o).run P w = .ok (.value (.int k r)) w := by
  subst h; generalize a.eval = ev at *; unfold execOp; simp only [ho]; simp [hp, hq, go_sem, h0]
theorem run_quo (ho : o.op = .binOp .quo T p q T') (hp : a.eval p = .int k x) (hq : a.eval q = .int k y) (h0 : y ≠ 0) (h : k.wrap (x.tdiv y) = r) (w : World) : (execOp a.eval o).run P w = .ok (.value (.int k r)) w := by
  subst h; generalize a.eval = ev at *; unfold execOp; simp only [ho]; simp [hp, hq, go_sem, h0]
theorem run_not (ho : o.op = .unOp .not T p) (hp : a.eval p = .bool b) (w : World) : (execOp a.eval o).run P w = .ok (.value (.bool (!b))) w := by
  generalize a.eval = ev at *; unfold execOp; simp only [ho]; simp [hp, go_sem]
theorem run_conv {k' : IntKind} (ho : o.op = .convert T T' p) (hT : ∃ d, P.underlying T = some d) (hT' : P.underlying T' = some (.int k')) (hp : a.eval p = .int k x) (h : k'.wrap x = r) (w : World) : (execOp a.eval o).run P w = .ok (.value (.int k' r)) w := by
  obtain ⟨d, hd⟩ := hT
  subst h; generalize a.eval = ev at *; unfold execOp; simp only [ho]; simp [hp, go_sem, run_underlying hd, run_underlying hT', convert]
theorem run_adr {n : Nat} {e : TypeId} {g off i : Nat} (ho : o.op = .indexAddr T p q) (hT : P.underlying T = some (.array n e)) (hs : (P.info? e).map (·.size) = some 1) (hp : a.eval p = .pointer (some ⟨g, off, none⟩)) (hq : a.eval q = .int k i) (hi : i < n) (w : World) :
    (execOp a.eval o).run P w = .ok (.value (.pointer (some ⟨g, off + i, none⟩))) w := by
  have hsz : ∀ w, (sizeOf e).run P w = .ok 1 w := fun w => by
    cases hq : P.info? e with
    | none => simp [hq] at hs
    | some i => have : i.size = 1 := by simpa [hq] using hs
                simp [sizeOf, typeInfo, hq, this]
  generalize a.eval = ev at *; unfold execOp; simp only [ho]; simp [hp, hq, go_sem, hT, hsz, hi, Addr.add]
theorem run_cell {g i : Nat} {v : Value} (ho : o.op = .load T p) (hT : P.underlying T = some (.int k)) (hp : a.eval p = .pointer (some ⟨g, i, none⟩)) (w : World) (hc : w.cell? ⟨g, i, none⟩ = some v) : (execOp a.eval o).run P w = .ok (.value v) w := by
  have hagg : (isAgg T).run P w = .ok false w := by
    unfold isAgg
    rw [Sem.run_bind, run_underlying hT w]
    simp
  generalize a.eval = ev at *; unfold execOp; simp only [ho]; simp [hp, go_sem, hagg, hc]
end
theorem run_enter {P : Program} {f : FuncId} {fn : Func} (hf : P.funcs[f]? = some fn) (hn : (fn.name == "runtime.NumGoroutine") = false) (hb : fn.body.isNone = false) (vs : Array Value) (w : World) : (callFunc f vs).run P w = .ok (.enter f vs) w := by
  have h1 : fn.name ≠ "runtime.NumGoroutine" := by simpa using hn
  have h2 : ¬ fn.body = none := by intro h; rw [h] at hb; cases hb
  simp [callFunc, go_sem, hf, h1, h2]
theorem step_pure {P : Program} {ops : Array Oper} {o : Oper} {a : Act} {w : World} {K : Act → World → Prop} {Q : Exit → Act → World → Prop} {E : Prop} (hgd : o.guard = none) (d : Nat) (hd : o.dst = some d) (v : Value)
    (hrun : (execOp a.eval o).run P w = .ok (.value v) w) (h : K { a with tmps := a.tmps.setIfInBounds d v } w) : if Region.wanted o (yielded ops a.tmps) = true then Oper.wp P o a w K Q else E := by
  have hw : Region.wanted o (yielded ops a.tmps) = true := by simp [Region.wanted, hgd]
  rw [if_pos hw]
  unfold Oper.wp
  rw [hrun, Oper.upon_value, hd]
  exact h
theorem Slots.stepPure2 {P : Program} {ops : Array Oper} {Q : Exit → Act → World → Prop} {sp : List SP} {a0 : Act} {w0 : World} {listed : Array Bool} {a : Act} {w : World} {base : Nat} {K' : Act → World → Prop} {E : Prop} {i : Nat} {o : Oper} {d : Nat}
    (h : Slots ops (specOf base sp) a0 w0 listed a w) (hdst : dstB ops a0.tmps.size = true) (hls : listed.size = ops.size) (ho : ops[i]? = some o) (hw : Region.wanted o (yielded ops a.tmps) = true) (hd : o.dst = some d) (v : Value)
    (hrun : (execOp a.eval o).run P w = .ok (.value v) w) (s : SP) (hsp : sp[i]? = some s) (hs : s.holds base v w) (hnew : newB o = false)
    (hK' : ∀ a' w', Slots ops (specOf base sp) a0 w0 (listed.setIfInBounds i true) a' w' → K' a' w') : if Region.wanted o (yielded ops a.tmps) = true then Oper.wp P o a w K' Q else E := by
  rw [if_pos hw]
  unfold Oper.wp
  rw [hrun, Oper.upon_value]
  exact hK' _ _ (h.put hdst (specOf_stable base sp) hls ho hd (Upd.refl _ w) (fun s' hs' => by rw [hsp] at hs'; cases hs'; exact hs) (fun hq => by rw [hnew] at hq; cases hq))
theorem run_loadKey {o : Oper} {a : Act} {p : Operand} {g : Nat} {tb : TypeId} {arr : Array Value} (ho : o.op = .load 23 p) (hp : a.eval p = .pointer (some ⟨g, 0, none⟩)) (w : World) (hb : Blk w g tb arr) (hs : arr.size = 32) : (execOp a.eval o).run Tryd.prog w = .ok (.value (.agg arr)) w := by
  have h := run_loadVar_blk (P := Tryd.prog) w g 0 32 tb 23 arr _ hb Tryd.underlying23 rfl sizeKey (by omega)
  rw [extract_all _ _ hs] at h
  generalize a.eval = ev at hp ⊢
  unfold execOp
  simp only [ho, hp, Instr.loadAt, Instr.sureAddr, Sem.run_bind, Sem.run_pure, Result.andThen_ok, h]
theorem run_neqKey {o : Oper} {a : Act} {p q : Operand} {A B : List Int} {b : Bool} (ho : o.op = .binOp .neq 23 p q 23) (hp : a.eval p = .agg (numsA .u8 A)) (hq : a.eval q = .agg (numsA .u8 B)) (hA : A.length = 32) (hB : B.length = 32) (h : decide (A ≠ B) = b) (w : World) :
    (execOp a.eval o).run Tryd.prog w = .ok (.value (.bool b)) w := by
  subst h
  have e := eqKey A B hA hB w
  have hg := guardKey
  generalize a.eval = ev at hp hq ⊢
  unfold execOp
  simp only [ho]
  simp [hp, hq, go_sem, hg, e, binOp, Op.equal, Op.maxDepth]
theorem run_eqlKey {o : Oper} {a : Act} {p q : Operand} {A B : List Int} {b : Bool} (ho : o.op = .binOp .eql 23 p q 23) (hp : a.eval p = .agg (numsA .u8 A)) (hq : a.eval q = .agg (numsA .u8 B)) (hA : A.length = 32) (hB : B.length = 32) (h : decide (A = B) = b) (w : World) :
    (execOp a.eval o).run Tryd.prog w = .ok (.value (.bool b)) w := by
  subst h
  have e := eqKey A B hA hB w
  have hg := guardKey
  generalize a.eval = ev at hp hq ⊢
  unfold execOp
  simp only [ho]
  simp [hp, hq, go_sem, hg, e, binOp, Op.equal, Op.maxDepth]
end Go.Proofs.YtdpafemcpbhlfaaDoor.Sc
