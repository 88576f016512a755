/-
  A region that draws its order: what its operations leave in their slots. For any program.
-/
import Derived.Test.YtdpafemcpbhlfaaDoorScAny
namespace Go.Proofs.YtdpafemcpbhlfaaDoor.Sc
set_option maxRecDepth 100000
open Go.RowKit

/-- Does it make a block? -/
def newB (o : Oper) : Bool := match o.op with
  | .alloc _ => true
  | _ => false
/-- No two write one slot; all slots are there. -/
def dstB (ops : Array Oper) (n : Nat) : Bool :=
  (List.range ops.size).all fun i => (List.range ops.size).all fun j => match ops[i]?, ops[j]? with
    | some oi, some oj => match oi.dst, oj.dst with
      | some d, some e => (i == j || d != e) && decide (d < n)
      | _, _ => true
    | _, _ => true
theorem idx_lt {ops : Array Oper} {i : Nat} {o : Oper} (h : ops[i]? = some o) : i < ops.size := by
  by_cases hi : i < ops.size
  · exact hi
  · rw [Array.getElem?_eq_none (by omega)] at h; cases h
theorem dstB_spec {ops : Array Oper} {n : Nat} (h : dstB ops n = true) {i j : Nat} {oi oj : Oper} {d e : Nat} (hi : ops[i]? = some oi) (hj : ops[j]? = some oj) (hd : oi.dst = some d) (he : oj.dst = some e) : (i = j ∨ d ≠ e) ∧ d < n := by
  have := List.all_eq_true.1 (List.all_eq_true.1 h i (List.mem_range.2 (idx_lt hi))) j (List.mem_range.2 (idx_lt hj))
  simp only [hi, hj, hd, he, Bool.and_eq_true, Bool.or_eq_true, beq_iff_eq, bne_iff_ne, decide_eq_true_eq] at this
  exact this
structure Slots (ops : Array Oper) (spec : Nat → Value → World → Prop) (a0 : Act) (w0 : World) (listed : Array Bool) (a : Act) (w : World) : Prop where
  upd : Upd (fun _ => False) w0 w
  defers : a.defers = a0.defers
  size : a.tmps.size = a0.tmps.size
  other : ∀ (t : Nat), (∀ (i : Nat) (o : Oper), ops[i]? = some o → listed.getD i false = true → o.dst ≠ some t) → a.tmps[t]? = a0.tmps[t]?
  vals : ∀ (i : Nat) (o : Oper) (d : Nat), ops[i]? = some o → o.dst = some d → listed.getD i false = true → ∃ v, a.tmps[d]? = some v ∧ spec i v w
  apart : ∀ (i j : Nat) (oi oj : Oper) (di dj : Nat), i ≠ j → ops[i]? = some oi → ops[j]? = some oj → newB oi = true → newB oj = true → oi.dst = some di → oj.dst = some dj → listed.getD i false = true → listed.getD j false = true → a.tmps[di]? ≠ a.tmps[dj]?
theorem Slots.start (ops : Array Oper) (spec : Nat → Value → World → Prop) (a0 : Act) (w0 : World) (n : Nat) : Slots ops spec a0 w0 (Array.replicate n false) a0 w0 := by
  have hr : ∀ i, (Array.replicate n false).getD i false = false := fun i => by
    by_cases hi : i < n <;> simp [Array.getD, hi]
  exact ⟨Upd.refl _ _, rfl, rfl, fun _ _ => rfl, (fun i o d _ _ hl => by rw [hr] at hl; cases hl), (fun i j oi oj di dj _ _ _ _ _ _ _ hl _ => by rw [hr] at hl; cases hl)⟩
theorem Slots.put {ops : Array Oper} {spec : Nat → Value → World → Prop} {a0 : Act} {w0 : World} {listed : Array Bool} {a : Act} {w : World} (h : Slots ops spec a0 w0 listed a w) (hdst : dstB ops a0.tmps.size = true)
    (stable : ∀ j v w w', Upd (fun _ => False) w w' → spec j v w → spec j v w') (hls : listed.size = ops.size) {i : Nat} {o : Oper} {d : Nat} (ho : ops[i]? = some o) (hd : o.dst = some d) {v : Value} {w' : World} (hu : Upd (fun _ => False) w w') (hs : spec i v w')
    (hap : newB o = true → ∀ (j : Nat) (oj : Oper) (dj : Nat), j ≠ i → ops[j]? = some oj → newB oj = true → oj.dst = some dj → listed.getD j false = true → a.tmps[dj]? ≠ some v) :
    Slots ops spec a0 w0 (listed.setIfInBounds i true) (a.put o.dst v) w' := by
  have hi := idx_lt ho
  have hdn : d < a.tmps.size := by rw [h.size]; exact (dstB_spec hdst ho ho hd hd).2
  have hput : (a.put o.dst v) = { a with tmps := a.tmps.setIfInBounds d v } := by rw [hd]; rfl
  rw [hput]
  have hget : ∀ t, t ≠ d → (a.tmps.setIfInBounds d v)[t]? = a.tmps[t]? := fun t ht => Array.getElem?_setIfInBounds_ne (by omega)
  have hself : (a.tmps.setIfInBounds d v)[d]? = some v := by simp [hdn]
  have hle : ∀ j, j ≠ i → (listed.setIfInBounds i true).getD j false = true → listed.getD j false = true := fun j hj hl => by
    rw [getD_set listed i j false (by omega), if_neg (by omega)] at hl; exact hl
  have hne : ∀ (j : Nat) (oj : Oper) (dj : Nat), j ≠ i → ops[j]? = some oj → oj.dst = some dj → dj ≠ d := fun j oj dj hj hoj hdj e => by
    rcases (dstB_spec hdst hoj ho hdj hd).1 with h1 | h1
    · exact hj h1
    · exact h1 e
  refine ⟨h.upd.trans hu, h.defers, by simpa using h.size, fun t ht => ?_, fun j oj dj hoj hdj hl => ?_, fun j k oj ok dj dk hjk hoj hok nj nk hdj hdk lj lk => ?_⟩
  · show (a.tmps.setIfInBounds d v)[t]? = _
    have hls2 : i < listed.size := by rw [hls]; exact hi
    rw [hget t (fun e => ht i o ho (by rw [getD_set listed i i false hls2, if_pos rfl]) (by rw [hd, e]))]
    exact h.other t (fun j oj hoj hl => ht j oj hoj (by rw [getD_set listed i j false hls2]; split <;> first | rfl | exact hl))
  · by_cases e : j = i
    · subst e
      obtain rfl : oj = o := Option.some.inj (hoj.symm.trans ho)
      obtain rfl : dj = d := Option.some.inj (hdj.symm.trans hd)
      exact ⟨v, hself, hs⟩
    · obtain ⟨u, hu1, hu2⟩ := h.vals j oj dj hoj hdj (hle j e hl)
      exact ⟨u, by rw [← hu1]; exact hget dj (hne j oj dj e hoj hdj), stable _ _ _ _ hu hu2⟩
  · show (a.tmps.setIfInBounds d v)[dj]? ≠ (a.tmps.setIfInBounds d v)[dk]?
    by_cases e : j = i
    · subst e
      obtain rfl : oj = o := Option.some.inj (hoj.symm.trans ho)
      obtain rfl : dj = d := Option.some.inj (hdj.symm.trans hd)
      rw [hself, hget dk (hne k ok dk (fun e => hjk e.symm) hok hdk)]
      exact fun e => hap nj k ok dk (fun e => hjk e.symm) hok nk hdk (hle k (fun e => hjk e.symm) lk) e.symm
    · by_cases e2 : k = i
      · subst e2
        obtain rfl : ok = o := Option.some.inj (hok.symm.trans ho)
        obtain rfl : dk = d := Option.some.inj (hdk.symm.trans hd)
        rw [hself, hget dj (hne j oj dj e hoj hdj)]
        exact hap nk j oj dj e hoj nj hdj (hle j e lj)
      · rw [hget dj (hne j oj dj e hoj hdj), hget dk (hne k ok dk e2 hok hdk)]
        exact h.apart j k oj ok dj dk hjk hoj hok nj nk hdj hdk (hle j e lj) (hle k e2 lk)
/-- The slots, written out. -/
theorem Slots.act {ops : Array Oper} {spec : Nat → Value → World → Prop} {a0 : Act} {w0 : World} {listed : Array Bool} {a : Act} {w : World} (h : Slots ops spec a0 w0 listed a w) (vs : List (Nat × Value))
    (hv : ∀ p ∈ vs, a.tmps[p.1]? = some p.2) (hall : (List.range ops.size).all (fun i => match ops[i]? with | some o => (match o.dst with | some d => !listed.getD i false || (vs.map Prod.fst).contains d | none => true) | none => true) = true) :
    a = ⟨vs.foldl (fun A p => A.setIfInBounds p.1 p.2) a0.tmps, a0.defers⟩ := by
  have key : ∀ (vs : List (Nat × Value)) (A : Array Value), A.size = a.tmps.size → (∀ p ∈ vs, a.tmps[p.1]? = some p.2) → (∀ t, t ∉ vs.map Prod.fst → A[t]? = a.tmps[t]?) → vs.foldl (fun A p => A.setIfInBounds p.1 p.2) A = a.tmps := by
    intro vs
    induction vs with
    | nil =>
      intro A _ _ ho
      exact Array.ext_getElem? (fun t => ho t (by simp))
    | cons p vs ih =>
      intro A hs hv ho
      rw [List.foldl_cons]
      refine ih _ (by simpa using hs) (fun q hq => hv q (by simp [hq])) (fun t ht => ?_)
      by_cases e : p.1 = t
      · subst e
        have hp := hv p (by simp)
        have hlt : p.1 < A.size := by
          by_cases hq : p.1 < A.size
          · exact hq
          · rw [Array.getElem?_eq_none (by omega)] at hp; cases hp
        rw [hp]
        simp [hlt]
      · rw [Array.getElem?_setIfInBounds_ne e]
        exact ho t (by simp only [List.map_cons, List.mem_cons, not_or]; exact ⟨fun h => e h.symm, ht⟩)
  have := key vs a0.tmps h.size.symm hv (fun t ht => (h.other t (fun i o ho hl hd => by
    have := List.all_eq_true.1 hall i (List.mem_range.2 (idx_lt ho))
    simp only [ho, hd, hl, Bool.not_true, Bool.false_or] at this
    exact ht (by simpa using this))).symm)
  rw [this, ← h.defers]
theorem eval_of {a : Act} {t : Nat} {v : Value} (h : a.tmps[t]? = some v) : a.eval (.tmp t) = v := by
  simp [Act.eval, Array.getD_eq_getD_getElem?, h]

section
variable {P : Program}
theorem step_call {ops : Array Oper} {o : Oper} {a : Act} {w : World} {K : Act → World → Prop} {Q : Exit → Act → World → Prop} {E : Prop} (hgd : o.guard = none) (f : FuncId) (xs : Array Operand) (ts : Array TypeId)
    (ho : o.op = .call { callee := .value (.func f), args := xs, argTypes := ts }) (vs : Array Value) (hx : xs.map a.eval = vs) (hf : ∀ w, (callFunc f vs).run P w = .ok (.enter f vs) w)
    (h : Calls P f vs w fun e w' => ∃ v, e = .returned v ∧ K (a.put o.dst v) w') : if Region.wanted o (yielded ops a.tmps) = true then Oper.wp P o a w K Q else E := by
  have hw : Region.wanted o (yielded ops a.tmps) = true := by simp [Region.wanted, hgd]
  rw [if_pos hw]
  unfold Oper.wp
  have hrun : (execOp a.eval o).run P w = .ok (.enter f vs) w := by
    simp [execOp, ho, resolve, invoke, Act.eval, hx, Deferred.ofValue, hf]
  rw [hrun, Oper.upon_enter]
  refine h.mono ?_
  rintro e w' ⟨v, rfl, hk⟩
  exact hk
theorem step_alloc {ops : Array Oper} {o : Oper} {a : Act} {w : World} {K : Act → World → Prop} {Q : Exit → Act → World → Prop} {E : Prop} (hgd : o.guard = none) (t : TypeId) (ho : o.op = .alloc t) (z : Array Value) (hz : ∀ w, (zeroValue t).run P w = .ok (.agg z) w)
    (h : K (a.put o.dst (.pointer (some ⟨w.heap.size, 0, none⟩))) (w.alloc (.cells z t))) : if Region.wanted o (yielded ops a.tmps) = true then Oper.wp P o a w K Q else E := by
  have hw : Region.wanted o (yielded ops a.tmps) = true := by simp [Region.wanted, hgd]
  rw [if_pos hw]
  unfold Oper.wp
  have hrun : (execOp a.eval o).run P w = .ok (.value (.pointer (some ⟨w.heap.size, 0, none⟩))) (w.alloc (.cells z t)) := by
    simp [execOp, ho, hz, go_sem]
  rw [hrun, Oper.upon_value]
  exact h
theorem step_call' {ops : Array Oper} {o : Oper} {a : Act} {w : World} {K : Act → World → Prop} {Q : Exit → Act → World → Prop} {E : Prop} (hw : Region.wanted o (yielded ops a.tmps) = true) (f : FuncId) (xs : Array Operand) (ts : Array TypeId)
    (ho : o.op = .call { callee := .value (.func f), args := xs, argTypes := ts }) (vs : Array Value) (hx : xs.map a.eval = vs) (hf : ∀ w, (callFunc f vs).run P w = .ok (.enter f vs) w)
    (h : Calls P f vs w fun e w' => ∃ v, e = .returned v ∧ K (a.put o.dst v) w') : if Region.wanted o (yielded ops a.tmps) = true then Oper.wp P o a w K Q else E := by
  rw [if_pos hw]
  unfold Oper.wp
  have hrun : (execOp a.eval o).run P w = .ok (.enter f vs) w := by
    simp [execOp, ho, resolve, invoke, Act.eval, hx, Deferred.ofValue, hf]
  rw [hrun, Oper.upon_enter]
  refine h.mono ?_
  rintro e w' ⟨v, rfl, hk⟩
  exact hk
theorem step_alloc' {ops : Array Oper} {o : Oper} {a : Act} {w : World} {K : Act → World → Prop} {Q : Exit → Act → World → Prop} {E : Prop} (hw : Region.wanted o (yielded ops a.tmps) = true) (t : TypeId) (ho : o.op = .alloc t) (z : Array Value) (hz : ∀ w, (zeroValue t).run P w = .ok (.agg z) w)
    (h : K (a.put o.dst (.pointer (some ⟨w.heap.size, 0, none⟩))) (w.alloc (.cells z t))) : if Region.wanted o (yielded ops a.tmps) = true then Oper.wp P o a w K Q else E := by
  rw [if_pos hw]
  unfold Oper.wp
  have hrun : (execOp a.eval o).run P w = .ok (.value (.pointer (some ⟨w.heap.size, 0, none⟩))) (w.alloc (.cells z t)) := by
    simp [execOp, ho, hz, go_sem]
  rw [hrun, Oper.upon_value]
  exact h
theorem step_loadBlk' {ops : Array Oper} {o : Oper} {a : Act} {w : World} {K : Act → World → Prop} {Q : Exit → Act → World → Prop} {E : Prop} (hw : Region.wanted o (yielded ops a.tmps) = true) (ty : TypeId) (x : Operand) (ho : o.op = .load ty x)
    (g off n : Nat) (hx : a.eval x = .pointer (some ⟨g, off, none⟩)) (t : TypeId) (cs : Array Value) (d : TypeDesc) (hg : Blk w g t cs)
    (hu : P.underlying ty = some d) (hd : (match d with | .struct _ | .array _ _ => true | _ => false) = true) (hi : (P.info? ty).map (·.size) = some n) (hn : off + n ≤ cs.size)
    (h : K (a.put o.dst (.agg (cs.extract off (off + n)))) w) : if Region.wanted o (yielded ops a.tmps) = true then Oper.wp P o a w K Q else E := by
  rw [if_pos hw]
  unfold Oper.wp execOp
  simp only [ho, hx, Instr.loadAt, Instr.sureAddr, Sem.run_bind, Sem.run_pure, Result.andThen_ok, run_loadVar_blk w g off n t ty cs d hg hu hd hi hn]
  exact h
end
end Go.Proofs.YtdpafemcpbhlfaaDoor.Sc
