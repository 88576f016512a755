/-
  A region that draws its order and assigns several structs at once: loads, calls, new blocks.
-/
import Derived.Test.YtdpafemcpbhlfaaDoorScSlots
import Derived.Test.YtdpafemcpbhlfaaDoorScDig
namespace Go.Proofs.YtdpafemcpbhlfaaDoor.Sc
set_option maxRecDepth 100000
open Go.RowKit

/-- What an operation leaves in its slot: a value; an Elem alike n; a pointer to a new block. -/
inductive SP where
  | val (v : Value)
  | new (t : TypeId) (z : Array Value)
  | like (p : Value → Prop)
  | blk (f : Nat → Value) (t : TypeId) (z : Array Value)
def SP.holds (base : Nat) : SP → Value → World → Prop
  | .val u, v, _ => v = u
  | .new t z, v, w => ∃ b : Nat, v = .pointer (some ⟨b, 0, none⟩) ∧ base ≤ b ∧ Blk w b t z
  | .blk f t z, v, w => ∃ b : Nat, v = f b ∧ base ≤ b ∧ Blk w b t z
  | .like p, v, _ => p v
theorem SP.stable {base : Nat} : ∀ (s : SP) {v : Value} {w w' : World}, Upd (fun _ => False) w w' → s.holds base v w → s.holds base v w'
  | .val _, _, _, _, _, h => h
  | .new _ _, _, _, _, hu, ⟨b, h1, h2, h3⟩ => ⟨b, h1, h2, hu.blk h3 (fun h => h)⟩
  | .blk _ _ _, _, _, _, hu, ⟨b, h1, h2, h3⟩ => ⟨b, h1, h2, hu.blk h3 (fun h => h)⟩
  | .like _, _, _, _, _, h => h
def specOf (base : Nat) (sp : List SP) (i : Nat) (v : Value) (w : World) : Prop := ∀ s, sp[i]? = some s → s.holds base v w
theorem specOf_stable (base : Nat) (sp : List SP) (j : Nat) (v : Value) (w w' : World) (hu : Upd (fun _ => False) w w') (h : specOf base sp j v w) : specOf base sp j v w' := fun s hs => s.stable hu (h s hs)
def noDstB (ops : Array Oper) (t : Nat) : Bool := (List.range ops.size).all fun i => match ops[i]? with
  | some o => (match o.dst with | some d => d != t | none => true)
  | none => true
theorem noDstB_spec {ops : Array Oper} {t : Nat} (h : noDstB ops t = true) (i : Nat) (o : Oper) (ho : ops[i]? = some o) : o.dst ≠ some t := fun e => by
  have := List.all_eq_true.1 h i (List.mem_range.2 (idx_lt ho))
  simp [ho, e] at this

/-- Each that makes a block is said to do so. -/
def newsB (ops : Array Oper) (sp : List SP) : Bool := (List.range ops.size).all fun i => match ops[i]? with
  | some o => !newB o || (match sp[i]? with | some (.new _ _) => true | _ => false)
  | none => true
theorem newsB_spec {ops : Array Oper} {sp : List SP} (h : newsB ops sp = true) (j : Nat) (oj : Oper) (ho : ops[j]? = some oj) (hn : newB oj = true) : ∃ t z, sp[j]? = some (.new t z) := by
  have := List.all_eq_true.1 h j (List.mem_range.2 (idx_lt ho))
  simp only [ho, hn, Bool.not_true, Bool.false_or] at this
  split at this
  · exact ⟨_, _, by assumption⟩
  · cases this
section
variable {P : Program} {ops : Array Oper} {Q : Exit → Act → World → Prop} {sp : List SP} {a0 : Act} {w0 : World} {listed : Array Bool} {a : Act} {w : World} {base : Nat} {K' : Act → World → Prop} {E : Prop} {i : Nat} {o : Oper} {d : Nat}
theorem Slots.old (h : Slots ops (specOf base sp) a0 w0 listed a w) {t : Nat} (hn : noDstB ops t = true) {v : Value} (hv : a0.tmps[t]? = some v) : a.eval (.tmp t) = v :=
  eval_of ((h.other t (fun i o ho _ => noDstB_spec hn i o ho)).trans hv)
theorem Slots.have (h : Slots ops (specOf base sp) a0 w0 listed a w) (i : Nat) (o : Oper) (d : Nat) (s : SP) (ho : ops[i]? = some o) (hd : o.dst = some d) (hs : sp[i]? = some s) (hl : listed.getD i false = true) : ∃ v, a.tmps[d]? = some v ∧ s.holds base v w := by
  obtain ⟨v, h1, h2⟩ := h.vals i o d ho hd hl
  exact ⟨v, h1, h2 s hs⟩
theorem Slots.stepLoad (h : Slots ops (specOf base sp) a0 w0 listed a w) (hdst : dstB ops a0.tmps.size = true) (hls : listed.size = ops.size) (ho : ops[i]? = some o) (hw : Region.wanted o (yielded ops a.tmps) = true) (hd : o.dst = some d) (ty : TypeId) (t : Nat) (hop : o.op = .load ty (.tmp t))
    (hn : noDstB ops t = true) (g n : Nat) (hv : a0.tmps[t]? = some (.pointer (some ⟨g, 0, none⟩))) (tb : TypeId) (arr : Array Value) (hb : Blk w0 g tb arr) (desc : TypeDesc) (hu : P.underlying ty = some desc) (hrow : (match desc with | .struct _ | .array _ _ => true | _ => false) = true)
    (hi : (P.info? ty).map (·.size) = some n) (hsz : arr.size = n) (hsp : sp[i]? = some (.val (.agg arr))) (hnew : newB o = false)
    (hK' : ∀ a' w', Slots ops (specOf base sp) a0 w0 (listed.setIfInBounds i true) a' w' → K' a' w') : if Region.wanted o (yielded ops a.tmps) = true then Oper.wp P o a w K' Q else E := by
  refine step_loadBlk' hw ty (.tmp t) hop g 0 n (h.old hn hv) tb arr desc (h.upd.blk hb (fun h => h)) hu hrow hi (by omega) ?_
  rw [extract_all _ _ hsz]
  exact hK' _ _ (h.put hdst (specOf_stable base sp) hls ho hd (Upd.refl _ w) (fun s hs => by rw [hsp] at hs; cases hs; rfl) (fun hq => by rw [hnew] at hq; cases hq))
theorem Slots.stepCall (h : Slots ops (specOf base sp) a0 w0 listed a w) (hdst : dstB ops a0.tmps.size = true) (hls : listed.size = ops.size) (ho : ops[i]? = some o) (hw : Region.wanted o (yielded ops a.tmps) = true) (hd : o.dst = some d) (f : FuncId) (xs : Array Operand) (ts : Array TypeId)
    (hop : o.op = .call { callee := .value (.func f), args := xs, argTypes := ts }) (vs : Array Value) (hx : xs.map a.eval = vs) (hf : ∀ vs w, (callFunc f vs).run P w = .ok (.enter f vs) w) (s : SP) (hsp : sp[i]? = some s) (hnew : newB o = false)
    (hc : Calls P f vs w fun e w' => ∃ v, e = .returned v ∧ s.holds base v w' ∧ Upd (fun _ => False) w w')
    (hK' : ∀ a' w', Slots ops (specOf base sp) a0 w0 (listed.setIfInBounds i true) a' w' → K' a' w') : if Region.wanted o (yielded ops a.tmps) = true then Oper.wp P o a w K' Q else E := by
  refine step_call' hw f xs ts hop vs hx (hf vs) (hc.mono ?_)
  rintro e w' ⟨v, rfl, hs, hu⟩
  exact ⟨v, rfl, hK' _ _ (h.put hdst (specOf_stable base sp) hls ho hd hu (fun s' hs' => by rw [hsp] at hs'; cases hs'; exact hs) (fun hq => by rw [hnew] at hq; cases hq))⟩
theorem Slots.stepAlloc (h : Slots ops (specOf base sp) a0 w0 listed a w) (hdst : dstB ops a0.tmps.size = true) (hls : listed.size = ops.size) (hbase : base ≤ w0.heap.size) (hnews : ∀ (j : Nat) (oj : Oper), ops[j]? = some oj → newB oj = true → ∃ t z, sp[j]? = some (.new t z))
    (ho : ops[i]? = some o) (hw : Region.wanted o (yielded ops a.tmps) = true) (hd : o.dst = some d) (t : TypeId) (hop : o.op = .alloc t) (z : Array Value) (hz : ∀ w, (zeroValue t).run P w = .ok (.agg z) w) (hsp : sp[i]? = some (.new t z))
    (hK' : ∀ a' w', Slots ops (specOf base sp) a0 w0 (listed.setIfInBounds i true) a' w' → K' a' w') : if Region.wanted o (yielded ops a.tmps) = true then Oper.wp P o a w K' Q else E := by
  refine step_alloc' hw t hop z hz ?_
  refine hK' _ _ (h.put hdst (specOf_stable base sp) hls ho hd ((Upd.refl _ w).alloc _) (fun s hs => ?_) (fun _ j oj dj hji hoj nj hdj hl => ?_))
  · rw [hsp] at hs
    cases hs
    exact ⟨w.heap.size, rfl, Nat.le_trans hbase h.upd.size, Blk.at1 w z t⟩
  · obtain ⟨tj, zj, hj⟩ := hnews j oj hoj nj
    obtain ⟨v, h1, b, h2, _, h3⟩ := h.have j oj dj _ hoj hdj hj hl
    rw [h1, h2]
    intro e
    have hlt := h3.lt
    simp only [Option.some.injEq, Value.pointer.injEq, Addr.mk.injEq] at e
    omega
/-- An operation that yields one value in whatever world. -/
theorem Slots.stepPure (h : Slots ops (specOf base sp) a0 w0 listed a w) (hdst : dstB ops a0.tmps.size = true) (hls : listed.size = ops.size) (ho : ops[i]? = some o) (hw : Region.wanted o (yielded ops a.tmps) = true) (hd : o.dst = some d) (v : Value)
    (hrun : (execOp a.eval o).run P w = .ok (.value v) w) (hsp : sp[i]? = some (.val v)) (hnew : newB o = false)
    (hK' : ∀ a' w', Slots ops (specOf base sp) a0 w0 (listed.setIfInBounds i true) a' w' → K' a' w') : if Region.wanted o (yielded ops a.tmps) = true then Oper.wp P o a w K' Q else E := by
  rw [if_pos hw]
  unfold Oper.wp
  rw [hrun, Oper.upon_value]
  exact hK' _ _ (h.put hdst (specOf_stable base sp) hls ho hd (Upd.refl _ w) (fun s hs => by rw [hsp] at hs; cases hs; rfl) (fun hq => by rw [hnew] at hq; cases hq))
/-- An operation that makes a block, and yields what points to it. -/
theorem Slots.stepBlk (h : Slots ops (specOf base sp) a0 w0 listed a w) (hdst : dstB ops a0.tmps.size = true) (hls : listed.size = ops.size) (hbase : base ≤ w0.heap.size) (ho : ops[i]? = some o) (hw : Region.wanted o (yielded ops a.tmps) = true) (hd : o.dst = some d) (f : Nat → Value) (t : TypeId) (z : Array Value)
    (hrun : (execOp a.eval o).run P w = .ok (.value (f w.heap.size)) (w.alloc (.cells z t))) (hsp : sp[i]? = some (.blk f t z)) (hnew : newB o = false)
    (hK' : ∀ a' w', Slots ops (specOf base sp) a0 w0 (listed.setIfInBounds i true) a' w' → K' a' w') : if Region.wanted o (yielded ops a.tmps) = true then Oper.wp P o a w K' Q else E := by
  rw [if_pos hw]
  unfold Oper.wp
  rw [hrun, Oper.upon_value]
  exact hK' _ _ (h.put hdst (specOf_stable base sp) hls ho hd ((Upd.refl _ w).alloc _) (fun s hs => by rw [hsp] at hs; cases hs; exact ⟨w.heap.size, rfl, Nat.le_trans hbase h.upd.size, Blk.at1 w z t⟩) (fun hq => by rw [hnew] at hq; cases hq))
/-- An operation that reads one value of a block that was there before. -/
theorem Slots.stepRead (h : Slots ops (specOf base sp) a0 w0 listed a w) (hdst : dstB ops a0.tmps.size = true) (hls : listed.size = ops.size) (ho : ops[i]? = some o) (hw : Region.wanted o (yielded ops a.tmps) = true) (hd : o.dst = some d) (v : Value)
    (hrun : Upd (fun _ => False) w0 w → (execOp a.eval o).run P w = .ok (.value v) w) (hsp : sp[i]? = some (.val v)) (hnew : newB o = false)
    (hK' : ∀ a' w', Slots ops (specOf base sp) a0 w0 (listed.setIfInBounds i true) a' w' → K' a' w') : if Region.wanted o (yielded ops a.tmps) = true then Oper.wp P o a w K' Q else E := by
  rw [if_pos hw]
  unfold Oper.wp
  rw [hrun h.upd, Oper.upon_value]
  exact hK' _ _ (h.put hdst (specOf_stable base sp) hls ho hd (Upd.refl _ w) (fun s hs => by rw [hsp] at hs; cases hs; rfl) (fun hq => by rw [hnew] at hq; cases hq))
/-- A guard that has said yes. -/
theorem wanted_of {j : Nat} {oj : Oper} {dj : Nat} {want : Bool} (hg : o.guard = some (j, want)) (hoj : ops[j]? = some oj) (hdj : oj.dst = some dj) (hv : a.tmps[dj]? = some (.bool want)) : Region.wanted o (yielded ops a.tmps) = true := by
  simp [Region.wanted, hg, yielded, hoj, hdj, hv]
theorem wanted_not {j : Nat} {oj : Oper} {dj : Nat} {want b : Bool} (hg : o.guard = some (j, want)) (hoj : ops[j]? = some oj) (hdj : oj.dst = some dj) (hv : a.tmps[dj]? = some (.bool b)) (hb : b = !want) : Region.wanted o (yielded ops a.tmps) = false := by
  subst hb
  cases want <;> simp [Region.wanted, hg, yielded, hoj, hdj, hv]
theorem Slots.stepSkip (h : Slots ops (specOf base sp) a0 w0 listed a w) (hdst : dstB ops a0.tmps.size = true) (hls : listed.size = ops.size) (ho : ops[i]? = some o) (hw : Region.wanted o (yielded ops a.tmps) = false) (hd : o.dst = some d) (hsp : sp[i]? = some (.val undef)) (hnew : newB o = false)
    (hK' : ∀ a' w', Slots ops (specOf base sp) a0 w0 (listed.setIfInBounds i true) a' w' → K' a' w') : if Region.wanted o (yielded ops a.tmps) = true then Oper.wp P o a w K' Q else K' (a.put o.dst undef) w := by
  rw [if_neg (by rw [hw]; simp)]
  exact hK' _ _ (h.put hdst (specOf_stable base sp) hls ho hd (Upd.refl _ w) (fun s hs => by rw [hsp] at hs; cases hs; rfl) (fun hq => by rw [hnew] at hq; cases hq))
theorem wp_region_slots {id : Nat} {a : Act} {w : World} (stop : Array Bool) (sp : List SP) (hm : P.follows .mixedOrders = true) (hsz : stop.size = ops.size) (hok : uptoB ops stop = true)
    (hstep : ∀ i o listed a' w', ops[i]? = some o → listed.size = ops.size → stop.getD i false = true → listed.getD i true = false → (∀ e ∈ o.after, Region.binds .any e = true → listed.getD e.on false = true) → Slots ops (specOf w.heap.size sp) a w.drew listed a' w' →
      ∀ K' : Act → World → Prop, (∀ a'' w'', Slots ops (specOf w.heap.size sp) a w.drew (listed.setIfInBounds i true) a'' w'' → K' a'' w'') → if Region.wanted o (yielded ops a'.tmps) = true then Oper.wp P o a' w' K' Q else K' (a'.put o.dst undef) w')
    (hfin : ∀ fuel a' w', left stop ops.size ≤ fuel → Slots ops (specOf w.heap.size sp) a w.drew stop a' w' → wpAny P .any ops Q fuel stop a' w') : (Code.region id ops true).wp P Q a w :=
  wp_region_upto stop hm hsz hok (Slots ops (specOf w.heap.size sp) a w.drew) (Slots.start _ _ _ _ _) hstep hfin
end
end Go.Proofs.YtdpafemcpbhlfaaDoor.Sc
