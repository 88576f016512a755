/-
  Regions, whether they draw their order or not, walked by what each operation leaves in its slot. For any program.
-/
import Derived.Test.YthnpbodkcdbckaaDoorSp
namespace Go.Proofs.YthnpbodkcdbckaaDoor
set_option maxRecDepth 100000
open Go.RowKit

/-- What an operation leaves in its slot: a value; one of which p holds; what points to a new block of which p holds. -/
inductive SQ where
  | val (v : Value)
  | like (p : Value → Prop)
  | blk (f : Nat → Value) (t : TypeId) (p : Array Value → Prop)
def SQ.holds (base : Nat) : SQ → Value → World → Prop
  | .val u, v, _ => v = u
  | .like p, v, _ => p v
  | .blk f t p, v, w => ∃ (b : Nat) (z : Array Value), v = f b ∧ base ≤ b ∧ Blk w b t z ∧ p z
theorem SQ.stable {base : Nat} : ∀ (s : SQ) {v : Value} {w w' : World}, Upd (fun _ => False) w w' → s.holds base v w → s.holds base v w'
  | .val _, _, _, _, _, h => h
  | .like _, _, _, _, _, h => h
  | .blk _ _ _, _, _, _, hu, ⟨b, z, h1, h2, h3, h4⟩ => ⟨b, z, h1, h2, hu.blk h3 (fun h => h), h4⟩
def specQ (base : Nat) (sp : List SQ) (i : Nat) (v : Value) (w : World) : Prop := ∀ s, sp[i]? = some s → s.holds base v w
theorem specQ_stable (base : Nat) (sp : List SQ) (j : Nat) (v : Value) (w w' : World) (hu : Upd (fun _ => False) w w') (h : specQ base sp j v w) : specQ base sp j v w' := fun s hs => s.stable hu (h s hs)
def ptrTo (b : Nat) : Value := .pointer (some ⟨b, 0, none⟩)
/-- Each that makes a block is said to do so. -/
def newsQ (ops : Array Oper) (sp : List (Option TypeId)) : Bool := (List.range ops.size).all fun i => match ops[i]? with
  | some o => !newB o || (match sp[i]? with | some (some _) => true | _ => false)
  | none => true
/-- In the order of the text each is ready in its turn. -/
def extB (ops : Array Oper) : List Nat → Array Bool → Bool
  | [], listed => (Region.ready .any ops listed).isEmpty
  | i :: l, listed => (Region.ready .any ops listed).contains i && extB ops l (listed.setIfInBounds i true)
section
variable {P : Program} {ops : Array Oper} {Q : Exit → Act → World → Prop} {sp : List SQ} {a0 : Act} {w0 : World} {listed : Array Bool} {a : Act} {w : World} {base : Nat} {K' : Act → World → Prop} {E : Prop} {i : Nat} {o : Oper} {d : Nat}
theorem wpAny_ext : ∀ (l : List Nat) (fuel : Nat) (listed : Array Bool) (a : Act) (w : World), wpAny P .any ops Q fuel listed a w → extB ops l listed = true → wpOps P ops Q l a w := by
  intro l
  induction l with
  | nil =>
    intro fuel listed a w h hx
    have hr : Region.ready .any ops listed = [] := List.isEmpty_iff.1 hx
    cases fuel with
    | zero => simpa [wpOps] using h.2
    | succ f => simpa [wpOps] using h.1 hr
  | cons i l ih =>
    intro fuel listed a w h hx
    simp only [extB, Bool.and_eq_true] at hx
    obtain ⟨h1, h2⟩ := hx
    have hmem : i ∈ Region.ready .any ops listed := by simpa using h1
    cases fuel with
    | zero => rw [h.1] at hmem; cases hmem
    | succ f =>
      rw [wpOps_cons]
      exact wpOp_mono (fun a w hk => ih f _ a w hk h2) (h.2 i hmem)
theorem Slots.oldQ (h : Slots ops (specQ base sp) a0 w0 listed a w) {t : Nat} (hn : noDstB ops t = true) {v : Value} (hv : a0.tmps[t]? = some v) : a.eval (.tmp t) = v :=
  eval_of ((h.other t (fun i o ho _ => noDstB_spec hn i o ho)).trans hv)
theorem Slots.haveQ (h : Slots ops (specQ base sp) a0 w0 listed a w) (i : Nat) (o : Oper) (d : Nat) (s : SQ) (ho : ops[i]? = some o) (hd : o.dst = some d) (hs : sp[i]? = some s) (hl : listed.getD i false = true) : ∃ v, a.tmps[d]? = some v ∧ s.holds base v w := by
  obtain ⟨v, h1, h2⟩ := h.vals i o d ho hd hl
  exact ⟨v, h1, h2 s hs⟩
/-- A call. -/
theorem Slots.callQ (h : Slots ops (specQ base sp) a0 w0 listed a w) (hdst : dstB ops a0.tmps.size = true) (hls : listed.size = ops.size) (ho : ops[i]? = some o) (hw : Region.wanted o (yielded ops a.tmps) = true) (hd : o.dst = some d) (f : FuncId) (xs : Array Operand) (ts : Array TypeId)
    (hop : o.op = .call { callee := .value (.func f), args := xs, argTypes := ts }) (vs : Array Value) (hx : xs.map a.eval = vs) (hf : ∀ vs w, (callFunc f vs).run P w = .ok (.enter f vs) w) (s : SQ) (hsp : sp[i]? = some s) (hnew : newB o = false)
    (hc : Calls P f vs w fun e w' => ∃ v, e = .returned v ∧ s.holds base v w' ∧ Upd (fun _ => False) w w')
    (hK' : ∀ a' w', Slots ops (specQ base sp) a0 w0 (listed.setIfInBounds i true) a' w' → K' a' w') : if Region.wanted o (yielded ops a.tmps) = true then Oper.wp P o a w K' Q else E := by
  refine step_call' hw f xs ts hop vs hx (hf vs) (hc.mono ?_)
  rintro e w' ⟨v, rfl, hs, hu⟩
  exact ⟨v, rfl, hK' _ _ (h.put hdst (specQ_stable base sp) hls ho hd hu (fun s' hs' => by rw [hsp] at hs'; cases hs'; exact hs) (fun hq => by rw [hnew] at hq; cases hq))⟩
/-- An operation that yields one value, and leaves the world as it is. -/
theorem Slots.pureQ (h : Slots ops (specQ base sp) a0 w0 listed a w) (hdst : dstB ops a0.tmps.size = true) (hls : listed.size = ops.size) (ho : ops[i]? = some o) (hw : Region.wanted o (yielded ops a.tmps) = true) (hd : o.dst = some d) (v : Value)
    (hrun : (execOp a.eval o).run P w = .ok (.value v) w) (s : SQ) (hsp : sp[i]? = some s) (hs : s.holds base v w) (hnew : newB o = false)
    (hK' : ∀ a' w', Slots ops (specQ base sp) a0 w0 (listed.setIfInBounds i true) a' w' → K' a' w') : if Region.wanted o (yielded ops a.tmps) = true then Oper.wp P o a w K' Q else E := by
  rw [if_pos hw]
  unfold Oper.wp
  rw [hrun, Oper.upon_value]
  exact hK' _ _ (h.put hdst (specQ_stable base sp) hls ho hd (Upd.refl _ w) (fun s' hs' => by rw [hsp] at hs'; cases hs'; exact hs) (fun hq => by rw [hnew] at hq; cases hq))
/-- An operation that makes a block, and yields what points to it; no other slot of such a one is looked at. -/
theorem Slots.rowQ (h : Slots ops (specQ base sp) a0 w0 listed a w) (hdst : dstB ops a0.tmps.size = true) (hls : listed.size = ops.size) (hbase : base ≤ w0.heap.size) (ho : ops[i]? = some o) (hw : Region.wanted o (yielded ops a.tmps) = true) (hd : o.dst = some d) (f : Nat → Value) (t : TypeId) (z : Array Value) (p : Array Value → Prop)
    (hrun : (execOp a.eval o).run P w = .ok (.value (f w.heap.size)) (w.alloc (.cells z t))) (hsp : sp[i]? = some (.blk f t p)) (hp : p z) (hnew : newB o = false)
    (hK' : ∀ a' w', Slots ops (specQ base sp) a0 w0 (listed.setIfInBounds i true) a' w' → K' a' w') : if Region.wanted o (yielded ops a.tmps) = true then Oper.wp P o a w K' Q else E := by
  rw [if_pos hw]
  unfold Oper.wp
  rw [hrun, Oper.upon_value]
  exact hK' _ _ (h.put hdst (specQ_stable base sp) hls ho hd ((Upd.refl _ w).alloc _) (fun s hs => by rw [hsp] at hs; cases hs; exact ⟨w.heap.size, z, rfl, Nat.le_trans hbase h.upd.size, Blk.at1 w z t, hp⟩) (fun hq => by rw [hnew] at hq; cases hq))
/-- A new block, apart from all others that are new. -/
theorem Slots.newQ (h : Slots ops (specQ base sp) a0 w0 listed a w) (hdst : dstB ops a0.tmps.size = true) (hls : listed.size = ops.size) (hbase : base ≤ w0.heap.size) (hnews : ∀ (j : Nat) (oj : Oper), ops[j]? = some oj → newB oj = true → ∃ t p, sp[j]? = some (.blk ptrTo t p))
    (ho : ops[i]? = some o) (hw : Region.wanted o (yielded ops a.tmps) = true) (hd : o.dst = some d) (t : TypeId) (z : Array Value) (p : Array Value → Prop)
    (hrun : (execOp a.eval o).run P w = .ok (.value (ptrTo w.heap.size)) (w.alloc (.cells z t))) (hsp : sp[i]? = some (.blk ptrTo t p)) (hp : p z)
    (hK' : ∀ a' w', Slots ops (specQ base sp) a0 w0 (listed.setIfInBounds i true) a' w' → K' a' w') : if Region.wanted o (yielded ops a.tmps) = true then Oper.wp P o a w K' Q else E := by
  rw [if_pos hw]
  unfold Oper.wp
  rw [hrun, Oper.upon_value]
  refine hK' _ _ (h.put hdst (specQ_stable base sp) hls ho hd ((Upd.refl _ w).alloc _) (fun s hs => ?_) (fun _ j oj dj hji hoj nj hdj hl => ?_))
  · rw [hsp] at hs
    cases hs
    exact ⟨w.heap.size, z, rfl, Nat.le_trans hbase h.upd.size, Blk.at1 w z t, hp⟩
  · obtain ⟨tj, pj, hj⟩ := hnews j oj hoj nj
    obtain ⟨v, h1, b, zj, h2, _, h3, _⟩ := h.haveQ j oj dj _ hoj hdj hj hl
    rw [h1, h2]
    intro e
    have hlt := h3.lt
    simp only [ptrTo, Option.some.injEq, Value.pointer.injEq, Addr.mk.injEq] at e
    omega
/-- An operation whose guard says no. -/
theorem Slots.skipQ (h : Slots ops (specQ base sp) a0 w0 listed a w) (hdst : dstB ops a0.tmps.size = true) (hls : listed.size = ops.size) (ho : ops[i]? = some o) (hw : Region.wanted o (yielded ops a.tmps) = false) (hd : o.dst = some d) (hsp : sp[i]? = some (.val undef)) (hnew : newB o = false)
    (hK' : ∀ a' w', Slots ops (specQ base sp) a0 w0 (listed.setIfInBounds i true) a' w' → K' a' w') : if Region.wanted o (yielded ops a.tmps) = true then Oper.wp P o a w K' Q else K' (a.put o.dst undef) w := by
  rw [if_neg (by rw [hw]; simp)]
  exact hK' _ _ (h.put hdst (specQ_stable base sp) hls ho hd (Upd.refl _ w) (fun s hs => by rw [hsp] at hs; cases hs; rfl) (fun hq => by rw [hnew] at hq; cases hq))
theorem wanted_notQ {j : Nat} {oj : Oper} {dj : Nat} {want b : Bool} (hg : o.guard = some (j, want)) (hoj : ops[j]? = some oj) (hdj : oj.dst = some dj) (hv : a.tmps[dj]? = some (.bool b)) (hb : b = !want) : Region.wanted o (yielded ops a.tmps) = false := by
  subst hb
  cases want <;> simp [Region.wanted, hg, yielded, hoj, hdj, hv]
theorem wanted_undef {j : Nat} {oj : Oper} {dj : Nat} {want : Bool} (hg : o.guard = some (j, want)) (hoj : ops[j]? = some oj) (hdj : oj.dst = some dj) (hv : a.tmps[dj]? = some undef) : Region.wanted o (yielded ops a.tmps) = false := by
  cases want <;> simp [Region.wanted, hg, yielded, hoj, hdj, hv, undef]
theorem wp_region_q {id : Nat} {a : Act} {w : World} (stop : Array Bool) (sp : List SQ) (hm : P.follows .mixedOrders = true) (hsz : stop.size = ops.size) (hok : uptoB ops stop = true)
    (hstep : ∀ i o listed a' w', ops[i]? = some o → listed.size = ops.size → stop.getD i false = true → listed.getD i true = false → (∀ e ∈ o.after, Region.binds .any e = true → listed.getD e.on false = true) → Slots ops (specQ w.heap.size sp) a w.drew listed a' w' →
      ∀ K' : Act → World → Prop, (∀ a'' w'', Slots ops (specQ w.heap.size sp) a w.drew (listed.setIfInBounds i true) a'' w'' → K' a'' w'') → if Region.wanted o (yielded ops a'.tmps) = true then Oper.wp P o a' w' K' Q else K' (a'.put o.dst undef) w')
    (hfin : ∀ fuel a' w', left stop ops.size ≤ fuel → Slots ops (specQ w.heap.size sp) a w.drew stop a' w' → wpAny P .any ops Q fuel stop a' w') : (Code.region id ops true).wp P Q a w :=
  wp_region_upto stop hm hsz hok (Slots ops (specQ w.heap.size sp) a w.drew) (Slots.start _ _ _ _ _) hstep hfin
theorem wp_region_qF {id : Nat} {a : Act} {w : World} (stop : Array Bool) (sp : List SQ) (hx : extB ops (List.range ops.size) (Array.replicate ops.size false) = true) (hsz : stop.size = ops.size) (hok : uptoB ops stop = true)
    (hstep : ∀ i o listed a' w', ops[i]? = some o → listed.size = ops.size → stop.getD i false = true → listed.getD i true = false → (∀ e ∈ o.after, Region.binds .any e = true → listed.getD e.on false = true) → Slots ops (specQ w.heap.size sp) a w listed a' w' →
      ∀ K' : Act → World → Prop, (∀ a'' w'', Slots ops (specQ w.heap.size sp) a w (listed.setIfInBounds i true) a'' w'' → K' a'' w'') → if Region.wanted o (yielded ops a'.tmps) = true then Oper.wp P o a' w' K' Q else K' (a'.put o.dst undef) w')
    (hfin : ∀ fuel a' w', left stop ops.size ≤ fuel → Slots ops (specQ w.heap.size sp) a w stop a' w' → wpAny P .any ops Q fuel stop a' w') : (Code.region id ops false).wp P Q a w := by
  refine wp_region (wpAny_ext _ ops.size (Array.replicate ops.size false) a w (wpAny_upto stop hsz hok (Slots ops (specQ w.heap.size sp) a w) hstep hfin ops.size _ _ _ (by simp) ?_ ?_ ?_ (Slots.start _ _ _ _ _)) hx)
  · intro j hj
    have : (Array.replicate ops.size false).getD j false = false := by by_cases h : j < ops.size <;> simp [Array.getD, h]
    rw [this] at hj; cases hj
  · intro k o _ hk
    have : (Array.replicate ops.size false).getD k false = false := by by_cases h : k < ops.size <;> simp [Array.getD, h]
    rw [this] at hk; cases hk
  · have : ∀ n l, left l n ≤ n := by
      intro n l
      induction n with
      | zero => simp [left]
      | succ n ih => simp only [left]; split <;> omega
    exact this _ _
/-- What single operations do. -/
theorem run_boxQ {T : TypeId} {x : Operand} {arr : Array Value} (ho : o.op = .box T x) (hx : a.eval x = .agg arr) (w : World) : (execOp a.eval o).run P w = .ok (.value (ptrTo w.heap.size)) (w.alloc (.cells arr T)) := by
  generalize a.eval = ev at *; unfold execOp; simp only [ho]; simp [hx, go_sem, Instr.box, ptrTo]
theorem run_box1 {T : TypeId} {x : Operand} {v : Value} (ho : o.op = .box T x) (hx : a.eval x = v) (hv : v.cells = #[v]) (w : World) : (execOp a.eval o).run P w = .ok (.value (ptrTo w.heap.size)) (w.alloc (.cells #[v] T)) := by
  unfold Value.cells at hv
  generalize a.eval = ev at *; unfold execOp; simp only [ho]; simp [hx, go_sem, Instr.box, ptrTo, hv]
theorem run_allocQ {T : TypeId} {z : Array Value} (ho : o.op = .alloc T) (hz : ∀ w, (zeroValue T).run P w = .ok (.agg z) w) (w : World) : (execOp a.eval o).run P w = .ok (.value (ptrTo w.heap.size)) (w.alloc (.cells z T)) := by
  generalize a.eval = ev at *; unfold execOp; simp only [ho]; simp [hz, go_sem, ptrTo]
theorem run_alloc1 {T : TypeId} {z : Value} (ho : o.op = .alloc T) (hz : ∀ w, (zeroValue T).run P w = .ok z w) (hv : z.cells = #[z]) (w : World) : (execOp a.eval o).run P w = .ok (.value (ptrTo w.heap.size)) (w.alloc (.cells #[z] T)) := by
  unfold Value.cells at hv
  generalize a.eval = ev at *; unfold execOp; simp only [ho]; simp [hz, go_sem, ptrTo, hv]
theorem run_fieldQ {T : TypeId} {x : Operand} {f g off k : Nat} {fs : Array Field} {fd : Field} (ho : o.op = .fieldAddr T x f) (hx : a.eval x = .pointer (some ⟨g, off, none⟩)) (hT : P.underlying T = some (.struct fs)) (hf : fs[f]? = some fd) (hk : fd.offset = k)
    {n : Nat} (hn : (P.info? fd.type).map (·.size) = some (n + 1)) (w : World) :
    (execOp a.eval o).run P w = .ok (.value (.pointer (some ⟨g, off + k, none⟩))) w := by
  have hsz : ∀ w, (sizeOf fd.type).run P w = .ok (n + 1) w := fun w => by
    cases hq : P.info? fd.type with
    | none => simp [hq] at hn
    | some i => have : i.size = n + 1 := by simpa [hq] using hn
                simp [sizeOf, typeInfo, hq, this]
  subst hk
  generalize a.eval = ev at *; unfold execOp; simp only [ho]; simp [hx, go_sem, run_underlying hT, hf, hsz]
theorem run_loadQ {T : TypeId} {x : Operand} {g off n : Nat} {t : TypeId} {cs : Array Value} {dd : TypeDesc} (ho : o.op = .load T x) (hx : a.eval x = .pointer (some ⟨g, off, none⟩)) (w : World) (hg : Blk w g t cs)
    (hu : P.underlying T = some dd) (hd : (match dd with | .struct _ | .array _ _ => true | _ => false) = true) (hi : (P.info? T).map (·.size) = some n) (hn : off + n ≤ cs.size) :
    (execOp a.eval o).run P w = .ok (.value (.agg (cs.extract off (off + n)))) w := by
  generalize a.eval = ev at *; unfold execOp; simp only [ho]
  simp only [hx, Instr.loadAt, Instr.sureAddr, Sem.run_bind, Sem.run_pure, Result.andThen_ok, run_loadVar_blk w g off n t T cs dd hg hu hd hi hn]
theorem run_cellQ {T : TypeId} {x : Operand} {k : IntKind} {g i : Nat} {t : TypeId} {cs : Array Value} {v : Value} (ho : o.op = .load T x) (hT : P.underlying T = some (.int k)) (hx : a.eval x = .pointer (some ⟨g, i, none⟩)) (w : World) (hg : Blk w g t cs) (hv : cs[i]? = some v) :
    (execOp a.eval o).run P w = .ok (.value v) w := by
  have hc : w.cell? ⟨g, i, none⟩ = some v := by rw [hg.cell, hv]
  have hagg : (isAgg T).run P w = .ok false w := by
    unfold isAgg
    rw [Sem.run_bind, run_underlying hT w]
    simp
  generalize a.eval = ev at *; unfold execOp; simp only [ho]; simp [hx, go_sem, hagg, hc]
theorem run_moveQ {x : Operand} {v : Value} (ho : o.op = .move x ∨ o.op = .assign x) (hx : a.eval x = v) (w : World) : (execOp a.eval o).run P w = .ok (.value v) w := by
  generalize a.eval = ev at *; unfold execOp; rcases ho with ho | ho <;> simp only [ho] <;> simp [hx]
theorem run_extractQ {x : Operand} {vs : Array Value} {k : Nat} {v : Value} (ho : o.op = .extract x k) (hx : a.eval x = .tuple vs) (hv : vs[k]? = some v) (w : World) : (execOp a.eval o).run P w = .ok (.value v) w := by
  generalize a.eval = ev at *; unfold execOp; simp only [ho]; simp [hx, go_sem, Instr.extract, hv]
end
end Go.Proofs.YthnpbodkcdbckaaDoor
