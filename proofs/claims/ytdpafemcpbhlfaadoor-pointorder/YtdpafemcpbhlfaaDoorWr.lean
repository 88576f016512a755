/-
  A region that draws its order and lays what it makes into new variables: a store may come up ahead of what the next one needs. For any program.
-/
import Derived.Test.YtdpafemcpbhlfaaDoorSh
namespace Go.Proofs.YtdpafemcpbhlfaaDoor
set_option maxRecDepth 100000
open Go.RowKit

/-- What an operation leaves in its slot: a value; one of which p holds; a pointer to a new block of n cells. -/
inductive SR where
  | val (v : Value)
  | like (p : Value → Prop)
  | new (t : TypeId) (n : Nat)
def SR.holds (base : Nat) : SR → Value → World → Prop
  | .val u, v, _ => v = u
  | .like p, v, _ => p v
  | .new t n, v, w => ∃ (b : Nat) (z : Array Value), v = ptrTo b ∧ base ≤ b ∧ Blk w b t z ∧ z.size = n
theorem SR.stable {base : Nat} : ∀ (s : SR) {v : Value} {w w' : World}, Upd (fun _ => False) w w' → s.holds base v w → s.holds base v w'
  | .val _, _, _, _, _, h => h
  | .like _, _, _, _, _, h => h
  | .new _ _, _, _, _, hu, ⟨b, z, h1, h2, h3, h4⟩ => ⟨b, z, h1, h2, hu.blk h3 (fun h => h), h4⟩
/-- Behind a store into one of the new blocks. -/
theorem SR.stored {base : Nat} : ∀ (s : SR) {v : Value} {w w' : World} {b : Nat} {t : TypeId} {z z' : Array Value}, Blk w b t z → Blk w' b t z' → z'.size = z.size → Upd (· = b) w w' → s.holds base v w → s.holds base v w'
  | .val _, _, _, _, _, _, _, _, _, _, _, _, h => h
  | .like _, _, _, _, _, _, _, _, _, _, _, _, h => h
  | .new _ _, _, _, _, b, _, _, _, hb, hb', hs, hu, ⟨c, y, h1, h2, h3, h4⟩ => by
    by_cases e : c = b
    · subst e
      obtain ⟨e1, e2⟩ := h3.inj hb
      subst e1
      subst e2
      exact ⟨c, _, h1, h2, hb', hs.trans h4⟩
    · exact ⟨c, y, h1, h2, hu.blk h3 e, h4⟩
def specR (base : Nat) (sp : List SR) (i : Nat) (v : Value) (w : World) : Prop := ∀ s, sp[i]? = some s → s.holds base v w
theorem specR_stable (base : Nat) (sp : List SR) (j : Nat) (v : Value) (w w' : World) (hu : Upd (fun _ => False) w w') (h : specR base sp j v w) : specR base sp j v w' := fun s hs => s.stable hu (h s hs)
/-- A store: the slot of its variable, the operation that made that, the block's type, what it holds then. -/
structure St where
  (slot q : Nat) (t : TypeId) (P : Array Value → Prop)
/-- What holds when some have come up. -/
structure SlotsR (ops : Array Oper) (sp : List SR) (ms : List (Option St)) (a0 : Act) (w0 : World) (listed : Array Bool) (a : Act) (w : World) : Prop where
  sl : Slots ops (specR w0.heap.size sp) a0 w0 listed a w
  mem : ∀ (i : Nat) (m : St), ms[i]? = some (some m) → listed.getD i false = true → listed.getD m.q false = true ∧ ∃ b z, a.tmps[m.slot]? = some (ptrTo b) ∧ Blk w b m.t z ∧ m.P z
/-- Each store's variable is made by an operation of its own. -/
def stB (ops : Array Oper) (ms : List (Option (Nat × Nat))) : Bool :=
  (List.range ops.size).all fun i => (match ms[i]? with
    | some (some (p, q)) => (match ops[q]? with | some o => o.dst == some p && newB o | none => false) && (match ops[i]? with | some o => o.dst == none | none => false) &&
        (List.range ops.size).all fun j => i == j || (match ms[j]? with | some (some (_, q')) => q != q' | _ => true)
    | _ => true)
def stIdx (ms : List (Option St)) : List (Option (Nat × Nat)) := ms.map fun m => m.map fun s => (s.slot, s.q)
section
variable {P : Program} {ops : Array Oper} {Q : Exit → Act → World → Prop} {sp : List SR} {ms : List (Option St)} {a0 : Act} {w0 : World} {listed : Array Bool} {a : Act} {w : World} {K' : Act → World → Prop} {E : Prop} {i : Nat} {o : Oper} {d : Nat}
theorem stB_spec (h : stB ops (stIdx ms) = true) {i : Nat} {m : St} (hm : ms[i]? = some (some m)) (hi : i < ops.size) : (∃ oq, ops[m.q]? = some oq ∧ oq.dst = some m.slot ∧ newB oq = true) ∧ (∃ oi, ops[i]? = some oi ∧ oi.dst = none) ∧ ∀ j m', j < ops.size → i ≠ j → ms[j]? = some (some m') → m.q ≠ m'.q := by
  have h1 := List.all_eq_true.1 h i (List.mem_range.2 hi)
  have e : (stIdx ms)[i]? = some (some (m.slot, m.q)) := by simp [stIdx, hm]
  rw [e] at h1
  simp only [Bool.and_eq_true] at h1
  obtain ⟨⟨h2, h3⟩, h4⟩ := h1
  refine ⟨?_, ?_, fun j m' hj hij hm' => ?_⟩
  · cases ho : ops[m.q]? with
    | none => simp [ho] at h2
    | some oq => exact ⟨oq, rfl, by simpa [ho] using h2⟩
  · cases ho : ops[i]? with
    | none => simp [ho] at h3
    | some oi => exact ⟨oi, rfl, by simpa [ho] using h3⟩
  · have h5 := List.all_eq_true.1 h4 j (List.mem_range.2 hj)
    have e' : (stIdx ms)[j]? = some (some (m'.slot, m'.q)) := by simp [stIdx, hm']
    rw [e'] at h5
    simpa [hij] using h5
theorem SlotsR.have (h : SlotsR ops sp ms a0 w0 listed a w) (i : Nat) (o : Oper) (d : Nat) (s : SR) (ho : ops[i]? = some o) (hd : o.dst = some d) (hs : sp[i]? = some s) (hl : listed.getD i false = true) : ∃ v, a.tmps[d]? = some v ∧ s.holds w0.heap.size v w := by
  obtain ⟨v, h1, h2⟩ := h.sl.vals i o d ho hd hl
  exact ⟨v, h1, h2 s hs⟩
theorem SlotsR.old (h : SlotsR ops sp ms a0 w0 listed a w) {t : Nat} (hn : noDstB ops t = true) {v : Value} (hv : a0.tmps[t]? = some v) : a.eval (.tmp t) = v :=
  eval_of ((h.sl.other t (fun i o ho _ => noDstB_spec hn i o ho)).trans hv)
/-- An operation that yields a value, whatever it does to new memory. -/
theorem SlotsR.put (h : SlotsR ops sp ms a0 w0 listed a w) (hst : stB ops (stIdx ms) = true) (hdst : dstB ops a0.tmps.size = true) (hls : listed.size = ops.size) (hun : listed.getD i true = false) (ho : ops[i]? = some o) (hd : o.dst = some d) {v : Value} {w' : World} (hu : Upd (fun _ => False) w w') (hs : specR w0.heap.size sp i v w')
    (hap : newB o = true → ∀ (j : Nat) (oj : Oper) (dj : Nat), j ≠ i → ops[j]? = some oj → newB oj = true → oj.dst = some dj → listed.getD j false = true → a.tmps[dj]? ≠ some v) :
    SlotsR ops sp ms a0 w0 (listed.setIfInBounds i true) (a.put o.dst v) w' := by
  have hi := idx_lt ho
  refine ⟨h.sl.put hdst (specR_stable _ sp) hls ho hd hu hs hap, fun k m hm hl => ?_⟩
  have hk : k < ops.size := by
    by_cases hk : k < ops.size
    · exact hk
    · rw [Array.getD_eq_getD_getElem?, Array.getElem?_eq_none (by simp; omega)] at hl; cases hl
  obtain ⟨⟨oq, hoq, hdq, _⟩, ⟨ok, hok, hdk⟩, _⟩ := stB_spec hst hm hk
  have hki : k ≠ i := fun e => by
    subst e
    rw [ho] at hok
    cases hok
    rw [hd] at hdk
    cases hdk
  rw [getD_set listed i k false (by omega), if_neg (fun e => hki e.symm)] at hl
  obtain ⟨hq, b, z, h1, h2, h3⟩ := h.mem k m hm hl
  have hqi : m.q ≠ i := fun e => by
    rw [e] at hq
    have : listed.getD i true = true := by
      rw [Array.getD_eq_getD_getElem?] at hq ⊢
      cases hx : listed[i]? with
      | none => rfl
      | some b => rw [hx] at hq; exact hq
    rw [this] at hun; cases hun
  refine ⟨by rw [getD_set listed i m.q false (by omega)]; split <;> first | rfl | exact hq, b, z, ?_, hu.blk h2 (fun h => h), h3⟩
  have hne : m.slot ≠ d := by
    rcases (dstB_spec hdst hoq ho hdq hd).1 with e | e
    · exact absurd e hqi
    · exact e
  rw [hd]
  show (a.tmps.setIfInBounds d v)[m.slot]? = _
  rw [Array.getElem?_setIfInBounds_ne (Ne.symm hne)]
  exact h1
theorem SlotsR.call (h : SlotsR ops sp ms a0 w0 listed a w) (hst : stB ops (stIdx ms) = true) (hdst : dstB ops a0.tmps.size = true) (hls : listed.size = ops.size) (hun : listed.getD i true = false) (ho : ops[i]? = some o) (hw : Region.wanted o (yielded ops a.tmps) = true) (hd : o.dst = some d) (f : FuncId) (xs : Array Operand) (ts : Array TypeId)
    (hop : o.op = .call { callee := .value (.func f), args := xs, argTypes := ts }) (vs : Array Value) (hx : xs.map a.eval = vs) (hf : ∀ vs w, (callFunc f vs).run P w = .ok (.enter f vs) w) (s : SR) (hsp : sp[i]? = some s) (hnew : newB o = false)
    (hc : Calls P f vs w fun e w' => ∃ v, e = .returned v ∧ s.holds w0.heap.size v w' ∧ Upd (fun _ => False) w w')
    (hK' : ∀ a' w', SlotsR ops sp ms a0 w0 (listed.setIfInBounds i true) a' w' → K' a' w') : if Region.wanted o (yielded ops a.tmps) = true then Oper.wp P o a w K' Q else E := by
  refine step_call' hw f xs ts hop vs hx (hf vs) (hc.mono ?_)
  rintro e w' ⟨v, rfl, hs, hu⟩
  exact ⟨v, rfl, hK' _ _ (h.put hst hdst hls hun ho hd hu (fun s' hs' => by rw [hsp] at hs'; cases hs'; exact hs) (fun hq => by rw [hnew] at hq; cases hq))⟩
theorem SlotsR.pure (h : SlotsR ops sp ms a0 w0 listed a w) (hst : stB ops (stIdx ms) = true) (hdst : dstB ops a0.tmps.size = true) (hls : listed.size = ops.size) (hun : listed.getD i true = false) (ho : ops[i]? = some o) (hw : Region.wanted o (yielded ops a.tmps) = true) (hd : o.dst = some d) (v : Value)
    (hrun : (execOp a.eval o).run P w = .ok (.value v) w) (s : SR) (hsp : sp[i]? = some s) (hs : s.holds w0.heap.size v w) (hnew : newB o = false)
    (hK' : ∀ a' w', SlotsR ops sp ms a0 w0 (listed.setIfInBounds i true) a' w' → K' a' w') : if Region.wanted o (yielded ops a.tmps) = true then Oper.wp P o a w K' Q else E := by
  rw [if_pos hw]
  unfold Oper.wp
  rw [hrun, Oper.upon_value]
  exact hK' _ _ (h.put hst hdst hls hun ho hd (Upd.refl _ w) (fun s' hs' => by rw [hsp] at hs'; cases hs'; exact hs) (fun hq => by rw [hnew] at hq; cases hq))
theorem SlotsR.new (h : SlotsR ops sp ms a0 w0 listed a w) (hst : stB ops (stIdx ms) = true) (hdst : dstB ops a0.tmps.size = true) (hls : listed.size = ops.size) (hun : listed.getD i true = false) (hnews : ∀ (j : Nat) (oj : Oper), ops[j]? = some oj → newB oj = true → ∃ t n, sp[j]? = some (.new t n))
    (ho : ops[i]? = some o) (hw : Region.wanted o (yielded ops a.tmps) = true) (hd : o.dst = some d) (t : TypeId) (z : Array Value)
    (hrun : (execOp a.eval o).run P w = .ok (.value (ptrTo w.heap.size)) (w.alloc (.cells z t))) (hsp : sp[i]? = some (.new t z.size))
    (hK' : ∀ a' w', SlotsR ops sp ms a0 w0 (listed.setIfInBounds i true) a' w' → K' a' w') : if Region.wanted o (yielded ops a.tmps) = true then Oper.wp P o a w K' Q else E := by
  rw [if_pos hw]
  unfold Oper.wp
  rw [hrun, Oper.upon_value]
  refine hK' _ _ (h.put hst hdst hls hun ho hd ((Upd.refl _ w).alloc _) (fun s hs => ?_) (fun _ j oj dj hji hoj nj hdj hl => ?_))
  · rw [hsp] at hs
    cases hs
    exact ⟨w.heap.size, z, rfl, h.sl.upd.size, Blk.at1 w z t, rfl⟩
  · obtain ⟨tj, pj, hj⟩ := hnews j oj hoj nj
    obtain ⟨v, h1, b, zj, h2, _, h3, _⟩ := h.have j oj dj _ hoj hdj hj hl
    rw [h1, h2]
    intro e
    have hlt := h3.lt
    simp only [ptrTo, Option.some.injEq, Value.pointer.injEq, Addr.mk.injEq] at e
    omega
/-- A store into a new variable. -/
theorem SlotsR.store (h : SlotsR ops sp ms a0 w0 listed a w) (hst : stB ops (stIdx ms) = true) (hls : listed.size = ops.size) (hdep : ∀ e ∈ o.after, Region.binds .any e = true → listed.getD e.on false = true) (ho : ops[i]? = some o) (hgd : o.guard = none) (hd : o.dst = none) (m : St) (hm : ms[i]? = some (some m)) (e : Edge) (he : e ∈ o.after) (heb : Region.binds .any e = true) (heq : e.on = m.q) (n : Nat) (hq : sp[m.q]? = some (.new m.t n))
    (ty : TypeId) (y : Operand) (hop : o.op = .store ty (.tmp m.slot) y) (vs : Array Value) (hy : a.eval y = .agg vs) (hi : (P.info? ty).map (·.size) = some n) (hv : vs.size = n) (h1 : ∀ v ∈ vs.toList, v.oneCell' = true) (hP : m.P vs)
    (hK' : ∀ a' w', SlotsR ops sp ms a0 w0 (listed.setIfInBounds i true) a' w' → K' a' w') : if Region.wanted o (yielded ops a.tmps) = true then Oper.wp P o a w K' Q else E := by
  have hil := idx_lt ho
  obtain ⟨⟨oq, hoq, hdq, hnq⟩, _, hap⟩ := stB_spec hst hm hil
  have hql : listed.getD m.q false = true := heq ▸ hdep e he heb
  obtain ⟨v, hv1, b, z, hv2, hb0, hb1, hz⟩ := h.have m.q oq m.slot _ hoq hdq hq hql
  subst hv2
  refine step_storeBlk2 hgd ty _ _ hop b 0 n (eval_of hv1) vs hy m.t z hb1 hi hv (by omega) h1 ?_
  intro w' hB hU _
  rw [splice_all _ _ n hz hv] at hB
  rw [hd]
  refine hK' _ _ ⟨⟨h.sl.upd.step hU (fun k hk e => by omega), h.sl.defers, h.sl.size, fun t ht => h.sl.other t (fun j oj hoj hl => ht j oj hoj ?_), fun j oj dj hoj hdj hl => ?_, fun j k oj ok dj dk hjk hoj hok nj nk hdj hdk lj lk => ?_⟩, fun k m' hm' hl => ?_⟩
  · rw [getD_set listed i j false (by omega)]; split <;> first | rfl | exact hl
  · have hji : j ≠ i := fun e => by
      subst e
      rw [ho] at hoj
      cases hoj
      rw [hd] at hdj
      cases hdj
    rw [getD_set listed i j false (by omega), if_neg (fun e => hji e.symm)] at hl
    obtain ⟨u, hu1, hu2⟩ := h.sl.vals j oj dj hoj hdj hl
    exact ⟨u, hu1, fun s hs => s.stored hb1 hB (by rw [hv, hz]) hU (hu2 s hs)⟩
  · have hji : j ≠ i := fun e => by
      subst e
      rw [ho] at hoj
      cases hoj
      rw [hd] at hdj
      cases hdj
    have hki : k ≠ i := fun e => by
      subst e
      rw [ho] at hok
      cases hok
      rw [hd] at hdk
      cases hdk
    rw [getD_set listed i j false (by omega), if_neg (fun e => hji e.symm)] at lj
    rw [getD_set listed i k false (by omega), if_neg (fun e => hki e.symm)] at lk
    exact h.sl.apart j k oj ok dj dk hjk hoj hok nj nk hdj hdk lj lk
  · by_cases hki : k = i
    · subst hki
      rw [hm] at hm'
      cases hm'
      exact ⟨by rw [getD_set listed k m.q false (by omega)]; split <;> first | rfl | exact hql, b, vs, hv1, hB, hP⟩
    · rw [getD_set listed i k false (by omega), if_neg (fun e => hki e.symm)] at hl
      obtain ⟨hq', c, y', c1, c2, c3⟩ := h.mem k m' hm' hl
      have hk : k < ops.size := by
        by_cases hk : k < ops.size
        · exact hk
        · rw [Array.getD_eq_getD_getElem?, Array.getElem?_eq_none (by omega)] at hl; cases hl
      obtain ⟨⟨oq', hoq', hdq', hnq'⟩, _, _⟩ := stB_spec hst hm' hk
      have hqq := hap k m' hk (fun e => hki e.symm) hm'
      have hne := h.sl.apart m.q m'.q oq oq' m.slot m'.slot hqq hoq hoq' hnq hnq' hdq hdq' hql hq'
      have hcb : c ≠ b := fun e => hne (by rw [hv1, c1, e])
      exact ⟨by rw [getD_set listed i m'.q false (by omega)]; split <;> first | rfl | exact hq', c, y', c1, hU.blk c2 hcb, c3⟩
theorem wp_region_r {id : Nat} {a : Act} {w : World} (stop : Array Bool) (sp : List SR) (ms : List (Option St)) (hm : P.follows .mixedOrders = true) (hsz : stop.size = ops.size) (hok : uptoB ops stop = true)
    (hstep : ∀ i o listed a' w', ops[i]? = some o → listed.size = ops.size → stop.getD i false = true → listed.getD i true = false → (∀ e ∈ o.after, Region.binds .any e = true → listed.getD e.on false = true) → SlotsR ops sp ms a w.drew listed a' w' →
      ∀ K' : Act → World → Prop, (∀ a'' w'', SlotsR ops sp ms a w.drew (listed.setIfInBounds i true) a'' w'' → K' a'' w'') → if Region.wanted o (yielded ops a'.tmps) = true then Oper.wp P o a' w' K' Q else K' (a'.put o.dst undef) w')
    (hfin : ∀ fuel a' w', left stop ops.size ≤ fuel → SlotsR ops sp ms a w.drew stop a' w' → wpAny P .any ops Q fuel stop a' w') : (Code.region id ops true).wp P Q a w :=
  wp_region_upto stop hm hsz hok (SlotsR ops sp ms a w.drew) ⟨Slots.start _ _ _ _ _, fun i m _ hl => by
    have : (Array.replicate ops.size false).getD i false = false := by by_cases h : i < ops.size <;> simp [Array.getD, h]
    rw [this] at hl; cases hl⟩ hstep hfin
def AllNewR (sp : List SR) : List Nat → Prop
  | [] => True
  | k :: l => (∃ t n, sp[k]? = some (.new t n)) ∧ AllNewR sp l
theorem newsR_spec {l : List Nat} (h : newIdx ops = l) (g : AllNewR sp l) (j : Nat) (oj : Oper) (hj : ops[j]? = some oj) (hn : newB oj = true) : ∃ t n, sp[j]? = some (.new t n) := by
  have hm : j ∈ l := by
    rw [← h]
    unfold newIdx
    rw [List.mem_filter]
    exact ⟨List.mem_range.2 (idx_lt hj), by rw [hj]; exact hn⟩
  clear h
  induction l with
  | nil => cases hm
  | cons k l ih =>
    rcases List.mem_cons.1 hm with h | h
    · subst h; exact g.1
    · exact ih g.2 h
end
theorem ret_valR {v : Value} {w w' : World} {base : Nat} {e : Ending} (h : e = .returned v ∧ Upd (fun _ => False) w w') : ∃ u, e = .returned u ∧ (SR.val v).holds base u w' ∧ Upd (fun _ => False) w w' := ⟨v, h.1, rfl, h.2⟩
theorem run_pickT {P : Program} {o : Oper} {a : Act} {c x y : Operand} {v : Value} (ho : o.op = .pick c x y) (hc : a.eval c = .bool true) (h : a.eval x = v) (w : World) : (execOp a.eval o).run P w = .ok (.value v) w := run_pickQ ho hc h w
theorem run_pickF {P : Program} {o : Oper} {a : Act} {c x y : Operand} {v : Value} (ho : o.op = .pick c x y) (hc : a.eval c = .bool false) (h : a.eval y = v) (w : World) : (execOp a.eval o).run P w = .ok (.value v) w := run_pickQ ho hc h w
theorem ptr_inj {b c : Nat} (h : some (ptrTo b) = some (ptrTo c)) : c = b := by
  simp only [ptrTo, Option.some.injEq, Value.pointer.injEq, Addr.mk.injEq] at h
  exact h.1.symm
theorem RetC.sr {α : Type} {c : Nat} {R : α → Array Value → Prop} {vs : List α} {w w' : World} {base : Nat} {e : Ending} (h : RetC c R vs w e w') : ∃ v, e = .returned v ∧ (SR.like (IsC c R vs)).holds base v w' ∧ Upd (fun _ => False) w w' := by
  obtain ⟨arr, rfl, h1, hu⟩ := h
  exact ⟨_, rfl, ⟨arr, rfl, h1⟩, hu⟩
end Go.Proofs.YtdpafemcpbhlfaaDoor
