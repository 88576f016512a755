/-
  A region that draws its order, by an invariant: what holds of whatever set of its operations has come up. For any program.
-/
/-
  A region that draws its order: what its operations leave in their slots. For any program.
-/
/-
  Walks of Add and Product.
-/
/-
  The walk of Product; lists of Elems made for a call.
-/
/-
  A region that draws its order and assigns several structs at once: loads, calls, new blocks.
-/
/-
  Lists of Elems made for a call, at an act that is not written out.
-/
import Derived.Test.YtdpafemcpbhlfaaDoorLeaf
import Derived.RegionTactic
import Derived.Test.YtdpafemcpbhlfaaDoorMul
namespace Go.Proofs.YtdpafemcpbhlfaaDoor
set_option maxRecDepth 100000
open Go.RowKit

section
variable {P : Program} {ops : Array Oper} {Q : Exit → Act → World → Prop}

theorem mem_ready {listed : Array Bool} {i : Nat} (h : i ∈ Region.ready .any ops listed) :
    ∃ o, ops[i]? = some o ∧ listed.getD i true = false ∧ ∀ e ∈ o.after, Region.binds .any e = true → listed.getD e.on false = true := by
  unfold Region.ready at h
  rw [List.mem_filter, Bool.and_eq_true] at h
  obtain ⟨h1, h2, h3⟩ := h
  have hi : i < ops.size := List.mem_range.1 h1
  rw [Array.getElem?_eq_getElem hi] at h3
  simp only [Option.map_some, Option.getD_some, Array.all_eq_true_iff_forall_mem] at h3
  refine ⟨ops[i], Array.getElem?_eq_getElem hi, by simpa using h2, fun e he hb => ?_⟩
  have := h3 e he
  simpa [hb] using this
theorem ready_mem {listed : Array Bool} {i : Nat} {o : Oper} (ho : ops[i]? = some o) (hl : listed.getD i true = false) (hd : ∀ e ∈ o.after, Region.binds .any e = true → listed.getD e.on false = true) :
    i ∈ Region.ready .any ops listed := by
  have hi : i < ops.size := by
    by_cases h : i < ops.size
    · exact h
    · rw [Array.getElem?_eq_none (by omega)] at ho; cases ho
  unfold Region.ready
  rw [List.mem_filter, Bool.and_eq_true]
  refine ⟨List.mem_range.2 hi, by simp [hl], ?_⟩
  rw [ho]
  simp only [Option.map_some, Option.getD_some, Array.all_eq_true_iff_forall_mem]
  intro e he
  by_cases hb : Region.binds .any e = true
  · simp [hd e he hb]
  · simp [hb]
/-- How many of the first n have not come up. -/
def left (listed : Array Bool) : Nat → Nat
  | 0 => 0
  | n + 1 => left listed n + (if listed.getD n true = false then 1 else 0)
theorem getD_set (listed : Array Bool) (i j : Nat) (d : Bool) (hi : i < listed.size) : (listed.setIfInBounds i true).getD j d = if i = j then true else listed.getD j d := by
  rw [Array.getD_eq_getD_getElem?, Array.getD_eq_getD_getElem?, Array.getElem?_setIfInBounds]
  by_cases h : i = j
  · subst h; simp [hi]
  · simp [h]
theorem left_set (listed : Array Bool) (i : Nat) (hi : i < listed.size) (hl : listed.getD i true = false) : ∀ n, left (listed.setIfInBounds i true) n + (if i < n then 1 else 0) = left listed n
  | 0 => by simp [left]
  | n + 1 => by
    have ih := left_set listed i hi hl n
    simp only [left, getD_set listed i n true hi]
    by_cases h : i = n
    · subst h
      simp only [if_true, hl, Nat.lt_irrefl, if_false, Nat.lt_succ_self] at ih ⊢
      simp at ih ⊢
      omega
    · rw [if_neg h]
      by_cases h2 : i < n
      · rw [if_pos h2] at ih; rw [if_pos (show i < n + 1 by omega)]; omega
      · rw [if_neg h2] at ih; rw [if_neg (show ¬ i < n + 1 by omega)]; omega
theorem left_pos (listed : Array Bool) (i : Nat) (hl : listed.getD i true = false) : ∀ n, i < n → 0 < left listed n
  | 0, h => by omega
  | n + 1, h => by
    simp only [left]
    by_cases e : i = n
    · subst e; rw [if_pos hl]; omega
    · have := left_pos listed i hl n (by omega)
      omega
theorem exists_min {p : Nat → Prop} {j : Nat} (h : p j) : ∃ k, p k ∧ ∀ m, m < k → ¬ p m := by
  induction j using Nat.strongRecOn with
  | _ j ih =>
    by_cases hq : ∃ m, m < j ∧ p m
    · obtain ⟨m, hm, hp⟩ := hq
      exact ih m hm hp
    · exact ⟨j, h, fun m hm hp => hq ⟨m, hm, hp⟩⟩
/-- Does i hang on j, through so many others? -/
def reachB (ops : Array Oper) (j : Nat) : Nat → Nat → Bool
  | 0, _ => false
  | fuel + 1, i => match ops[i]? with
    | none => false
    | some o => (o.after.any fun e => Region.binds .any e && e.on == j) || (o.after.any fun e => Region.binds .any e && (decide (j < e.on) && reachB ops j fuel e.on))
theorem reach_listed {listed : Array Bool} {j : Nat} (hcl : ∀ (k : Nat) (o : Oper), ops[k]? = some o → listed.getD k false = true → ∀ e ∈ o.after, Region.binds .any e = true → listed.getD e.on false = true) :
    ∀ (fuel i : Nat), (∀ (o : Oper), ops[i]? = some o → ∀ e ∈ o.after, Region.binds .any e = true → listed.getD e.on false = true) → reachB ops j fuel i = true → listed.getD j false = true
  | 0, _, _, h => by simp [reachB] at h
  | fuel + 1, i, hd, h => by
    unfold reachB at h
    cases ho : ops[i]? with
    | none => simp [ho] at h
    | some o =>
      simp only [ho, Bool.or_eq_true, Array.any_eq_true'] at h
      rcases h with ⟨e, he, h2⟩ | ⟨e, he, h2⟩
      · rw [Bool.and_eq_true] at h2
        have hl := hd o ho e he h2.1
        rw [← (by simpa using h2.2 : e.on = j)]; exact hl
      · rw [Bool.and_eq_true, Bool.and_eq_true] at h2
        have hl := hd o ho e he h2.1
        exact reach_listed hcl fuel e.on (fun o' ho' e' he' hb' => hcl e.on o' ho' hl e' he' hb') h2.2.2
/-- Those of stop hang on elder ones of stop alone; each other one hangs on all of stop. -/
def uptoB (ops : Array Oper) (stop : Array Bool) : Bool :=
  (List.range ops.size).all fun i => match ops[i]? with
    | none => true
    | some o => if stop.getD i false = true then o.after.all (fun e => !Region.binds .any e || (decide (e.on < i) && stop.getD e.on false))
        else (List.range ops.size).all (fun j => !stop.getD j false || reachB ops j ops.size i)
theorem uptoB_in {stop : Array Bool} (h : uptoB ops stop = true) {i : Nat} {o : Oper} (ho : ops[i]? = some o) (hs : stop.getD i false = true) (e : Edge) (he : e ∈ o.after) (hb : Region.binds .any e = true) : e.on < i ∧ stop.getD e.on false = true := by
  have hi : i < ops.size := by
    by_cases h : i < ops.size
    · exact h
    · rw [Array.getElem?_eq_none (by omega)] at ho; cases ho
  have := List.all_eq_true.1 h i (List.mem_range.2 hi)
  rw [ho] at this
  simp only [hs, if_true, Array.all_eq_true_iff_forall_mem] at this
  simpa [hb] using this e he
theorem uptoB_out {stop : Array Bool} (h : uptoB ops stop = true) {i j : Nat} {o : Oper} (ho : ops[i]? = some o) (hs : stop.getD i false = false) (hj : stop.getD j false = true) (hjs : j < ops.size) : reachB ops j ops.size i = true := by
  have hi : i < ops.size := by
    by_cases h : i < ops.size
    · exact h
    · rw [Array.getElem?_eq_none (by omega)] at ho; cases ho
  have := List.all_eq_true.1 h i (List.mem_range.2 hi)
  rw [ho] at this
  simp only [hs, Bool.false_eq_true, if_false] at this
  have := List.all_eq_true.1 this j (List.mem_range.2 hjs)
  simpa [hj] using this
theorem wpAny_upto (stop : Array Bool) (hsz : stop.size = ops.size) (hok : uptoB ops stop = true) (I : Array Bool → Act → World → Prop)
    (hstep : ∀ i o listed a w, ops[i]? = some o → listed.size = ops.size → stop.getD i false = true → listed.getD i true = false → (∀ e ∈ o.after, Region.binds .any e = true → listed.getD e.on false = true) → I listed a w →
      ∀ K' : Act → World → Prop, (∀ a' w', I (listed.setIfInBounds i true) a' w' → K' a' w') → if Region.wanted o (yielded ops a.tmps) = true then Oper.wp P o a w K' Q else K' (a.put o.dst undef) w)
    (hfin : ∀ fuel a w, left stop ops.size ≤ fuel → I stop a w → wpAny P .any ops Q fuel stop a w) :
    ∀ fuel listed a w, listed.size = ops.size → (∀ j, listed.getD j false = true → stop.getD j false = true) → (∀ (k : Nat) (o : Oper), ops[k]? = some o → listed.getD k false = true → ∀ e ∈ o.after, Region.binds .any e = true → listed.getD e.on false = true) → left listed ops.size ≤ fuel → I listed a w → wpAny P .any ops Q fuel listed a w := by
  intro fuel
  induction fuel with
  | zero =>
    intro listed a w hs hsub hcl hleft hI
    have hall : ∀ j, j < ops.size → listed.getD j true = true := fun j hj => by
      cases hq : listed.getD j true with
      | true => rfl
      | false => have := left_pos listed j hq ops.size hj; omega
    have : listed = stop := by
      apply Array.ext (by omega)
      intro j h1 h2
      have g1 := hall j (by omega)
      have e1 : listed[j] = true := by simpa [Array.getD, h1] using g1
      have g2 := hsub j (by simpa [Array.getD, h1] using e1)
      have e2 : stop[j] = true := by simpa [Array.getD, h2] using g2
      rw [e1, e2]
    subst this
    exact hfin 0 a w hleft hI
  | succ fuel ih =>
    intro listed a w hs hsub hcl hleft hI
    by_cases hall : ∀ j, j < ops.size → stop.getD j false = true → listed.getD j false = true
    · have : listed = stop := by
        apply Array.ext (by omega)
        intro j h1 h2
        cases hq : stop[j] with
        | true =>
          have := hall j (by omega) (by simpa [Array.getD, h2] using hq)
          simpa [Array.getD, h1] using this
        | false =>
          cases hq2 : listed[j] with
          | false => rfl
          | true =>
            have := hsub j (by simpa [Array.getD, h1] using hq2)
            have : stop[j] = true := by simpa [Array.getD, h2] using this
            rw [hq] at this; cases this
      subst this
      exact hfin _ a w hleft hI
    · have hex : ∃ j, j < ops.size ∧ stop.getD j false = true ∧ listed.getD j false = false := by
        by_cases hc : ∃ j, j < ops.size ∧ stop.getD j false = true ∧ listed.getD j false = false
        · exact hc
        · exact absurd (fun j hj hst => by
            cases hq : listed.getD j false with
            | true => rfl
            | false => exact absurd ⟨j, hj, hst, hq⟩ hc) hall
      obtain ⟨j0, hj0⟩ := hex
      obtain ⟨j, ⟨hj, hst, hun⟩, hmin⟩ := exists_min (p := fun j => j < ops.size ∧ stop.getD j false = true ∧ listed.getD j false = false) hj0
      have hunT : ∀ k, k < ops.size → listed.getD k false = false → listed.getD k true = false := fun k hk h => by
        have hk' : k < listed.size := by omega
        simpa [Array.getD, hk'] using h
      have hoj : ops[j]? = some ops[j] := Array.getElem?_eq_getElem hj
      have hready : j ∈ Region.ready .any ops listed := ready_mem hoj (hunT j hj hun) (fun e he hb => by
        obtain ⟨h1, h2⟩ := uptoB_in hok hoj hst e he hb
        cases hq : listed.getD e.on false with
        | true => rfl
        | false => exact absurd ⟨by omega, h2, hq⟩ (hmin e.on h1))
      refine ⟨(fun h0 => by rw [h0] at hready; cases hready), fun i hi => ?_⟩
      obtain ⟨o, ho, hu, hd⟩ := mem_ready hi
      have hsi : i < ops.size := by
        by_cases h : i < ops.size
        · exact h
        · rw [Array.getElem?_eq_none (by omega)] at ho; cases ho
      have hstop : stop.getD i false = true := by
        cases hq : stop.getD i false with
        | true => rfl
        | false =>
          have := reach_listed hcl ops.size i (fun o' ho' e he hb => by
            obtain rfl : o' = o := Option.some.inj (ho'.symm.trans ho)
            exact hd e he hb) (uptoB_out hok ho hq hst hj)
          rw [hun] at this; cases this
      refine wpOp_step ho (fun K' hK' => hstep i o listed a w ho hs hstop hu hd hI K' (fun a' w' hI' => hK' a' w' (ih _ a' w' (by simpa using hs) ?_ ?_ ?_ hI')))
      · intro k hk
        rw [getD_set listed i k false (by omega)] at hk
        by_cases e : i = k
        · subst e; exact hstop
        · rw [if_neg e] at hk; exact hsub k hk
      · intro k ok hok hk e he hb
        rw [getD_set listed i e.on false (by omega)]
        by_cases e1 : i = e.on
        · rw [if_pos e1]
        · rw [if_neg e1]
          rw [getD_set listed i k false (by omega)] at hk
          by_cases e2 : i = k
          · subst e2
            obtain rfl : ok = o := Option.some.inj (hok.symm.trans ho)
            exact hd e he hb
          · rw [if_neg e2] at hk; exact hcl k ok hok hk e he hb
      · have := left_set listed i (by omega) hu ops.size
        rw [if_pos hsi] at this
        omega
/-- The beginning: a region that draws its order, up to those of stop. -/
theorem wp_region_upto {id : Nat} {a : Act} {w : World} (stop : Array Bool) (hm : P.follows .mixedOrders = true) (hsz : stop.size = ops.size) (hok : uptoB ops stop = true) (I : Array Bool → Act → World → Prop)
    (h0 : I (Array.replicate ops.size false) a w.drew)
    (hstep : ∀ i o listed a w, ops[i]? = some o → listed.size = ops.size → stop.getD i false = true → listed.getD i true = false → (∀ e ∈ o.after, Region.binds .any e = true → listed.getD e.on false = true) → I listed a w →
      ∀ K' : Act → World → Prop, (∀ a' w', I (listed.setIfInBounds i true) a' w' → K' a' w') → if Region.wanted o (yielded ops a.tmps) = true then Oper.wp P o a w K' Q else K' (a.put o.dst undef) w)
    (hfin : ∀ fuel a w, left stop ops.size ≤ fuel → I stop a w → wpAny P .any ops Q fuel stop a w) : (Code.region id ops true).wp P Q a w := by
  refine wp_region_any hm (wpAny_upto stop hsz hok I hstep hfin ops.size _ _ _ (by simp) ?_ ?_ ?_ h0)
  · intro j hj
    have : (Array.replicate ops.size false).getD j false = false := by by_cases h : j < ops.size <;> simp [Array.getD, h]
    rw [this] at hj; cases hj
  · intro k o _ hk
    have : (Array.replicate ops.size false).getD k false = false := by by_cases h : k < ops.size <;> simp [Array.getD, h]
    rw [this] at hk; cases hk
  · have : ∀ n l, left l n ≤ n := by
      intro n
      induction n with
      | zero => intro l; simp [left]
      | succ n ih => intro l; have := ih l; simp only [left]; split <;> omega
    exact this _ _
end
end Go.Proofs.YtdpafemcpbhlfaaDoor
namespace Go.Proofs.YtdpafemcpbhlfaaDoor
set_option maxRecDepth 100000
open Go.RowKit

/-- Does it make a block? -/
def newB (o : Oper) : Bool := match o.op with
  | .alloc _ => true
  | .box _ _ => true
  | _ => false
/-- No two write one slot; all slots are there. -/
def dstB (ops : Array Oper) (n : Nat) : Bool :=
  (List.range ops.size).all fun i => (List.range ops.size).all fun j => match ops[i]?, ops[j]? with
    | some oi, some oj => match oi.dst, oj.dst with
      | some d, some e => (i == j || d != e) && decide (d < n)
      | _, _ => true
    | _, _ => true
theorem idx_lt {ops : Array Oper} {i : Nat} {o : Oper} (h : ops[i]? = some o) : i < ops.size := by
  by_cases hi : i < ops.size
  · exact hi
  · rw [Array.getElem?_eq_none (by omega)] at h; cases h
theorem dstB_spec {ops : Array Oper} {n : Nat} (h : dstB ops n = true) {i j : Nat} {oi oj : Oper} {d e : Nat} (hi : ops[i]? = some oi) (hj : ops[j]? = some oj) (hd : oi.dst = some d) (he : oj.dst = some e) : (i = j ∨ d ≠ e) ∧ d < n := by
  have := List.all_eq_true.1 (List.all_eq_true.1 h i (List.mem_range.2 (idx_lt hi))) j (List.mem_range.2 (idx_lt hj))
  simp only [hi, hj, hd, he, Bool.and_eq_true, Bool.or_eq_true, beq_iff_eq, bne_iff_ne, decide_eq_true_eq] at this
  exact this
structure Slots (ops : Array Oper) (spec : Nat → Value → World → Prop) (a0 : Act) (w0 : World) (listed : Array Bool) (a : Act) (w : World) : Prop where
  upd : Upd (fun _ => False) w0 w
  defers : a.defers = a0.defers
  size : a.tmps.size = a0.tmps.size
  other : ∀ (t : Nat), (∀ (i : Nat) (o : Oper), ops[i]? = some o → listed.getD i false = true → o.dst ≠ some t) → a.tmps[t]? = a0.tmps[t]?
  vals : ∀ (i : Nat) (o : Oper) (d : Nat), ops[i]? = some o → o.dst = some d → listed.getD i false = true → ∃ v, a.tmps[d]? = some v ∧ spec i v w
  apart : ∀ (i j : Nat) (oi oj : Oper) (di dj : Nat), i ≠ j → ops[i]? = some oi → ops[j]? = some oj → newB oi = true → newB oj = true → oi.dst = some di → oj.dst = some dj → listed.getD i false = true → listed.getD j false = true → a.tmps[di]? ≠ a.tmps[dj]?
theorem Slots.start (ops : Array Oper) (spec : Nat → Value → World → Prop) (a0 : Act) (w0 : World) (n : Nat) : Slots ops spec a0 w0 (Array.replicate n false) a0 w0 := by
  have hr : ∀ i, (Array.replicate n false).getD i false = false := fun i => by
    by_cases hi : i < n <;> simp [Array.getD, hi]
  exact ⟨Upd.refl _ _, rfl, rfl, fun _ _ => rfl, (fun i o d _ _ hl => by rw [hr] at hl; cases hl), (fun i j oi oj di dj _ _ _ _ _ _ _ hl _ => by rw [hr] at hl; cases hl)⟩
theorem Slots.put {ops : Array Oper} {spec : Nat → Value → World → Prop} {a0 : Act} {w0 : World} {listed : Array Bool} {a : Act} {w : World} (h : Slots ops spec a0 w0 listed a w) (hdst : dstB ops a0.tmps.size = true)
    (stable : ∀ j v w w', Upd (fun _ => False) w w' → spec j v w → spec j v w') (hls : listed.size = ops.size) {i : Nat} {o : Oper} {d : Nat} (ho : ops[i]? = some o) (hd : o.dst = some d) {v : Value} {w' : World} (hu : Upd (fun _ => False) w w') (hs : spec i v w')
    (hap : newB o = true → ∀ (j : Nat) (oj : Oper) (dj : Nat), j ≠ i → ops[j]? = some oj → newB oj = true → oj.dst = some dj → listed.getD j false = true → a.tmps[dj]? ≠ some v) :
    Slots ops spec a0 w0 (listed.setIfInBounds i true) (a.put o.dst v) w' := by
  have hi := idx_lt ho
  have hdn : d < a.tmps.size := by rw [h.size]; exact (dstB_spec hdst ho ho hd hd).2
  have hput : (a.put o.dst v) = { a with tmps := a.tmps.setIfInBounds d v } := by rw [hd]; rfl
  rw [hput]
  have hget : ∀ t, t ≠ d → (a.tmps.setIfInBounds d v)[t]? = a.tmps[t]? := fun t ht => Array.getElem?_setIfInBounds_ne (by omega)
  have hself : (a.tmps.setIfInBounds d v)[d]? = some v := by simp [hdn]
  have hle : ∀ j, j ≠ i → (listed.setIfInBounds i true).getD j false = true → listed.getD j false = true := fun j hj hl => by
    rw [getD_set listed i j false (by omega), if_neg (by omega)] at hl; exact hl
  have hne : ∀ (j : Nat) (oj : Oper) (dj : Nat), j ≠ i → ops[j]? = some oj → oj.dst = some dj → dj ≠ d := fun j oj dj hj hoj hdj e => by
    rcases (dstB_spec hdst hoj ho hdj hd).1 with h1 | h1
    · exact hj h1
    · exact h1 e
  refine ⟨h.upd.trans hu, h.defers, by simpa using h.size, fun t ht => ?_, fun j oj dj hoj hdj hl => ?_, fun j k oj ok dj dk hjk hoj hok nj nk hdj hdk lj lk => ?_⟩
  · show (a.tmps.setIfInBounds d v)[t]? = _
    have hls2 : i < listed.size := by rw [hls]; exact hi
    rw [hget t (fun e => ht i o ho (by rw [getD_set listed i i false hls2, if_pos rfl]) (by rw [hd, e]))]
    exact h.other t (fun j oj hoj hl => ht j oj hoj (by rw [getD_set listed i j false hls2]; split <;> first | rfl | exact hl))
  · by_cases e : j = i
    · subst e
      obtain rfl : oj = o := Option.some.inj (hoj.symm.trans ho)
      obtain rfl : dj = d := Option.some.inj (hdj.symm.trans hd)
      exact ⟨v, hself, hs⟩
    · obtain ⟨u, hu1, hu2⟩ := h.vals j oj dj hoj hdj (hle j e hl)
      exact ⟨u, by rw [← hu1]; exact hget dj (hne j oj dj e hoj hdj), stable _ _ _ _ hu hu2⟩
  · show (a.tmps.setIfInBounds d v)[dj]? ≠ (a.tmps.setIfInBounds d v)[dk]?
    by_cases e : j = i
    · subst e
      obtain rfl : oj = o := Option.some.inj (hoj.symm.trans ho)
      obtain rfl : dj = d := Option.some.inj (hdj.symm.trans hd)
      rw [hself, hget dk (hne k ok dk (fun e => hjk e.symm) hok hdk)]
      exact fun e => hap nj k ok dk (fun e => hjk e.symm) hok nk hdk (hle k (fun e => hjk e.symm) lk) e.symm
    · by_cases e2 : k = i
      · subst e2
        obtain rfl : ok = o := Option.some.inj (hok.symm.trans ho)
        obtain rfl : dk = d := Option.some.inj (hdk.symm.trans hd)
        rw [hself, hget dj (hne j oj dj e hoj hdj)]
        exact hap nk j oj dj e hoj nj hdj (hle j e lj)
      · rw [hget dj (hne j oj dj e hoj hdj), hget dk (hne k ok dk e2 hok hdk)]
        exact h.apart j k oj ok dj dk hjk hoj hok nj nk hdj hdk (hle j e lj) (hle k e2 lk)
/-- The slots, written out. -/
theorem Slots.act {ops : Array Oper} {spec : Nat → Value → World → Prop} {a0 : Act} {w0 : World} {listed : Array Bool} {a : Act} {w : World} (h : Slots ops spec a0 w0 listed a w) (vs : List (Nat × Value))
    (hv : ∀ p ∈ vs, a.tmps[p.1]? = some p.2) (hall : (List.range ops.size).all (fun i => match ops[i]? with | some o => (match o.dst with | some d => !listed.getD i false || (vs.map Prod.fst).contains d | none => true) | none => true) = true) :
    a = ⟨vs.foldl (fun A p => A.setIfInBounds p.1 p.2) a0.tmps, a0.defers⟩ := by
  have key : ∀ (vs : List (Nat × Value)) (A : Array Value), A.size = a.tmps.size → (∀ p ∈ vs, a.tmps[p.1]? = some p.2) → (∀ t, t ∉ vs.map Prod.fst → A[t]? = a.tmps[t]?) → vs.foldl (fun A p => A.setIfInBounds p.1 p.2) A = a.tmps := by
    intro vs
    induction vs with
    | nil =>
      intro A _ _ ho
      exact Array.ext_getElem? (fun t => ho t (by simp))
    | cons p vs ih =>
      intro A hs hv ho
      rw [List.foldl_cons]
      refine ih _ (by simpa using hs) (fun q hq => hv q (by simp [hq])) (fun t ht => ?_)
      by_cases e : p.1 = t
      · subst e
        have hp := hv p (by simp)
        have hlt : p.1 < A.size := by
          by_cases hq : p.1 < A.size
          · exact hq
          · rw [Array.getElem?_eq_none (by omega)] at hp; cases hp
        rw [hp]
        simp [hlt]
      · rw [Array.getElem?_setIfInBounds_ne e]
        exact ho t (by simp only [List.map_cons, List.mem_cons, not_or]; exact ⟨fun h => e h.symm, ht⟩)
  have := key vs a0.tmps h.size.symm hv (fun t ht => (h.other t (fun i o ho hl hd => by
    have := List.all_eq_true.1 hall i (List.mem_range.2 (idx_lt ho))
    simp only [ho, hd, hl, Bool.not_true, Bool.false_or] at this
    exact ht (by simpa using this))).symm)
  rw [this, ← h.defers]
theorem eval_of {a : Act} {t : Nat} {v : Value} (h : a.tmps[t]? = some v) : a.eval (.tmp t) = v := by
  simp [Act.eval, Array.getD_eq_getD_getElem?, h]

section
variable {P : Program}
theorem step_call {ops : Array Oper} {o : Oper} {a : Act} {w : World} {K : Act → World → Prop} {Q : Exit → Act → World → Prop} {E : Prop} (hgd : o.guard = none) (f : FuncId) (xs : Array Operand) (ts : Array TypeId)
    (ho : o.op = .call { callee := .value (.func f), args := xs, argTypes := ts }) (vs : Array Value) (hx : xs.map a.eval = vs) (hf : ∀ w, (callFunc f vs).run P w = .ok (.enter f vs) w)
    (h : Calls P f vs w fun e w' => ∃ v, e = .returned v ∧ K (a.put o.dst v) w') : if Region.wanted o (yielded ops a.tmps) = true then Oper.wp P o a w K Q else E := by
  have hw : Region.wanted o (yielded ops a.tmps) = true := by simp [Region.wanted, hgd]
  rw [if_pos hw]
  unfold Oper.wp
  have hrun : (execOp a.eval o).run P w = .ok (.enter f vs) w := by
    simp [execOp, ho, resolve, invoke, Act.eval, hx, Deferred.ofValue, hf]
  rw [hrun, Oper.upon_enter]
  refine h.mono ?_
  rintro e w' ⟨v, rfl, hk⟩
  exact hk
theorem step_alloc {ops : Array Oper} {o : Oper} {a : Act} {w : World} {K : Act → World → Prop} {Q : Exit → Act → World → Prop} {E : Prop} (hgd : o.guard = none) (t : TypeId) (ho : o.op = .alloc t) (z : Array Value) (hz : ∀ w, (zeroValue t).run P w = .ok (.agg z) w)
    (h : K (a.put o.dst (.pointer (some ⟨w.heap.size, 0, none⟩))) (w.alloc (.cells z t))) : if Region.wanted o (yielded ops a.tmps) = true then Oper.wp P o a w K Q else E := by
  have hw : Region.wanted o (yielded ops a.tmps) = true := by simp [Region.wanted, hgd]
  rw [if_pos hw]
  unfold Oper.wp
  have hrun : (execOp a.eval o).run P w = .ok (.value (.pointer (some ⟨w.heap.size, 0, none⟩))) (w.alloc (.cells z t)) := by
    simp [execOp, ho, hz, go_sem]
  rw [hrun, Oper.upon_value]
  exact h
theorem step_call' {ops : Array Oper} {o : Oper} {a : Act} {w : World} {K : Act → World → Prop} {Q : Exit → Act → World → Prop} {E : Prop} (hw : Region.wanted o (yielded ops a.tmps) = true) (f : FuncId) (xs : Array Operand) (ts : Array TypeId)
    (ho : o.op = .call { callee := .value (.func f), args := xs, argTypes := ts }) (vs : Array Value) (hx : xs.map a.eval = vs) (hf : ∀ w, (callFunc f vs).run P w = .ok (.enter f vs) w)
    (h : Calls P f vs w fun e w' => ∃ v, e = .returned v ∧ K (a.put o.dst v) w') : if Region.wanted o (yielded ops a.tmps) = true then Oper.wp P o a w K Q else E := by
  rw [if_pos hw]
  unfold Oper.wp
  have hrun : (execOp a.eval o).run P w = .ok (.enter f vs) w := by
    simp [execOp, ho, resolve, invoke, Act.eval, hx, Deferred.ofValue, hf]
  rw [hrun, Oper.upon_enter]
  refine h.mono ?_
  rintro e w' ⟨v, rfl, hk⟩
  exact hk
theorem step_alloc' {ops : Array Oper} {o : Oper} {a : Act} {w : World} {K : Act → World → Prop} {Q : Exit → Act → World → Prop} {E : Prop} (hw : Region.wanted o (yielded ops a.tmps) = true) (t : TypeId) (ho : o.op = .alloc t) (z : Array Value) (hz : ∀ w, (zeroValue t).run P w = .ok (.agg z) w)
    (h : K (a.put o.dst (.pointer (some ⟨w.heap.size, 0, none⟩))) (w.alloc (.cells z t))) : if Region.wanted o (yielded ops a.tmps) = true then Oper.wp P o a w K Q else E := by
  rw [if_pos hw]
  unfold Oper.wp
  have hrun : (execOp a.eval o).run P w = .ok (.value (.pointer (some ⟨w.heap.size, 0, none⟩))) (w.alloc (.cells z t)) := by
    simp [execOp, ho, hz, go_sem]
  rw [hrun, Oper.upon_value]
  exact h
theorem step_loadBlk' {ops : Array Oper} {o : Oper} {a : Act} {w : World} {K : Act → World → Prop} {Q : Exit → Act → World → Prop} {E : Prop} (hw : Region.wanted o (yielded ops a.tmps) = true) (ty : TypeId) (x : Operand) (ho : o.op = .load ty x)
    (g off n : Nat) (hx : a.eval x = .pointer (some ⟨g, off, none⟩)) (t : TypeId) (cs : Array Value) (d : TypeDesc) (hg : Blk w g t cs)
    (hu : P.underlying ty = some d) (hd : (match d with | .struct _ | .array _ _ => true | _ => false) = true) (hi : (P.info? ty).map (·.size) = some n) (hn : off + n ≤ cs.size)
    (h : K (a.put o.dst (.agg (cs.extract off (off + n)))) w) : if Region.wanted o (yielded ops a.tmps) = true then Oper.wp P o a w K Q else E := by
  rw [if_pos hw]
  unfold Oper.wp execOp
  simp only [ho, hx, Instr.loadAt, Instr.sureAddr, Sem.run_bind, Sem.run_pure, Result.andThen_ok, run_loadVar_blk w g off n t ty cs d hg hu hd hi hn]
  exact h
end
end Go.Proofs.YtdpafemcpbhlfaaDoor
namespace Go.Proofs.YtdpafemcpbhlfaaDoor
set_option maxRecDepth 100000
open Go.RowKit

/-- Five parts. -/
structure El where
  (p0 p1 p2 p3 p4 : Int)
def El.Fits (x : El) (n : Int) : Prop := _root_.Go.Proofs.YtdpafemcpbhlfaaDoor.Fits x.p0 x.p1 x.p2 x.p3 x.p4 n
/-- Elems one behind the other in memory, alike the numbers ns. -/
structure ElsAt (w : World) (v : Value) (l : List El) (ns : List Int) : Prop where
  len : ns.length = l.length
  fits : ∀ (i : Nat) (x : El), l[i]? = some x → x.Fits (ns.getD i 0)
  slice : ∃ sp cap, v = .slice sp l.length cap ∧ l.length ≤ cap ∧ cap ≤ 1000000 ∧ (0 < l.length → ∃ b, sp = some ⟨b, 0, none⟩ ∧ ∀ (i : Nat) (x : El), l[i]? = some x →
    w.cell? ⟨b, i * 5, none⟩ = some (.int .u64 x.p0) ∧ w.cell? ⟨b, i * 5 + 1, none⟩ = some (.int .u64 x.p1) ∧ w.cell? ⟨b, i * 5 + 2, none⟩ = some (.int .u64 x.p2) ∧ w.cell? ⟨b, i * 5 + 3, none⟩ = some (.int .u64 x.p3) ∧ w.cell? ⟨b, i * 5 + 4, none⟩ = some (.int .u64 x.p4))
/-- The sum of the first k. -/
def sumTo (ns : List Int) : Nat → Int
  | 0 => 0
  | k + 1 => sumTo ns k + ns.getD k 0
def prodTo (ns : List Int) : Nat → Int
  | 0 => 1
  | k + 1 => prodTo ns k * ns.getD k 0
theorem add_math {x0 x1 x2 x3 x4 y0 y1 y2 y3 y4 m n : Int} (hx : Fits x0 x1 x2 x3 x4 m) (hy : Fits y0 y1 y2 y3 y4 n) : Cong (val5 (x0 + y0) (x1 + y1) (x2 + y2) (x3 + y3) (x4 + y4)) (m + n) := by
  refine Cong.trans ⟨0, ?_⟩ (Cong.add hx.cong hy.cong)
  unfold val5 pp
  omega
theorem fits_zero' : Fits 0 0 0 0 0 0 := ⟨by omega, by omega, by omega, by omega, by omega, by omega, by omega, by omega, by omega, by omega, ⟨0, by decide⟩⟩
/-- What holds at the head of Add's loop. -/
def AddRel (w wr : World) (ns : List Int) (k : Nat) : Prop :=
  ∃ s0 s1 s2 s3 s4 : Int, Fits s0 s1 s2 s3 s4 (sumTo ns k) ∧ Upd (fun _ => False) w wr ∧ Blk wr w.heap.size 39 #[.int .u64 0, .int .u64 0, .int .u64 0, .int .u64 0, .int .u64 0] ∧ Blk wr (w.heap.size + 1) 39 #[.int .u64 s0, .int .u64 s1, .int .u64 s2, .int .u64 s3, .int .u64 s4]

set_option maxHeartbeats 2000000 in
theorem add_any (l : List El) (ns : List Int) (v : Value) (w : World) (h : ElsAt w v l ns) :
    Calls Tryd.prog 45 #[v] w (RetE (sumTo ns ns.length) w) := by
  have H := Lib.hid h
  obtain ⟨hlen, hfits, sp, cap, rfl, hc1, hc2, hx⟩ := h
  rw [hlen]
  have Hx := Lib.hid hx
  have Hf := Lib.hid hfits
  clear hlen hfits hx
  generalize hn : l.length = n at *
  have Hn := Lib.hid hn
  clear hn
  go_enter Tryd.func45, Tryd.ntmps45
  go_wp2
  go_loopw [11] (fun i wr => ∃ k : Nat, k ≤ n ∧ i = .int .i64 k ∧ AddRel w wr ns k) (fun i _ => n - (intOf i).toNat)
  case atStart => exact ⟨0, by omega, rfl, 0, 0, 0, 0, 0, fits_zero', ((Upd.refl _ w).alloc _).alloc _, (Blk.at1 w _ _).alloc _, Blk.at2 w _ _ _⟩
  case round =>
    obtain ⟨k, hk, rfl, s0, s1, s2, s3, s4, hF, hu, hb0, hb1⟩ := hrel
    by_cases hlt : k < n
    · obtain ⟨b, rfl, hcells⟩ := Hx.out (by omega)
      obtain ⟨x, hx⟩ : ∃ x, l[k]? = some x := ⟨_, List.getElem?_eq_getElem (by rw [Hn.out]; exact hlt)⟩
      obtain ⟨g0, g1, g2, g3, g4⟩ := hcells k x hx
      have hxF : Fits x.p0 x.p1 x.p2 x.p3 x.p4 (ns.getD k 0) := Hf.out k x hx
      have g0' := hu.cell g0 (fun h => h)
      have g1' := hu.cell g1 (fun h => h)
      have g2' := hu.cell g2 (fun h => h)
      have g3' := hu.cell g3 (fun h => h)
      have g4' := hu.cell g4 (fun h => h)
      have q0 : wr.cell? ⟨w.heap.size + 1, 0, none⟩ = some (.int .u64 s0) := hb1.cell 0
      have q1 : wr.cell? ⟨w.heap.size + 1, 1, none⟩ = some (.int .u64 s1) := hb1.cell 1
      have q2 : wr.cell? ⟨w.heap.size + 1, 2, none⟩ = some (.int .u64 s2) := hb1.cell 2
      have q3 : wr.cell? ⟨w.heap.size + 1, 3, none⟩ = some (.int .u64 s3) := hb1.cell 3
      have q4 : wr.cell? ⟨w.heap.size + 1, 4, none⟩ = some (.int .u64 s4) := hb1.cell 4
      have hlt1 := hb1.lt
      clear g0 g1 g2 g3 g4 hcells
      obtain ⟨y0, y1, y2, y3, y4⟩ := x
      have HM := Lib.hid (add_math hF hxF)
      obtain ⟨i0, i1, i2, i3, i4⟩ := idx5a (.int .u64 y0) (.int .u64 y1) (.int .u64 y2) (.int .u64 y3) (.int .u64 y4)
      obtain ⟨a0, c0, a1, c1, a2, c2, a3, c3, a4, c4, -⟩ := hF
      obtain ⟨b0, d0, b1, d1, b2, d2, b3, d3, b4, d4, -⟩ := hxF
      have Hu := Lib.hid hu
      have Hb0 := Lib.hid hb0
      have Hb1 := Lib.hid hb1
      clear hx hu hb0 hb1
      go_wp2
      refine wp_loop_rounds 6 ?_
      iterate 5 (rw [rounds_succ]; go_wp2)
      rw [rounds_succ]
      go_wp2_with fail
      refine (carried_any _ _ _ _ _ _ (by omega) (by omega) (by omega) (by omega) (by omega) (by omega) (by omega) (by omega) (by omega) (by omega)).mono ?_
      rintro e w1 ⟨z0, z1, z2, z3, z4, hF, rfl, hu⟩
      have Hb0' := Lib.hid (hu.blk ((Hb0.out.alloc _).alloc _) (fun h => h))
      have Hb1' := Lib.hid (hu.blk ((Hb1.out.alloc _).alloc _) (fun h => h))
      have Hu' := Lib.hid (((Hu.out.alloc _).alloc _).trans hu)
      have HF := Lib.hid (hF.to HM.out)
      have Hone := Lib.hid (one5 z0 z1 z2 z3 z4)
      clear hF hu HM Hu Hb0 Hb1
      go_wp2_with (refine wpList_storeBlk2 rfl 39 _ _ rfl (w.heap.size + 1) 0 5 rfl #[.int .u64 z0, .int .u64 z1, .int .u64 z2, .int .u64 z3, .int .u64 z4] rfl 39 _ Hb1'.out info28 rfl (by simp) Hone.out ?_; intro wz hbz huz hzz; rw [splice_all _ _ 5 rfl rfl] at hbz; have Hbz := Lib.hid hbz; have Huz := Lib.hid huz; clear hbz huz hzz)
      go_roundw
      case rel =>
        exact ⟨k + 1, by omega, by go_num, z0, z1, z2, z3, z4, HF.out, Hu'.out.step Huz.out (fun i hi h => by omega), Huz.out.blk Hb0'.out (by simp), Hbz.out⟩
      case measure => simp [intOf]; omega
    · obtain rfl : k = n := by omega
      have q0 : wr.cell? ⟨w.heap.size + 1, 0, none⟩ = some (.int .u64 s0) := hb1.cell 0
      have q1 : wr.cell? ⟨w.heap.size + 1, 1, none⟩ = some (.int .u64 s1) := hb1.cell 1
      have q2 : wr.cell? ⟨w.heap.size + 1, 2, none⟩ = some (.int .u64 s2) := hb1.cell 2
      have q3 : wr.cell? ⟨w.heap.size + 1, 3, none⟩ = some (.int .u64 s3) := hb1.cell 3
      have q4 : wr.cell? ⟨w.heap.size + 1, 4, none⟩ = some (.int .u64 s4) := hb1.cell 4
      have Hu := Lib.hid hu
      have Hb0 := Lib.hid hb0
      have HF := Lib.hid hF
      have Hone := Lib.hid (one5 s0 s1 s2 s3 s4)
      have hd : decide ((k : Int) < (k : Int)) = false := by simp
      clear hu hb0 hb1 hF
      go_wp2_with (refine wpList_storeBlk2 rfl 39 _ _ rfl w.heap.size 0 5 rfl #[.int .u64 s0, .int .u64 s1, .int .u64 s2, .int .u64 s3, .int .u64 s4] rfl 39 _ Hb0.out info28 rfl (by simp) Hone.out ?_; intro wz hbz huz hzz; rw [splice_all _ _ 5 rfl rfl] at hbz; have Hbz := Lib.hid hbz; have Huz := Lib.hid huz; clear hbz huz hzz)
      exact bodyPost_ret (v := .agg #[.int .u64 s0, .int .u64 s1, .int .u64 s2, .int .u64 s3, .int .u64 s4]) (results_cell_row (fn := Tryd.f45) (p := 2) (ty := 39) rfl _ _ w.heap.size 39 _ (0, 0) _ rfl Hbz.out Tryd.underlying39 rfl info28) rfl ⟨_, _, _, _, _, HF.out, rfl, Hu.out.step Huz.out (fun i hi h => by omega)⟩
end Go.Proofs.YtdpafemcpbhlfaaDoor
namespace Go.Proofs.YtdpafemcpbhlfaaDoor
set_option maxRecDepth 100000
open Go.RowKit

theorem fits_one : Fits 1 0 0 0 0 1 := ⟨by omega, by omega, by omega, by omega, by omega, by omega, by omega, by omega, by omega, by omega, ⟨0, by decide⟩⟩
/-- What holds at the head of Product's loop. -/
def ProdRel (w wr : World) (g : Nat) (ns : List Int) (k : Nat) : Prop :=
  ∃ s0 s1 s2 s3 s4 : Int, Fits s0 s1 s2 s3 s4 (prodTo ns k) ∧ Upd (fun _ => False) w wr ∧ Blk wr w.heap.size 39 #[.int .u64 0, .int .u64 0, .int .u64 0, .int .u64 0, .int .u64 0] ∧ Blk wr g 39 #[.int .u64 s0, .int .u64 s1, .int .u64 s2, .int .u64 s3, .int .u64 s4]

set_option maxHeartbeats 2000000 in
theorem product_any (l : List El) (ns : List Int) (v : Value) (w : World) (h : ElsAt w v l ns) :
    Calls Tryd.prog 101 #[v] w (RetE (prodTo ns ns.length) w) := by
  have H := Lib.hid h
  obtain ⟨hlen, hfits, sp, cap, rfl, hc1, hc2, hx⟩ := h
  rw [hlen]
  have Hx := Lib.hid hx
  have Hf := Lib.hid hfits
  clear hlen hfits hx
  generalize hn : l.length = n at *
  have Hn := Lib.hid hn
  clear hn
  go_enter Tryd.func101, Tryd.ntmps101
  go_wp2_with fail
  refine (small_any 1 _ (by omega) (by omega)).mono ?_
  rintro e w0 ⟨o0, o1, o2, o3, o4, hFo, rfl, hu0⟩
  have Hu0 := Lib.hid (((Upd.refl (fun _ => False) w).alloc _).trans hu0)
  have Hb0 := Lib.hid (hu0.blk (Blk.at1 w _ _) (fun h => h))
  have hz0 : w.heap.size + 1 ≤ w0.heap.size := by simpa using hu0.size
  have HFo := Lib.hid hFo
  clear hu0 hFo
  go_wp2
  go_loopw [9] (fun i wr => ∃ k : Nat, k ≤ n ∧ i = .int .i64 k ∧ ProdRel w wr w0.heap.size ns k) (fun i _ => n - (intOf i).toNat)
  case atStart =>
    exact ⟨0, by omega, rfl, _, _, _, _, _, HFo.out, Hu0.out.alloc _, Hb0.out.alloc _, Blk.at1 w0 _ _⟩
  case round =>
    clear HFo Hb0 Hu0
    obtain ⟨k, hk, rfl, s0, s1, s2, s3, s4, hF, hu, hb0, hb1⟩ := hrel
    have q0 : wr.cell? ⟨w0.heap.size, 0, none⟩ = some (.int .u64 s0) := hb1.cell 0
    have q1 : wr.cell? ⟨w0.heap.size, 1, none⟩ = some (.int .u64 s1) := hb1.cell 1
    have q2 : wr.cell? ⟨w0.heap.size, 2, none⟩ = some (.int .u64 s2) := hb1.cell 2
    have q3 : wr.cell? ⟨w0.heap.size, 3, none⟩ = some (.int .u64 s3) := hb1.cell 3
    have q4 : wr.cell? ⟨w0.heap.size, 4, none⟩ = some (.int .u64 s4) := hb1.cell 4
    have hlt1 := hb1.lt
    by_cases hlt : k < n
    · obtain ⟨b, rfl, hcells⟩ := Hx.out (by omega)
      obtain ⟨x, hx⟩ : ∃ x, l[k]? = some x := ⟨_, List.getElem?_eq_getElem (by rw [Hn.out]; exact hlt)⟩
      obtain ⟨g0, g1, g2, g3, g4⟩ := hcells k x hx
      have hxF : Fits x.p0 x.p1 x.p2 x.p3 x.p4 (ns.getD k 0) := Hf.out k x hx
      have g0' := hu.cell g0 (fun h => h)
      have g1' := hu.cell g1 (fun h => h)
      have g2' := hu.cell g2 (fun h => h)
      have g3' := hu.cell g3 (fun h => h)
      have g4' := hu.cell g4 (fun h => h)
      clear g0 g1 g2 g3 g4 hcells
      obtain ⟨y0, y1, y2, y3, y4⟩ := x
      have HxF := Lib.hid hxF
      have HF := Lib.hid hF
      have Hu := Lib.hid hu
      have Hb0 := Lib.hid hb0
      have Hb1 := Lib.hid hb1
      clear hx hu hb0 hb1 hF hxF
      go_wp2_with fail
      refine (mul_any s0 s1 s2 s3 s4 y0 y1 y2 y3 y4 _ _ _ HF.out HxF.out).mono ?_
      rintro e w1 ⟨z0, z1, z2, z3, z4, hF, rfl, hu⟩
      have Hb0' := Lib.hid (hu.blk (Hb0.out.alloc _) (fun h => h))
      have Hb1' := Lib.hid (hu.blk (Hb1.out.alloc _) (fun h => h))
      have Hu' := Lib.hid ((Hu.out.alloc _).trans hu)
      have HF' := Lib.hid hF
      have Hone := Lib.hid (one5 z0 z1 z2 z3 z4)
      clear hF hu Hu Hb0 Hb1 HF HxF
      go_wp2_with (refine wpList_storeBlk2 rfl 39 _ _ rfl w0.heap.size 0 5 rfl #[.int .u64 z0, .int .u64 z1, .int .u64 z2, .int .u64 z3, .int .u64 z4] rfl 39 _ Hb1'.out info28 rfl (by simp) Hone.out ?_; intro wz hbz huz hzz; rw [splice_all _ _ 5 rfl rfl] at hbz; have Hbz := Lib.hid hbz; have Huz := Lib.hid huz; clear hbz huz hzz)
      go_roundw
      case rel =>
        exact ⟨k + 1, by omega, by go_num, z0, z1, z2, z3, z4, HF'.out, Hu'.out.step Huz.out (fun i hi h => by omega), Huz.out.blk Hb0'.out (by omega), Hbz.out⟩
      case measure => simp [intOf]; omega
    · obtain rfl : k = n := by omega
      have Hu := Lib.hid hu
      have Hb0 := Lib.hid hb0
      have HF := Lib.hid hF
      have Hone := Lib.hid (one5 s0 s1 s2 s3 s4)
      have hd : decide ((k : Int) < (k : Int)) = false := by simp
      clear hu hb0 hb1 hF
      go_wp2_with (refine wpList_storeBlk2 rfl 39 _ _ rfl w.heap.size 0 5 rfl #[.int .u64 s0, .int .u64 s1, .int .u64 s2, .int .u64 s3, .int .u64 s4] rfl 39 _ Hb0.out info28 rfl (by simp) Hone.out ?_; intro wz hbz huz hzz; rw [splice_all _ _ 5 rfl rfl] at hbz; have Hbz := Lib.hid hbz; have Huz := Lib.hid huz; clear hbz huz hzz)
      exact bodyPost_ret (v := .agg #[.int .u64 s0, .int .u64 s1, .int .u64 s2, .int .u64 s3, .int .u64 s4]) (results_cell_row (fn := Tryd.f101) (p := 2) (ty := 39) rfl _ _ w.heap.size 39 _ (0, 0) _ rfl Hbz.out Tryd.underlying39 rfl info28) rfl ⟨_, _, _, _, _, HF.out, rfl, Hu.out.step Huz.out (fun i hi h => by omega)⟩

theorem ElsAt.mk1 (w : World) (x0 x1 x2 x3 x4 mx : Int) (hx : Fits x0 x1 x2 x3 x4 mx) : ElsAt (w.alloc (.cells #[.int .u64 x0, .int .u64 x1, .int .u64 x2, .int .u64 x3, .int .u64 x4] 39)) (.slice (some ⟨w.heap.size, 0, none⟩) 1 1) [⟨x0, x1, x2, x3, x4⟩] [mx] := by
  have hb := Blk.at1 w #[.int .u64 x0, .int .u64 x1, .int .u64 x2, .int .u64 x3, .int .u64 x4] 39
  refine ⟨rfl, fun i x hq => ?_, _, _, rfl, Nat.le_refl _, by simp, fun _ => ⟨_, rfl, fun i x hq => ?_⟩⟩
  · match i, hq with
    | 0, hq => cases hq; exact hx
    | i + 1, hq => cases hq
  · match i, hq with
    | 0, hq => cases hq; exact ⟨hb.cell 0, hb.cell 1, hb.cell 2, hb.cell 3, hb.cell 4⟩
    | i + 1, hq => cases hq

theorem ElsAt.mk2 (w : World) (x0 x1 x2 x3 x4 y0 y1 y2 y3 y4 mx my : Int) (hx : Fits x0 x1 x2 x3 x4 mx) (hy : Fits y0 y1 y2 y3 y4 my) : ElsAt (w.alloc (.cells #[.int .u64 x0, .int .u64 x1, .int .u64 x2, .int .u64 x3, .int .u64 x4, .int .u64 y0, .int .u64 y1, .int .u64 y2, .int .u64 y3, .int .u64 y4] 39)) (.slice (some ⟨w.heap.size, 0, none⟩) 2 2) [⟨x0, x1, x2, x3, x4⟩, ⟨y0, y1, y2, y3, y4⟩] [mx, my] := by
  have hb := Blk.at1 w #[.int .u64 x0, .int .u64 x1, .int .u64 x2, .int .u64 x3, .int .u64 x4, .int .u64 y0, .int .u64 y1, .int .u64 y2, .int .u64 y3, .int .u64 y4] 39
  refine ⟨rfl, fun i x hq => ?_, _, _, rfl, Nat.le_refl _, by simp, fun _ => ⟨_, rfl, fun i x hq => ?_⟩⟩
  · match i, hq with
    | 0, hq => cases hq; exact hx
    | 1, hq => cases hq; exact hy
    | i + 2, hq => cases hq
  · match i, hq with
    | 0, hq => cases hq; exact ⟨hb.cell 0, hb.cell 1, hb.cell 2, hb.cell 3, hb.cell 4⟩
    | 1, hq => cases hq; exact ⟨hb.cell 5, hb.cell 6, hb.cell 7, hb.cell 8, hb.cell 9⟩
    | i + 2, hq => cases hq

theorem ElsAt.mk3 (w : World) (x0 x1 x2 x3 x4 y0 y1 y2 y3 y4 z0 z1 z2 z3 z4 mx my mz : Int) (hx : Fits x0 x1 x2 x3 x4 mx) (hy : Fits y0 y1 y2 y3 y4 my) (hz : Fits z0 z1 z2 z3 z4 mz) : ElsAt (w.alloc (.cells #[.int .u64 x0, .int .u64 x1, .int .u64 x2, .int .u64 x3, .int .u64 x4, .int .u64 y0, .int .u64 y1, .int .u64 y2, .int .u64 y3, .int .u64 y4, .int .u64 z0, .int .u64 z1, .int .u64 z2, .int .u64 z3, .int .u64 z4] 39)) (.slice (some ⟨w.heap.size, 0, none⟩) 3 3) [⟨x0, x1, x2, x3, x4⟩, ⟨y0, y1, y2, y3, y4⟩, ⟨z0, z1, z2, z3, z4⟩] [mx, my, mz] := by
  have hb := Blk.at1 w #[.int .u64 x0, .int .u64 x1, .int .u64 x2, .int .u64 x3, .int .u64 x4, .int .u64 y0, .int .u64 y1, .int .u64 y2, .int .u64 y3, .int .u64 y4, .int .u64 z0, .int .u64 z1, .int .u64 z2, .int .u64 z3, .int .u64 z4] 39
  refine ⟨rfl, fun i x hq => ?_, _, _, rfl, Nat.le_refl _, by simp, fun _ => ⟨_, rfl, fun i x hq => ?_⟩⟩
  · match i, hq with
    | 0, hq => cases hq; exact hx
    | 1, hq => cases hq; exact hy
    | 2, hq => cases hq; exact hz
    | i + 3, hq => cases hq
  · match i, hq with
    | 0, hq => cases hq; exact ⟨hb.cell 0, hb.cell 1, hb.cell 2, hb.cell 3, hb.cell 4⟩
    | 1, hq => cases hq; exact ⟨hb.cell 5, hb.cell 6, hb.cell 7, hb.cell 8, hb.cell 9⟩
    | 2, hq => cases hq; exact ⟨hb.cell 10, hb.cell 11, hb.cell 12, hb.cell 13, hb.cell 14⟩
    | i + 3, hq => cases hq
theorem Blk.drew {w : World} {b : Nat} {t : TypeId} {arr : Array Value} (h : Blk w b t arr) : Blk w.drew b t arr := h
theorem ElsAt.of1 {w : World} {b : Nat} {x0 x1 x2 x3 x4 mx : Int} (hb : Blk w b 39 #[.int .u64 x0, .int .u64 x1, .int .u64 x2, .int .u64 x3, .int .u64 x4]) (hx : Fits x0 x1 x2 x3 x4 mx) : ElsAt w (.slice (some ⟨b, 0, none⟩) 1 1) [⟨x0, x1, x2, x3, x4⟩] [mx] := by
  refine ⟨rfl, fun i x hq => ?_, _, _, rfl, Nat.le_refl _, by simp, fun _ => ⟨_, rfl, fun i x hq => ?_⟩⟩
  · match i, hq with
    | 0, hq => cases hq; exact hx
    | i + 1, hq => cases hq
  · match i, hq with
    | 0, hq => cases hq; exact ⟨hb.cell 0, hb.cell 1, hb.cell 2, hb.cell 3, hb.cell 4⟩
    | i + 1, hq => cases hq
theorem ElsAt.of2 {w : World} {b : Nat} {x0 x1 x2 x3 x4 y0 y1 y2 y3 y4 mx my : Int} (hb : Blk w b 39 #[.int .u64 x0, .int .u64 x1, .int .u64 x2, .int .u64 x3, .int .u64 x4, .int .u64 y0, .int .u64 y1, .int .u64 y2, .int .u64 y3, .int .u64 y4]) (hx : Fits x0 x1 x2 x3 x4 mx) (hy : Fits y0 y1 y2 y3 y4 my) : ElsAt w (.slice (some ⟨b, 0, none⟩) 2 2) [⟨x0, x1, x2, x3, x4⟩, ⟨y0, y1, y2, y3, y4⟩] [mx, my] := by
  refine ⟨rfl, fun i x hq => ?_, _, _, rfl, Nat.le_refl _, by simp, fun _ => ⟨_, rfl, fun i x hq => ?_⟩⟩
  · match i, hq with
    | 0, hq => cases hq; exact hx
    | 1, hq => cases hq; exact hy
    | i + 2, hq => cases hq
  · match i, hq with
    | 0, hq => cases hq; exact ⟨hb.cell 0, hb.cell 1, hb.cell 2, hb.cell 3, hb.cell 4⟩
    | 1, hq => cases hq; exact ⟨hb.cell 5, hb.cell 6, hb.cell 7, hb.cell 8, hb.cell 9⟩
    | i + 2, hq => cases hq
theorem ElsAt.of3 {w : World} {b : Nat} {x0 x1 x2 x3 x4 y0 y1 y2 y3 y4 z0 z1 z2 z3 z4 mx my mz : Int} (hb : Blk w b 39 #[.int .u64 x0, .int .u64 x1, .int .u64 x2, .int .u64 x3, .int .u64 x4, .int .u64 y0, .int .u64 y1, .int .u64 y2, .int .u64 y3, .int .u64 y4, .int .u64 z0, .int .u64 z1, .int .u64 z2, .int .u64 z3, .int .u64 z4]) (hx : Fits x0 x1 x2 x3 x4 mx) (hy : Fits y0 y1 y2 y3 y4 my) (hz : Fits z0 z1 z2 z3 z4 mz) : ElsAt w (.slice (some ⟨b, 0, none⟩) 3 3) [⟨x0, x1, x2, x3, x4⟩, ⟨y0, y1, y2, y3, y4⟩, ⟨z0, z1, z2, z3, z4⟩] [mx, my, mz] := by
  refine ⟨rfl, fun i x hq => ?_, _, _, rfl, Nat.le_refl _, by simp, fun _ => ⟨_, rfl, fun i x hq => ?_⟩⟩
  · match i, hq with
    | 0, hq => cases hq; exact hx
    | 1, hq => cases hq; exact hy
    | 2, hq => cases hq; exact hz
    | i + 3, hq => cases hq
  · match i, hq with
    | 0, hq => cases hq; exact ⟨hb.cell 0, hb.cell 1, hb.cell 2, hb.cell 3, hb.cell 4⟩
    | 1, hq => cases hq; exact ⟨hb.cell 5, hb.cell 6, hb.cell 7, hb.cell 8, hb.cell 9⟩
    | 2, hq => cases hq; exact ⟨hb.cell 10, hb.cell 11, hb.cell 12, hb.cell 13, hb.cell 14⟩
    | i + 3, hq => cases hq
theorem ElsAt.nil (w : World) : ElsAt w (.slice none 0 0) [] [] := ⟨rfl, (fun i x hx => by cases hx), none, 0, rfl, Nat.le_refl _, by omega, (fun h => absurd h (by simp))⟩
end Go.Proofs.YtdpafemcpbhlfaaDoor
namespace Go.Proofs.YtdpafemcpbhlfaaDoor
set_option maxRecDepth 100000
open Go.RowKit

/-- What an operation leaves in its slot: a value; an Elem alike n; a pointer to a new block. -/
inductive SP where
  | val (v : Value)
  | elem (n : Int)
  | new (t : TypeId) (z : Array Value)
  | list (ns : List Int)
  | like (p : Value → Prop)
def SP.holds (base : Nat) : SP → Value → World → Prop
  | .val u, v, _ => v = u
  | .elem n, v, _ => ∃ a0 a1 a2 a3 a4 : Int, v = .agg #[.int .u64 a0, .int .u64 a1, .int .u64 a2, .int .u64 a3, .int .u64 a4] ∧ Fits a0 a1 a2 a3 a4 n
  | .new t z, v, w => ∃ b : Nat, v = .pointer (some ⟨b, 0, none⟩) ∧ base ≤ b ∧ Blk w b t z
  | .list ns, v, w => ∃ l : List El, ElsAt w v l ns
  | .like p, v, _ => p v
theorem ElsAt.upd {w w' : World} {v : Value} {l : List El} {ns : List Int} (h : ElsAt w v l ns) (hu : Upd (fun _ => False) w w') : ElsAt w' v l ns := by
  obtain ⟨h1, h2, sp, cap, h3, h4, h5, h6⟩ := h
  refine ⟨h1, h2, sp, cap, h3, h4, h5, fun h0 => ?_⟩
  obtain ⟨b, hb, hc⟩ := h6 h0
  refine ⟨b, hb, fun i x hx => ?_⟩
  obtain ⟨c0, c1, c2, c3, c4⟩ := hc i x hx
  exact ⟨hu.cell c0 (fun h => h), hu.cell c1 (fun h => h), hu.cell c2 (fun h => h), hu.cell c3 (fun h => h), hu.cell c4 (fun h => h)⟩
theorem SP.stable {base : Nat} : ∀ (s : SP) {v : Value} {w w' : World}, Upd (fun _ => False) w w' → s.holds base v w → s.holds base v w'
  | .val _, _, _, _, _, h => h
  | .elem _, _, _, _, _, h => h
  | .new _ _, _, _, _, hu, ⟨b, h1, h2, h3⟩ => ⟨b, h1, h2, hu.blk h3 (fun h => h)⟩
  | .list _, _, _, _, hu, ⟨l, h⟩ => ⟨l, h.upd hu⟩
  | .like _, _, _, _, _, h => h
def specOf (base : Nat) (sp : List SP) (i : Nat) (v : Value) (w : World) : Prop := ∀ s, sp[i]? = some s → s.holds base v w
theorem specOf_stable (base : Nat) (sp : List SP) (j : Nat) (v : Value) (w w' : World) (hu : Upd (fun _ => False) w w') (h : specOf base sp j v w) : specOf base sp j v w' := fun s hs => s.stable hu (h s hs)
def noDstB (ops : Array Oper) (t : Nat) : Bool := (List.range ops.size).all fun i => match ops[i]? with
  | some o => (match o.dst with | some d => d != t | none => true)
  | none => true
theorem noDstB_spec {ops : Array Oper} {t : Nat} (h : noDstB ops t = true) (i : Nat) (o : Oper) (ho : ops[i]? = some o) : o.dst ≠ some t := fun e => by
  have := List.all_eq_true.1 h i (List.mem_range.2 (idx_lt ho))
  simp [ho, e] at this

/-- Each that makes a block is said to do so. -/
def newsB (ops : Array Oper) (sp : List SP) : Bool := (List.range ops.size).all fun i => match ops[i]? with
  | some o => !newB o || (match sp[i]? with | some (.new _ _) => true | _ => false)
  | none => true
theorem newsB_spec {ops : Array Oper} {sp : List SP} (h : newsB ops sp = true) (j : Nat) (oj : Oper) (ho : ops[j]? = some oj) (hn : newB oj = true) : ∃ t z, sp[j]? = some (.new t z) := by
  have := List.all_eq_true.1 h j (List.mem_range.2 (idx_lt ho))
  simp only [ho, hn, Bool.not_true, Bool.false_or] at this
  split at this
  · exact ⟨_, _, by assumption⟩
  · cases this
section
variable {P : Program} {ops : Array Oper} {Q : Exit → Act → World → Prop} {sp : List SP} {a0 : Act} {w0 : World} {listed : Array Bool} {a : Act} {w : World} {base : Nat} {K' : Act → World → Prop} {E : Prop} {i : Nat} {o : Oper} {d : Nat}
theorem Slots.old (h : Slots ops (specOf base sp) a0 w0 listed a w) {t : Nat} (hn : noDstB ops t = true) {v : Value} (hv : a0.tmps[t]? = some v) : a.eval (.tmp t) = v :=
  eval_of ((h.other t (fun i o ho _ => noDstB_spec hn i o ho)).trans hv)
theorem Slots.have (h : Slots ops (specOf base sp) a0 w0 listed a w) (i : Nat) (o : Oper) (d : Nat) (s : SP) (ho : ops[i]? = some o) (hd : o.dst = some d) (hs : sp[i]? = some s) (hl : listed.getD i false = true) : ∃ v, a.tmps[d]? = some v ∧ s.holds base v w := by
  obtain ⟨v, h1, h2⟩ := h.vals i o d ho hd hl
  exact ⟨v, h1, h2 s hs⟩
theorem Slots.stepLoad (h : Slots ops (specOf base sp) a0 w0 listed a w) (hdst : dstB ops a0.tmps.size = true) (hls : listed.size = ops.size) (ho : ops[i]? = some o) (hw : Region.wanted o (yielded ops a.tmps) = true) (hd : o.dst = some d) (ty : TypeId) (t : Nat) (hop : o.op = .load ty (.tmp t))
    (hn : noDstB ops t = true) (g n : Nat) (hv : a0.tmps[t]? = some (.pointer (some ⟨g, 0, none⟩))) (tb : TypeId) (arr : Array Value) (hb : Blk w0 g tb arr) (desc : TypeDesc) (hu : P.underlying ty = some desc) (hrow : (match desc with | .struct _ | .array _ _ => true | _ => false) = true)
    (hi : (P.info? ty).map (·.size) = some n) (hsz : arr.size = n) (hsp : sp[i]? = some (.val (.agg arr))) (hnew : newB o = false)
    (hK' : ∀ a' w', Slots ops (specOf base sp) a0 w0 (listed.setIfInBounds i true) a' w' → K' a' w') : if Region.wanted o (yielded ops a.tmps) = true then Oper.wp P o a w K' Q else E := by
  refine step_loadBlk' hw ty (.tmp t) hop g 0 n (h.old hn hv) tb arr desc (h.upd.blk hb (fun h => h)) hu hrow hi (by omega) ?_
  rw [extract_all _ _ hsz]
  exact hK' _ _ (h.put hdst (specOf_stable base sp) hls ho hd (Upd.refl _ w) (fun s hs => by rw [hsp] at hs; cases hs; rfl) (fun hq => by rw [hnew] at hq; cases hq))
theorem Slots.stepCall (h : Slots ops (specOf base sp) a0 w0 listed a w) (hdst : dstB ops a0.tmps.size = true) (hls : listed.size = ops.size) (ho : ops[i]? = some o) (hw : Region.wanted o (yielded ops a.tmps) = true) (hd : o.dst = some d) (f : FuncId) (xs : Array Operand) (ts : Array TypeId)
    (hop : o.op = .call { callee := .value (.func f), args := xs, argTypes := ts }) (vs : Array Value) (hx : xs.map a.eval = vs) (hf : ∀ vs w, (callFunc f vs).run P w = .ok (.enter f vs) w) (s : SP) (hsp : sp[i]? = some s) (hnew : newB o = false)
    (hc : Calls P f vs w fun e w' => ∃ v, e = .returned v ∧ s.holds base v w' ∧ Upd (fun _ => False) w w')
    (hK' : ∀ a' w', Slots ops (specOf base sp) a0 w0 (listed.setIfInBounds i true) a' w' → K' a' w') : if Region.wanted o (yielded ops a.tmps) = true then Oper.wp P o a w K' Q else E := by
  refine step_call' hw f xs ts hop vs hx (hf vs) (hc.mono ?_)
  rintro e w' ⟨v, rfl, hs, hu⟩
  exact ⟨v, rfl, hK' _ _ (h.put hdst (specOf_stable base sp) hls ho hd hu (fun s' hs' => by rw [hsp] at hs'; cases hs'; exact hs) (fun hq => by rw [hnew] at hq; cases hq))⟩
theorem Slots.stepAlloc (h : Slots ops (specOf base sp) a0 w0 listed a w) (hdst : dstB ops a0.tmps.size = true) (hls : listed.size = ops.size) (hbase : base ≤ w0.heap.size) (hnews : ∀ (j : Nat) (oj : Oper), ops[j]? = some oj → newB oj = true → ∃ t z, sp[j]? = some (.new t z))
    (ho : ops[i]? = some o) (hw : Region.wanted o (yielded ops a.tmps) = true) (hd : o.dst = some d) (t : TypeId) (hop : o.op = .alloc t) (z : Array Value) (hz : ∀ w, (zeroValue t).run P w = .ok (.agg z) w) (hsp : sp[i]? = some (.new t z))
    (hK' : ∀ a' w', Slots ops (specOf base sp) a0 w0 (listed.setIfInBounds i true) a' w' → K' a' w') : if Region.wanted o (yielded ops a.tmps) = true then Oper.wp P o a w K' Q else E := by
  refine step_alloc' hw t hop z hz ?_
  refine hK' _ _ (h.put hdst (specOf_stable base sp) hls ho hd ((Upd.refl _ w).alloc _) (fun s hs => ?_) (fun _ j oj dj hji hoj nj hdj hl => ?_))
  · rw [hsp] at hs
    cases hs
    exact ⟨w.heap.size, rfl, Nat.le_trans hbase h.upd.size, Blk.at1 w z t⟩
  · obtain ⟨tj, zj, hj⟩ := hnews j oj hoj nj
    obtain ⟨v, h1, b, h2, _, h3⟩ := h.have j oj dj _ hoj hdj hj hl
    rw [h1, h2]
    intro e
    have hlt := h3.lt
    simp only [Option.some.injEq, Value.pointer.injEq, Addr.mk.injEq] at e
    omega
/-- An operation that yields one value in whatever world. -/
theorem Slots.stepPure (h : Slots ops (specOf base sp) a0 w0 listed a w) (hdst : dstB ops a0.tmps.size = true) (hls : listed.size = ops.size) (ho : ops[i]? = some o) (hw : Region.wanted o (yielded ops a.tmps) = true) (hd : o.dst = some d) (v : Value)
    (hrun : (execOp a.eval o).run P w = .ok (.value v) w) (hsp : sp[i]? = some (.val v)) (hnew : newB o = false)
    (hK' : ∀ a' w', Slots ops (specOf base sp) a0 w0 (listed.setIfInBounds i true) a' w' → K' a' w') : if Region.wanted o (yielded ops a.tmps) = true then Oper.wp P o a w K' Q else E := by
  rw [if_pos hw]
  unfold Oper.wp
  rw [hrun, Oper.upon_value]
  exact hK' _ _ (h.put hdst (specOf_stable base sp) hls ho hd (Upd.refl _ w) (fun s hs => by rw [hsp] at hs; cases hs; rfl) (fun hq => by rw [hnew] at hq; cases hq))
/-- A list of Elems made for a call. -/
theorem Slots.stepList (h : Slots ops (specOf base sp) a0 w0 listed a w) (hdst : dstB ops a0.tmps.size = true) (hls : listed.size = ops.size) (ho : ops[i]? = some o) (hw : Region.wanted o (yielded ops a.tmps) = true) (hd : o.dst = some d) (v : Value) (ob : Obj) (ns : List Int) (l : List El)
    (hrun : (execOp a.eval o).run P w = .ok (.value v) (w.alloc ob)) (hE : ElsAt (w.alloc ob) v l ns) (hsp : sp[i]? = some (.list ns)) (hnew : newB o = false)
    (hK' : ∀ a' w', Slots ops (specOf base sp) a0 w0 (listed.setIfInBounds i true) a' w' → K' a' w') : if Region.wanted o (yielded ops a.tmps) = true then Oper.wp P o a w K' Q else E := by
  rw [if_pos hw]
  unfold Oper.wp
  rw [hrun, Oper.upon_value]
  exact hK' _ _ (h.put hdst (specOf_stable base sp) hls ho hd ((Upd.refl _ w).alloc _) (fun s hs => by rw [hsp] at hs; cases hs; exact ⟨l, hE⟩) (fun hq => by rw [hnew] at hq; cases hq))
/-- A guard that has said yes. -/
theorem wanted_of {j : Nat} {oj : Oper} {dj : Nat} {want : Bool} (hg : o.guard = some (j, want)) (hoj : ops[j]? = some oj) (hdj : oj.dst = some dj) (hv : a.tmps[dj]? = some (.bool want)) : Region.wanted o (yielded ops a.tmps) = true := by
  simp [Region.wanted, hg, yielded, hoj, hdj, hv]
theorem wp_region_slots {id : Nat} {a : Act} {w : World} (stop : Array Bool) (sp : List SP) (hm : P.follows .mixedOrders = true) (hsz : stop.size = ops.size) (hok : uptoB ops stop = true)
    (hstep : ∀ i o listed a' w', ops[i]? = some o → listed.size = ops.size → stop.getD i false = true → listed.getD i true = false → (∀ e ∈ o.after, Region.binds .any e = true → listed.getD e.on false = true) → Slots ops (specOf w.heap.size sp) a w.drew listed a' w' →
      ∀ K' : Act → World → Prop, (∀ a'' w'', Slots ops (specOf w.heap.size sp) a w.drew (listed.setIfInBounds i true) a'' w'' → K' a'' w'') → if Region.wanted o (yielded ops a'.tmps) = true then Oper.wp P o a' w' K' Q else K' (a'.put o.dst undef) w')
    (hfin : ∀ fuel a' w', left stop ops.size ≤ fuel → Slots ops (specOf w.heap.size sp) a w.drew stop a' w' → wpAny P .any ops Q fuel stop a' w') : (Code.region id ops true).wp P Q a w :=
  wp_region_upto stop hm hsz hok (Slots ops (specOf w.heap.size sp) a w.drew) (Slots.start _ _ _ _ _) hstep hfin
end
end Go.Proofs.YtdpafemcpbhlfaaDoor
namespace Go.Proofs.YtdpafemcpbhlfaaDoor
set_option maxRecDepth 100000
open Go.RowKit

theorem run_list2 {o : Oper} {a : Act} {p q : Operand} {x0 x1 x2 x3 x4 y0 y1 y2 y3 y4 : Int} (ho : o.op = .buildSlice 108 2 #[(0, p), (1, q)]) (hp : a.eval p = .agg #[.int .u64 x0, .int .u64 x1, .int .u64 x2, .int .u64 x3, .int .u64 x4]) (hq : a.eval q = .agg #[.int .u64 y0, .int .u64 y1, .int .u64 y2, .int .u64 y3, .int .u64 y4]) (w : World) :
    (execOp a.eval o).run Tryd.prog w = .ok (.value (.slice (some ⟨w.heap.size, 0, none⟩) 2 2)) (w.alloc (.cells #[.int .u64 x0, .int .u64 x1, .int .u64 x2, .int .u64 x3, .int .u64 x4, .int .u64 y0, .int .u64 y1, .int .u64 y2, .int .u64 y3, .int .u64 y4] 39)) := by
  generalize a.eval = ev at hp hq ⊢
  unfold execOp
  simp only [ho]
  simp [hp, hq, go_sem]
theorem run_list3 {o : Oper} {a : Act} {p q r : Operand} {x0 x1 x2 x3 x4 y0 y1 y2 y3 y4 z0 z1 z2 z3 z4 : Int} (ho : o.op = .buildSlice 108 3 #[(0, p), (1, q), (2, r)]) (hp : a.eval p = .agg #[.int .u64 x0, .int .u64 x1, .int .u64 x2, .int .u64 x3, .int .u64 x4]) (hq : a.eval q = .agg #[.int .u64 y0, .int .u64 y1, .int .u64 y2, .int .u64 y3, .int .u64 y4]) (hr : a.eval r = .agg #[.int .u64 z0, .int .u64 z1, .int .u64 z2, .int .u64 z3, .int .u64 z4]) (w : World) :
    (execOp a.eval o).run Tryd.prog w = .ok (.value (.slice (some ⟨w.heap.size, 0, none⟩) 3 3)) (w.alloc (.cells #[.int .u64 x0, .int .u64 x1, .int .u64 x2, .int .u64 x3, .int .u64 x4, .int .u64 y0, .int .u64 y1, .int .u64 y2, .int .u64 y3, .int .u64 y4, .int .u64 z0, .int .u64 z1, .int .u64 z2, .int .u64 z3, .int .u64 z4] 39)) := by
  generalize a.eval = ev at hp hq hr ⊢
  unfold execOp
  simp only [ho]
  simp [hp, hq, hr, go_sem]
theorem guardKey' : Tryd.prog.eqGuardType Tryd.prog.depth 23 = false := by kernel_rfl
theorem run_eqlKey {o : Oper} {a : Act} {p q : Operand} {A B : List Int} (ho : o.op = .binOp .eql 23 p q 23) (hp : a.eval p = .agg (numsA .u8 A)) (hq : a.eval q = .agg (numsA .u8 B)) (hA : A.length = 32) (hB : B.length = 32) (w : World) :
    (execOp a.eval o).run Tryd.prog w = .ok (.value (.bool (decide (A = B)))) w := by
  have he := eqKey A B hA hB
  have hg := guardKey'
  generalize a.eval = ev at hp hq ⊢
  generalize decide (A = B) = b at *
  unfold execOp
  simp only [ho]
  simp [hp, hq, go_sem, he, hg]
end Go.Proofs.YtdpafemcpbhlfaaDoor
