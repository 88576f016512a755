/-
  A drawn region in which one operation may come before or behind a store.
-/
import Derived.Test.YtpjkmocabnnhaaaDoorLate
namespace Go.Proofs.YtpjkmocabnnhaaaDoor
open Go.RowKit

section
variable {P : Program} {ops : Array Oper} {Q : Exit → Act → World → Prop}
/-- Those of stop hang on elder ones of stop alone; each other one hangs on all of core. -/
def uptoF (ops : Array Oper) (stop core : Array Bool) : Bool :=
  (List.range ops.size).all fun i => match ops[i]? with
    | none => true
    | some o => if stop.getD i false = true then o.after.all (fun e => !Region.binds .any e || (decide (e.on < i) && stop.getD e.on false))
        else (List.range ops.size).all (fun j => !core.getD j false || reachB ops j ops.size i)
theorem uptoF_in {stop core : Array Bool} (h : uptoF ops stop core = true) {i : Nat} {o : Oper} (ho : ops[i]? = some o) (hs : stop.getD i false = true) (e : Edge) (he : e ∈ o.after) (hb : Region.binds .any e = true) : e.on < i ∧ stop.getD e.on false = true := by
  have := List.all_eq_true.1 h i (List.mem_range.2 (idx_lt ho))
  rw [ho] at this
  simp only [hs, if_true, Array.all_eq_true_iff_forall_mem] at this
  simpa [hb] using this e he
theorem uptoF_out {stop core : Array Bool} (h : uptoF ops stop core = true) {i j : Nat} {o : Oper} (ho : ops[i]? = some o) (hs : stop.getD i false = false) (hj : core.getD j false = true) (hjs : j < ops.size) : reachB ops j ops.size i = true := by
  have := List.all_eq_true.1 h i (List.mem_range.2 (idx_lt ho))
  rw [ho] at this
  simp only [hs, Bool.false_eq_true, if_false] at this
  have := List.all_eq_true.1 this j (List.mem_range.2 hjs)
  simpa [hj] using this
theorem wpAny_upto2 (stop core : Array Bool) (hsz : stop.size = ops.size) (hcs : ∀ j, core.getD j false = true → stop.getD j false = true) (hok : uptoF ops stop core = true) (I : Array Bool → Act → World → Prop)
    (hstep : ∀ i o listed a w, ops[i]? = some o → listed.size = ops.size → stop.getD i false = true → listed.getD i true = false → (∀ e ∈ o.after, Region.binds .any e = true → listed.getD e.on false = true) → I listed a w →
      ∀ K' : Act → World → Prop, (∀ a' w', I (listed.setIfInBounds i true) a' w' → K' a' w') → if Region.wanted o (yielded ops a.tmps) = true then Oper.wp P o a w K' Q else K' (a.put o.dst undef) w)
    (hfin : ∀ fuel listed a w, left listed ops.size ≤ fuel → listed.size = ops.size → (∀ j, listed.getD j false = true → stop.getD j false = true) → (∀ j, core.getD j false = true → listed.getD j false = true) → I listed a w → wpAny P .any ops Q fuel listed a w) :
    ∀ fuel listed a w, listed.size = ops.size → (∀ j, listed.getD j false = true → stop.getD j false = true) → (∀ (k : Nat) (o : Oper), ops[k]? = some o → listed.getD k false = true → ∀ e ∈ o.after, Region.binds .any e = true → listed.getD e.on false = true) → left listed ops.size ≤ fuel → I listed a w → wpAny P .any ops Q fuel listed a w := by
  intro fuel
  induction fuel with
  | zero =>
    intro listed a w hs hsub hcl hleft hI
    have hall : ∀ j, j < ops.size → listed.getD j true = true := fun j hj => by
      cases hq : listed.getD j true with
      | true => rfl
      | false => have := left_pos listed j hq ops.size hj; omega
    refine hfin 0 listed a w hleft hs hsub (fun j hj => ?_) hI
    have hst := hcs j hj
    have hlt : j < ops.size := by
      by_cases h : j < ops.size
      · exact h
      · rw [← hsz] at h; simp [Array.getD, h] at hst
    have := hall j hlt
    have hl : j < listed.size := by omega
    simpa [Array.getD, hl] using this
  | succ fuel ih =>
    intro listed a w hs hsub hcl hleft hI
    by_cases hall : ∀ j, core.getD j false = true → listed.getD j false = true
    · exact hfin _ listed a w hleft hs hsub hall hI
    · have hex : ∃ j, j < ops.size ∧ stop.getD j false = true ∧ listed.getD j false = false := by
        by_cases hc : ∃ j, j < ops.size ∧ stop.getD j false = true ∧ listed.getD j false = false
        · exact hc
        · exact absurd (fun j hst => by
            cases hq : listed.getD j false with
            | true => rfl
            | false =>
              have h2 := hcs j hst
              have hlt : j < ops.size := by
                by_cases h : j < ops.size
                · exact h
                · rw [← hsz] at h; simp [Array.getD, h] at h2
              exact absurd ⟨j, hlt, h2, hq⟩ hc) hall
      obtain ⟨j0, hj0⟩ := hex
      obtain ⟨j, ⟨hj, hst, hun⟩, hmin⟩ := exists_min (p := fun j => j < ops.size ∧ stop.getD j false = true ∧ listed.getD j false = false) hj0
      have hunT : ∀ k, k < ops.size → listed.getD k false = false → listed.getD k true = false := fun k hk h => by
        have hk' : k < listed.size := by omega
        simpa [Array.getD, hk'] using h
      have hoj : ops[j]? = some ops[j] := Array.getElem?_eq_getElem hj
      have hready : j ∈ Region.ready .any ops listed := ready_mem hoj (hunT j hj hun) (fun e he hb => by
        obtain ⟨h1, h2⟩ := uptoF_in hok hoj hst e he hb
        cases hq : listed.getD e.on false with
        | true => rfl
        | false => exact absurd ⟨by omega, h2, hq⟩ (hmin e.on h1))
      refine ⟨(fun h0 => by rw [h0] at hready; cases hready), fun i hi => ?_⟩
      obtain ⟨o, ho, hu, hd⟩ := mem_ready hi
      have hsi : i < ops.size := by
        by_cases h : i < ops.size
        · exact h
        · rw [Array.getElem?_eq_none (by omega)] at ho; cases ho
      have hstop : stop.getD i false = true := by
        cases hq : stop.getD i false with
        | true => rfl
        | false =>
          exfalso
          refine hall (fun k hk => ?_)
          have hks : k < ops.size := by
            have h2 := hcs k hk
            by_cases h : k < ops.size
            · exact h
            · rw [← hsz] at h; simp [Array.getD, h] at h2
          exact reach_listed hcl ops.size i (fun o' ho' e he hb => by
            obtain rfl : o' = o := Option.some.inj (ho'.symm.trans ho)
            exact hd e he hb) (uptoF_out hok ho hq hk hks)
      refine wpOp_step ho (fun K' hK' => hstep i o listed a w ho hs hstop hu hd hI K' (fun a' w' hI' => hK' a' w' (ih _ a' w' (by simpa using hs) ?_ ?_ ?_ hI')))
      · intro k hk
        rw [getD_set listed i k false (by omega)] at hk
        by_cases e : i = k
        · subst e; exact hstop
        · rw [if_neg e] at hk; exact hsub k hk
      · intro k ok hok hk e he hb
        rw [getD_set listed i e.on false (by omega)]
        by_cases e1 : i = e.on
        · rw [if_pos e1]
        · rw [if_neg e1]
          rw [getD_set listed i k false (by omega)] at hk
          by_cases e2 : i = k
          · subst e2
            obtain rfl : ok = o := Option.some.inj (hok.symm.trans ho)
            exact hd e he hb
          · rw [if_neg e2] at hk; exact hcl k ok hok hk e he hb
      · have := left_set listed i (by omega) hu ops.size
        rw [if_pos hsi] at this
        omega
theorem getD_clear (l : Array Bool) (f j : Nat) : (l.setIfInBounds f false).getD j false = true ↔ (j ≠ f ∧ l.getD j false = true) := by
  rw [Array.getD_eq_getD_getElem?, Array.getD_eq_getD_getElem?, Array.getElem?_setIfInBounds]
  by_cases h : f = j
  · subst h
    by_cases hl : f < l.size <;> simp [hl]
  · simp [h]; omega
theorem arr_ext_getD {l m : Array Bool} (hs : l.size = m.size) (h : ∀ j, l.getD j false = true ↔ m.getD j false = true) : l = m := by
  apply Array.ext hs
  intro j h1 h2
  have := h j
  simp [Array.getD, h1, h2] at this
  cases h3 : l[j] <;> cases h4 : m[j] <;> simp_all
/-- One operation, f, may come before or behind what hangs on all others. -/
theorem wp_region_float {id : Nat} {a : Act} {w : World} (stop : Array Bool) (f : Nat) (sp : List SP) (hm : P.follows .mixedOrders = true) (hsz : stop.size = ops.size) (hok : uptoF ops stop (stop.setIfInBounds f false) = true)
    (hstep : ∀ i o listed a' w', ops[i]? = some o → listed.size = ops.size → stop.getD i false = true → listed.getD i true = false → (∀ e ∈ o.after, Region.binds .any e = true → listed.getD e.on false = true) → Slots ops (specOf w.heap.size sp) a w.drew listed a' w' →
      ∀ K' : Act → World → Prop, (∀ a'' w'', Slots ops (specOf w.heap.size sp) a w.drew (listed.setIfInBounds i true) a'' w'' → K' a'' w'') → if Region.wanted o (yielded ops a'.tmps) = true then Oper.wp P o a' w' K' Q else K' (a'.put o.dst undef) w')
    (hfin : ∀ fuel a' w', left stop ops.size ≤ fuel → Slots ops (specOf w.heap.size sp) a w.drew stop a' w' → wpAny P .any ops Q fuel stop a' w')
    (hfinB : (∀ fuel a' w', left stop ops.size ≤ fuel → Slots ops (specOf w.heap.size sp) a w.drew stop a' w' → wpAny P .any ops Q fuel stop a' w') → ∀ fuel a' w', left (stop.setIfInBounds f false) ops.size ≤ fuel → Slots ops (specOf w.heap.size sp) a w.drew (stop.setIfInBounds f false) a' w' → wpAny P .any ops Q fuel (stop.setIfInBounds f false) a' w') : (Code.region id ops true).wp P Q a w := by
  refine wp_region_any hm (wpAny_upto2 stop (stop.setIfInBounds f false) hsz (fun j hj => ((getD_clear stop f j).1 hj).2) hok (Slots ops (specOf w.heap.size sp) a w.drew) hstep ?_ ops.size _ _ _ (by simp) ?_ ?_ ?_ (Slots.start _ _ _ _ _))
  · intro fuel listed a' w' hl hls hsub hcore hI
    by_cases hf : listed.getD f false = true
    · have e : listed = stop := arr_ext_getD (by omega) (fun j => ⟨hsub j, fun hj => by
        by_cases h : j = f
        · subst h; exact hf
        · exact hcore j ((getD_clear stop f j).2 ⟨h, hj⟩)⟩)
      subst e
      exact hfin fuel a' w' hl hI
    · have e : listed = stop.setIfInBounds f false := arr_ext_getD (by simp; omega) (fun j => ⟨fun hj => (getD_clear stop f j).2 ⟨fun h => hf (h ▸ hj), hsub j hj⟩, hcore j⟩)
      subst e
      exact hfinB hfin fuel a' w' hl hI
  · intro j hj
    have : (Array.replicate ops.size false).getD j false = false := by by_cases h : j < ops.size <;> simp [Array.getD, h]
    rw [this] at hj; cases hj
  · intro k o _ hk
    have : (Array.replicate ops.size false).getD k false = false := by by_cases h : k < ops.size <;> simp [Array.getD, h]
    rw [this] at hk; cases hk
  · have : ∀ n l, left l n ≤ n := by
      intro n
      induction n with
      | zero => intro l; simp [left]
      | succ n ih => intro l; have := ih l; simp only [left]; split <;> omega
    exact this _ _
end
end Go.Proofs.YtpjkmocabnnhaaaDoor
