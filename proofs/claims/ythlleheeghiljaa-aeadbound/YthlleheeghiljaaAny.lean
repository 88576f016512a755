/-
  A region that draws its order, by an invariant: what holds of whatever set of its operations has come up. For any program.
-/
import Derived.Test.YthlleheeghiljaaLaws
import Derived.RegionTactic
namespace Go.Proofs.Ythlleheeghiljaa
open Go.RowKit

section
variable {P : Program} {ops : Array Oper} {Q : Exit → Act → World → Prop}

theorem mem_ready {listed : Array Bool} {i : Nat} (h : i ∈ Region.ready .any ops listed) :
    ∃ o, ops[i]? = some o ∧ listed.getD i true = false ∧ ∀ e ∈ o.after, Region.binds .any e = true → listed.getD e.on false = true := by
  unfold Region.ready at h
  rw [List.mem_filter, Bool.and_eq_true] at h
  obtain ⟨h1, h2, h3⟩ := h
  have hi : i < ops.size := List.mem_range.1 h1
  rw [Array.getElem?_eq_getElem hi] at h3
  simp only [Option.map_some, Option.getD_some, Array.all_eq_true_iff_forall_mem] at h3
  refine ⟨ops[i], Array.getElem?_eq_getElem hi, by simpa using h2, fun e he hb => ?_⟩
  have := h3 e he
  simpa [hb] using this
theorem ready_mem {listed : Array Bool} {i : Nat} {o : Oper} (ho : ops[i]? = some o) (hl : listed.getD i true = false) (hd : ∀ e ∈ o.after, Region.binds .any e = true → listed.getD e.on false = true) :
    i ∈ Region.ready .any ops listed := by
  have hi : i < ops.size := by
    by_cases h : i < ops.size
    · exact h
    · rw [Array.getElem?_eq_none (by omega)] at ho; cases ho
  unfold Region.ready
  rw [List.mem_filter, Bool.and_eq_true]
  refine ⟨List.mem_range.2 hi, by simp [hl], ?_⟩
  rw [ho]
  simp only [Option.map_some, Option.getD_some, Array.all_eq_true_iff_forall_mem]
  intro e he
  by_cases hb : Region.binds .any e = true
  · simp [hd e he hb]
  · simp [hb]
/-- How many of the first n have not come up. -/
def left (listed : Array Bool) : Nat → Nat
  | 0 => 0
  | n + 1 => left listed n + (if listed.getD n true = false then 1 else 0)
theorem getD_set (listed : Array Bool) (i j : Nat) (d : Bool) (hi : i < listed.size) : (listed.setIfInBounds i true).getD j d = if i = j then true else listed.getD j d := by
  rw [Array.getD_eq_getD_getElem?, Array.getD_eq_getD_getElem?, Array.getElem?_setIfInBounds]
  by_cases h : i = j
  · subst h; simp [hi]
  · simp [h]
theorem left_set (listed : Array Bool) (i : Nat) (hi : i < listed.size) (hl : listed.getD i true = false) : ∀ n, left (listed.setIfInBounds i true) n + (if i < n then 1 else 0) = left listed n
  | 0 => by simp [left]
  | n + 1 => by
    have ih := left_set listed i hi hl n
    simp only [left, getD_set listed i n true hi]
    by_cases h : i = n
    · subst h
      simp only [if_true, hl, Nat.lt_irrefl, if_false, Nat.lt_succ_self] at ih ⊢
      simp at ih ⊢
      omega
    · rw [if_neg h]
      by_cases h2 : i < n
      · rw [if_pos h2] at ih; rw [if_pos (show i < n + 1 by omega)]; omega
      · rw [if_neg h2] at ih; rw [if_neg (show ¬ i < n + 1 by omega)]; omega
theorem left_pos (listed : Array Bool) (i : Nat) (hl : listed.getD i true = false) : ∀ n, i < n → 0 < left listed n
  | 0, h => by omega
  | n + 1, h => by
    simp only [left]
    by_cases e : i = n
    · subst e; rw [if_pos hl]; omega
    · have := left_pos listed i hl n (by omega)
      omega
theorem exists_min {p : Nat → Prop} {j : Nat} (h : p j) : ∃ k, p k ∧ ∀ m, m < k → ¬ p m := by
  induction j using Nat.strongRecOn with
  | _ j ih =>
    by_cases hq : ∃ m, m < j ∧ p m
    · obtain ⟨m, hm, hp⟩ := hq
      exact ih m hm hp
    · exact ⟨j, h, fun m hm hp => hq ⟨m, hm, hp⟩⟩
/-- Does i hang on j, through so many others? -/
def reachB (ops : Array Oper) (j : Nat) : Nat → Nat → Bool
  | 0, _ => false
  | fuel + 1, i => match ops[i]? with
    | none => false
    | some o => (o.after.any fun e => Region.binds .any e && e.on == j) || (o.after.any fun e => Region.binds .any e && (decide (j < e.on) && reachB ops j fuel e.on))
theorem reach_listed {listed : Array Bool} {j : Nat} (hcl : ∀ (k : Nat) (o : Oper), ops[k]? = some o → listed.getD k false = true → ∀ e ∈ o.after, Region.binds .any e = true → listed.getD e.on false = true) :
    ∀ (fuel i : Nat), (∀ (o : Oper), ops[i]? = some o → ∀ e ∈ o.after, Region.binds .any e = true → listed.getD e.on false = true) → reachB ops j fuel i = true → listed.getD j false = true
  | 0, _, _, h => by simp [reachB] at h
  | fuel + 1, i, hd, h => by
    unfold reachB at h
    cases ho : ops[i]? with
    | none => simp [ho] at h
    | some o =>
      simp only [ho, Bool.or_eq_true, Array.any_eq_true'] at h
      rcases h with ⟨e, he, h2⟩ | ⟨e, he, h2⟩
      · rw [Bool.and_eq_true] at h2
        have hl := hd o ho e he h2.1
        rw [← (by simpa using h2.2 : e.on = j)]; exact hl
      · rw [Bool.and_eq_true, Bool.and_eq_true] at h2
        have hl := hd o ho e he h2.1
        exact reach_listed hcl fuel e.on (fun o' ho' e' he' hb' => hcl e.on o' ho' hl e' he' hb') h2.2.2
/-- Those of stop hang on elder ones of stop alone; each other one hangs on all of stop. -/
def uptoB (ops : Array Oper) (stop : Array Bool) : Bool :=
  (List.range ops.size).all fun i => match ops[i]? with
    | none => true
    | some o => if stop.getD i false = true then o.after.all (fun e => !Region.binds .any e || (decide (e.on < i) && stop.getD e.on false))
        else (List.range ops.size).all (fun j => !stop.getD j false || reachB ops j ops.size i)
theorem uptoB_in {stop : Array Bool} (h : uptoB ops stop = true) {i : Nat} {o : Oper} (ho : ops[i]? = some o) (hs : stop.getD i false = true) (e : Edge) (he : e ∈ o.after) (hb : Region.binds .any e = true) : e.on < i ∧ stop.getD e.on false = true := by
  have hi : i < ops.size := by
    by_cases h : i < ops.size
    · exact h
    · rw [Array.getElem?_eq_none (by omega)] at ho; cases ho
  have := List.all_eq_true.1 h i (List.mem_range.2 hi)
  rw [ho] at this
  simp only [hs, if_true, Array.all_eq_true_iff_forall_mem] at this
  simpa [hb] using this e he
theorem uptoB_out {stop : Array Bool} (h : uptoB ops stop = true) {i j : Nat} {o : Oper} (ho : ops[i]? = some o) (hs : stop.getD i false = false) (hj : stop.getD j false = true) (hjs : j < ops.size) : reachB ops j ops.size i = true := by
  have hi : i < ops.size := by
    by_cases h : i < ops.size
    · exact h
    · rw [Array.getElem?_eq_none (by omega)] at ho; cases ho
  have := List.all_eq_true.1 h i (List.mem_range.2 hi)
  rw [ho] at this
  simp only [hs, Bool.false_eq_true, if_false] at this
  have := List.all_eq_true.1 this j (List.mem_range.2 hjs)
  simpa [hj] using this
theorem wpAny_upto (stop : Array Bool) (hsz : stop.size = ops.size) (hok : uptoB ops stop = true) (I : Array Bool → Act → World → Prop)
    (hstep : ∀ i o listed a w, ops[i]? = some o → listed.size = ops.size → stop.getD i false = true → listed.getD i true = false → (∀ e ∈ o.after, Region.binds .any e = true → listed.getD e.on false = true) → I listed a w →
      ∀ K' : Act → World → Prop, (∀ a' w', I (listed.setIfInBounds i true) a' w' → K' a' w') → if Region.wanted o (yielded ops a.tmps) = true then Oper.wp P o a w K' Q else K' (a.put o.dst undef) w)
    (hfin : ∀ fuel a w, left stop ops.size ≤ fuel → I stop a w → wpAny P .any ops Q fuel stop a w) :
    ∀ fuel listed a w, listed.size = ops.size → (∀ j, listed.getD j false = true → stop.getD j false = true) → (∀ (k : Nat) (o : Oper), ops[k]? = some o → listed.getD k false = true → ∀ e ∈ o.after, Region.binds .any e = true → listed.getD e.on false = true) → left listed ops.size ≤ fuel → I listed a w → wpAny P .any ops Q fuel listed a w := by
  intro fuel
  induction fuel with
  | zero =>
    intro listed a w hs hsub hcl hleft hI
    have hall : ∀ j, j < ops.size → listed.getD j true = true := fun j hj => by
      cases hq : listed.getD j true with
      | true => rfl
      | false => have := left_pos listed j hq ops.size hj; omega
    have : listed = stop := by
      apply Array.ext (by omega)
      intro j h1 h2
      have g1 := hall j (by omega)
      have e1 : listed[j] = true := by simpa [Array.getD, h1] using g1
      have g2 := hsub j (by simpa [Array.getD, h1] using e1)
      have e2 : stop[j] = true := by simpa [Array.getD, h2] using g2
      rw [e1, e2]
    subst this
    exact hfin 0 a w hleft hI
  | succ fuel ih =>
    intro listed a w hs hsub hcl hleft hI
    by_cases hall : ∀ j, j < ops.size → stop.getD j false = true → listed.getD j false = true
    · have : listed = stop := by
        apply Array.ext (by omega)
        intro j h1 h2
        cases hq : stop[j] with
        | true =>
          have := hall j (by omega) (by simpa [Array.getD, h2] using hq)
          simpa [Array.getD, h1] using this
        | false =>
          cases hq2 : listed[j] with
          | false => rfl
          | true =>
            have := hsub j (by simpa [Array.getD, h1] using hq2)
            have : stop[j] = true := by simpa [Array.getD, h2] using this
            rw [hq] at this; cases this
      subst this
      exact hfin _ a w hleft hI
    · have hex : ∃ j, j < ops.size ∧ stop.getD j false = true ∧ listed.getD j false = false := by
        by_cases hc : ∃ j, j < ops.size ∧ stop.getD j false = true ∧ listed.getD j false = false
        · exact hc
        · exact absurd (fun j hj hst => by
            cases hq : listed.getD j false with
            | true => rfl
            | false => exact absurd ⟨j, hj, hst, hq⟩ hc) hall
      obtain ⟨j0, hj0⟩ := hex
      obtain ⟨j, ⟨hj, hst, hun⟩, hmin⟩ := exists_min (p := fun j => j < ops.size ∧ stop.getD j false = true ∧ listed.getD j false = false) hj0
      have hunT : ∀ k, k < ops.size → listed.getD k false = false → listed.getD k true = false := fun k hk h => by
        have hk' : k < listed.size := by omega
        simpa [Array.getD, hk'] using h
      have hoj : ops[j]? = some ops[j] := Array.getElem?_eq_getElem hj
      have hready : j ∈ Region.ready .any ops listed := ready_mem hoj (hunT j hj hun) (fun e he hb => by
        obtain ⟨h1, h2⟩ := uptoB_in hok hoj hst e he hb
        cases hq : listed.getD e.on false with
        | true => rfl
        | false => exact absurd ⟨by omega, h2, hq⟩ (hmin e.on h1))
      refine ⟨(fun h0 => by rw [h0] at hready; cases hready), fun i hi => ?_⟩
      obtain ⟨o, ho, hu, hd⟩ := mem_ready hi
      have hsi : i < ops.size := by
        by_cases h : i < ops.size
        · exact h
        · rw [Array.getElem?_eq_none (by omega)] at ho; cases ho
      have hstop : stop.getD i false = true := by
        cases hq : stop.getD i false with
        | true => rfl
        | false =>
          have := reach_listed hcl ops.size i (fun o' ho' e he hb => by
            obtain rfl : o' = o := Option.some.inj (ho'.symm.trans ho)
            exact hd e he hb) (uptoB_out hok ho hq hst hj)
          rw [hun] at this; cases this
      refine wpOp_step ho (fun K' hK' => hstep i o listed a w ho hs hstop hu hd hI K' (fun a' w' hI' => hK' a' w' (ih _ a' w' (by simpa using hs) ?_ ?_ ?_ hI')))
      · intro k hk
        rw [getD_set listed i k false (by omega)] at hk
        by_cases e : i = k
        · subst e; exact hstop
        · rw [if_neg e] at hk; exact hsub k hk
      · intro k ok hok hk e he hb
        rw [getD_set listed i e.on false (by omega)]
        by_cases e1 : i = e.on
        · rw [if_pos e1]
        · rw [if_neg e1]
          rw [getD_set listed i k false (by omega)] at hk
          by_cases e2 : i = k
          · subst e2
            obtain rfl : ok = o := Option.some.inj (hok.symm.trans ho)
            exact hd e he hb
          · rw [if_neg e2] at hk; exact hcl k ok hok hk e he hb
      · have := left_set listed i (by omega) hu ops.size
        rw [if_pos hsi] at this
        omega
/-- The beginning: a region that draws its order, up to those of stop. -/
theorem wp_region_upto {id : Nat} {a : Act} {w : World} (stop : Array Bool) (hm : P.follows .mixedOrders = true) (hsz : stop.size = ops.size) (hok : uptoB ops stop = true) (I : Array Bool → Act → World → Prop)
    (h0 : I (Array.replicate ops.size false) a w.drew)
    (hstep : ∀ i o listed a w, ops[i]? = some o → listed.size = ops.size → stop.getD i false = true → listed.getD i true = false → (∀ e ∈ o.after, Region.binds .any e = true → listed.getD e.on false = true) → I listed a w →
      ∀ K' : Act → World → Prop, (∀ a' w', I (listed.setIfInBounds i true) a' w' → K' a' w') → if Region.wanted o (yielded ops a.tmps) = true then Oper.wp P o a w K' Q else K' (a.put o.dst undef) w)
    (hfin : ∀ fuel a w, left stop ops.size ≤ fuel → I stop a w → wpAny P .any ops Q fuel stop a w) : (Code.region id ops true).wp P Q a w := by
  refine wp_region_any hm (wpAny_upto stop hsz hok I hstep hfin ops.size _ _ _ (by simp) ?_ ?_ ?_ h0)
  · intro j hj
    have : (Array.replicate ops.size false).getD j false = false := by by_cases h : j < ops.size <;> simp [Array.getD, h]
    rw [this] at hj; cases hj
  · intro k o _ hk
    have : (Array.replicate ops.size false).getD k false = false := by by_cases h : k < ops.size <;> simp [Array.getD, h]
    rw [this] at hk; cases hk
  · have : ∀ n l, left l n ≤ n := by
      intro n
      induction n with
      | zero => intro l; simp [left]
      | succ n ih => intro l; have := ih l; simp only [left]; split <;> omega
    exact this _ _
end
end Go.Proofs.Ythlleheeghiljaa
