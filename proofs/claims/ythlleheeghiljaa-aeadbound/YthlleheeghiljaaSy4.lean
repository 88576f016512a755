/-
  A region, whatever its order: as a whole. For any program.
-/
import Derived.Test.YthlleheeghiljaaSy3
namespace Go.Proofs.Ythlleheeghiljaa
open Go.RowKit

/-- Which ones come ahead of which, as bits; latest first. -/
def mAt : List Nat → Nat → Nat
  | [], _ => 0
  | m :: r, k => bif Nat.beq k r.length then m else mAt r k
def edgeM (ms : List Nat) : List Edge → Nat
  | [] => 0
  | e :: r => bif Region.binds .any e then Nat.lor (Nat.lor (2 ^ e.on) (mAt ms e.on)) (edgeM ms r) else edgeM ms r
def depG : List Oper → List Nat → List Nat
  | [], ms => ms
  | o :: l, ms => depG l (edgeM ms o.after.toList :: ms)
def depD (ops : Array Oper) (j i : Nat) : Bool := Nat.testBit (mAt (depG ops.toList []) j) i
def depT (j i : Nat) : Bool := Nat.blt i j
theorem edgeM_bit {ms : List Nat} {k : Nat} : ∀ {es : List Edge}, Nat.testBit (edgeM ms es) k = true → ∃ e ∈ es, Region.binds .any e = true ∧ (k = e.on ∨ Nat.testBit (mAt ms e.on) k = true)
  | [], h => by simp [edgeM] at h
  | e :: r, h => by
    unfold edgeM at h
    cases hb : Region.binds .any e with
    | false =>
      rw [hb, cond_false] at h
      obtain ⟨e', h1, h2⟩ := edgeM_bit h
      exact ⟨e', List.mem_cons_of_mem _ h1, h2⟩
    | true =>
      rw [hb, cond_true] at h
      have h' : ((2 ^ e.on ||| mAt ms e.on) ||| edgeM ms r).testBit k = true := h
      rw [Nat.testBit_or, Nat.testBit_or, Bool.or_eq_true, Bool.or_eq_true] at h'
      rcases h' with (h1 | h1) | h1
      · refine ⟨e, by simp, hb, .inl ?_⟩
        rw [Nat.testBit_two_pow] at h1
        exact (of_decide_eq_true h1).symm
      · exact ⟨e, by simp, hb, .inr h1⟩
      · obtain ⟨e', h3, h4⟩ := edgeM_bit h1
        exact ⟨e', List.mem_cons_of_mem _ h3, h4⟩
theorem mAt_lt {ms : List Nat} {j k : Nat} (h : Nat.testBit (mAt ms j) k = true) : j < ms.length := by
  induction ms with
  | nil => simp [mAt] at h
  | cons m r ih =>
    unfold mAt at h
    by_cases e : j = r.length
    · simp [e]
    · rw [beqF e, cond_false] at h
      have := ih h
      simp; omega
/-- Those ahead of one whose edges are listed are listed. -/
theorem dep_closed {ops : Array Oper} {S : Nat → Bool} (hcl : ∀ (k : Nat) (o : Oper), ops[k]? = some o → S k = true → ∀ e ∈ o.after, Region.binds .any e = true → S e.on = true) :
    ∀ (l : List Oper) (ms : List Nat), ops.toList.drop ms.length = l → (∀ j k, (∀ o, ops[j]? = some o → ∀ e ∈ o.after, Region.binds .any e = true → S e.on = true) → Nat.testBit (mAt ms j) k = true → S k = true) →
      ∀ j k, (∀ o, ops[j]? = some o → ∀ e ∈ o.after, Region.binds .any e = true → S e.on = true) → Nat.testBit (mAt (depG l ms) j) k = true → S k = true
  | [], ms, _, h => h
  | o :: l, ms, hd, h => by
    unfold depG
    have ho : ops[ms.length]? = some o := by
      have : (ops.toList.drop ms.length)[0]? = some o := by rw [hd]; rfl
      rw [List.getElem?_drop, Nat.add_zero, Array.getElem?_toList] at this
      exact this
    refine dep_closed hcl l _ ?_ ?_
    · rw [List.length_cons, ← List.drop_drop, hd]; rfl
    · intro j k hj hk
      unfold mAt at hk
      by_cases e : j = ms.length
      · subst e
        simp only [Nat.beq_refl, cond_true] at hk
        obtain ⟨e, h1, h2, h3⟩ := edgeM_bit hk
        have hS := hj o ho e (by simpa using h1) h2
        rcases h3 with rfl | h3
        · exact hS
        · exact h e.on k (fun o' ho' e' he' hb' => hcl e.on o' ho' hS e' he' hb') h3
      · rw [beqF e, cond_false] at hk
        exact h j k hj hk

def allN (p : Nat → Bool) : List Nat → Bool
  | [] => true
  | k :: r => p k && allN p r
theorem allN_mem {p : Nat → Bool} : ∀ {l : List Nat}, allN p l = true → ∀ k ∈ l, p k = true
  | [], _, _, h => by cases h
  | x :: r, h, k, hk => by
    rw [allN, Bool.and_eq_true] at h
    rcases List.mem_cons.1 hk with rfl | hk
    · exact h.1
    · exact allN_mem h.2 k hk
/-- Each by itself: its names, its slot. -/
def eachB (n : Nat) : RR → Bool
  | [] => true
  | x :: r => allN (fun m => Nat.blt m (Nat.add x.2.base x.2.news.length)) x.2.names && allN (fun m => Nat.blt m (Nat.add x.2.base x.2.news.length)) x.2.puts && (match x.1 with | some d => Nat.blt d n | none => true) && eachB n r
/-- One against all ahead of it. -/
def orderOne (ops : Array Oper) (m : Nat) (rj : List Nat) (y : Option Nat × Rec) : List Oper → RR → Bool
  | o :: l, x :: r => (!clash (readsOf ops o) rj x y || Nat.testBit m l.length) && orderOne ops m rj y l r
  | _, _ => true
def orderB (ops : Array Oper) : List Oper → RR → List Nat → Bool
  | o :: l, x :: r, m :: ms => orderOne ops m (readsOf ops o) x l r && orderB ops l r ms
  | _, _, _ => true
def edgesB (ops : Array Oper) : Bool := uptoB ops (Array.replicate ops.size true)
def namesB (σ : St) (pins : Nat) : Bool :=
  Nat.ble pins σ.mem.length && σ.slots.all (fun x => allN (fun m => Nat.blt m σ.mem.length) x.2.idx) && σ.mem.all (fun x => allN (fun m => Nat.blt m σ.mem.length) x.idx)
def checkR (E : Ev) (ops : Array Oper) (draw : Bool) (σ : St) (rv : RR) : Bool :=
  namesB σ E.pins && eachB σ.n rv && (bif draw then edgesB ops && orderB ops ops.toList.reverse rv (depG ops.toList []) else true)
def oblR : RR → List Prop
  | [] => []
  | x :: r => oblR r ++ x.2.obl
def keepL (f : Nat → Option AV) : List Nat → List (Nat × AV)
  | [] => []
  | t :: r => match f t with | some v => (t, v) :: keepL f r | none => keepL f r
def memL (f : Nat → Option MB) : Nat → Nat → List MB
  | _, 0 => []
  | m, n + 1 => (match f m with | some x => x | none => .dead) :: memL f (m + 1) n
def nextB (n0 : Nat) : RR → Nat
  | [] => n0
  | x :: _ => Nat.add x.2.base x.2.news.length
def outSt (keep : List Nat) (σ : St) (rv : RR) : St :=
  ⟨σ.n, keepL (slotOf σ (fun _ => true) rv) keep, memL (objOf σ (fun _ => true) rv) 0 (nextB σ.mem.length rv)⟩
def regionE (E : Ev) (keep : List Nat) (ops : Array Oper) (draw : Bool) (σ : St) : Option (St × List Prop) :=
  match buildR E ops σ ops.toList [] σ.mem.length with
  | none => none
  | some rv => bif checkR E ops draw σ rv then some (outSt keep σ rv, oblR rv) else none

theorem keepL_get {f : Nat → Option AV} {t : Nat} {v : AV} : ∀ {l : List Nat}, lookL t (keepL f l) = some v → f t = some v
  | [], h => by cases h
  | k :: r, h => by
    unfold keepL at h
    cases hf : f k with
    | none => rw [hf] at h; exact keepL_get h
    | some u =>
      rw [hf] at h
      simp only [lookL] at h
      by_cases e : k = t
      · subst e; simp at h; rw [hf, h]
      · rw [beqF e, cond_false] at h; exact keepL_get h
theorem memL_get {f : Nat → Option MB} : ∀ {n m k : Nat} {x : MB}, getL (memL f m n) k = some x → x = .dead ∨ f (m + k) = some x
  | 0, m, k, x, h => by simp [memL, getL] at h
  | n + 1, m, 0, x, h => by
    simp only [memL, getL, Option.some.injEq] at h
    cases hf : f m with
    | none => rw [hf] at h; exact .inl h.symm
    | some u => rw [hf] at h; exact .inr (by rw [← h])
  | n + 1, m, k + 1, x, h => by
    rw [show m + (k + 1) = m + 1 + k by omega]
    exact memL_get (n := n) (by simpa [memL, getL] using h)
theorem Holds.weak {cx : Cx} {β : Be} {n : Nat} {gs gs' : Nat → Option AV} {gm gm' : Nat → Option MB} {a : Act} {w : World} (H : Holds cx β n gs gm a w) (h1 : ∀ t v, gs' t = some v → gs t = some v) (h2 : ∀ m x, gm' m = some x → x = .dead ∨ gm m = some x) : Holds cx β n gs' gm' a w := by
  refine ⟨H.upd, H.glob, H.pin, H.defers, H.size, fun t v h => H.slot t v (h1 t v h), fun m x h => ?_, fun i j x y hij hx hy hr hl => ?_⟩
  · rcases h2 m x h with rfl | h
    · trivial
    · exact H.obj m x h
  · rcases h2 i x hx with rfl | hx
    · cases hr
    · rcases h2 j y hy with rfl | hy
      · cases hl
      · exact H.apart i j x y hij hx hy hr hl
theorem Holds.drew {cx : Cx} {β : Be} {n : Nat} {gs : Nat → Option AV} {gm : Nat → Option MB} {a : Act} {w : World} (H : Holds cx β n gs gm a w) : Holds cx β n gs gm a w.drew :=
  ⟨H.upd.drew, H.glob, H.pin, H.defers, H.size, H.slot, fun m x h => (H.obj m x h).keep rfl (fun _ _ => rfl) (fun _ _ _ _ _ _ hb => hb), H.apart⟩

section
variable {E : Ev} {σ : St} {ops : Array Oper}
theorem opE_base {o : Oper} {gs : Nat → Option AV} {gm : Nat → Option MB} {base : Nat} {r : Rec} (h : opE E ops o gs gm base = some r) : r.base = base := by
  have hr : ∀ {r : Rec}, runE E o gs gm base = some r → r.base = base := fun {r} h => by
    unfold runE at h
    simp only [] at h
    split at h
    · cases h; rfl
    · cases h
  unfold opE at h
  split at h
  · exact hr h
  · split at h
    · cases h
    · split at h
      · split at h <;> first | exact hr h | (cases h; rfl)
      · cases h; rfl
      · cases h
/-- How what was built lies in the whole. -/
theorem lastW_cut {α : Type} {f : Option Nat × Rec → Option α} {rv : RR} : ∀ (pre : RR), lastW (fun k => Nat.blt k rv.length) f (pre ++ rv) = lastW (fun _ => true) f rv
  | [] => lastW_congr fun k x hk _ => blt_iff.2 (atR_lt hk)
  | y :: pre => by
    have ih := lastW_cut (f := f) (rv := rv) pre
    rw [List.cons_append, lastW]
    have : Nat.blt (pre ++ rv).length rv.length = false := by
      cases hb : Nat.blt (pre ++ rv).length rv.length with
      | false => rfl
      | true => have := blt_iff.1 hb; simp at this; omega
    rw [this, cond_false]
    exact ih
theorem atR_pre {rv : RR} {k : Nat} {x : Option Nat × Rec} (h : atR rv k = some x) : ∀ (pre : RR), atR (pre ++ rv) k = some x
  | [] => h
  | y :: pre => by
    have hl := atR_lt h
    rw [List.cons_append, atR_cons (by simp; omega)]
    exact atR_pre h pre
structure Part (E : Ev) (σ : St) (ops : Array Oper) (rv : RR) (base : Nat) : Prop where
  pos : ∀ i x, atR rv i = some x → ∃ o, ops[i]? = some o ∧ x.1 = o.dst ∧ ∀ pre, opE E ops o (slotOf σ (fun k => Nat.blt k i) (pre ++ rv)) (objOf σ (fun k => Nat.blt k i) (pre ++ rv)) x.2.base = some x.2
  base0 : ∀ i x, atR rv i = some x → σ.mem.length ≤ x.2.base ∧ x.2.base + x.2.news.length ≤ base
  mono : ∀ i j x y, i < j → atR rv i = some x → atR rv j = some y → x.2.base + x.2.news.length ≤ y.2.base
  le : σ.mem.length ≤ base
  next : base = nextB σ.mem.length rv
theorem buildR_part : ∀ (l : List Oper) (rv : RR) (base : Nat), ops.toList.drop rv.length = l → Part E σ ops rv base → ∀ rv', buildR E ops σ l rv base = some rv' → ∃ base', Part E σ ops rv' base' ∧ rv'.length = rv.length + l.length
  | [], rv, base, _, hP, rv', h => by cases h; exact ⟨base, hP, by simp⟩
  | o :: l, rv, base, hd, hP, rv', h => by
    unfold buildR at h
    cases ho : opE E ops o (slotOf σ (fun _ => true) rv) (objOf σ (fun _ => true) rv) base with
    | none => rw [ho] at h; cases h
    | some r =>
      rw [ho] at h
      have hb := opE_base ho
      have hopi : ops[rv.length]? = some o := by
        have : (ops.toList.drop rv.length)[0]? = some o := by rw [hd]; rfl
        rw [List.getElem?_drop, Nat.add_zero, Array.getElem?_toList] at this
        exact this
      have hcut : ∀ pre, slotOf σ (fun k => Nat.blt k rv.length) (pre ++ (o.dst, r) :: rv) = slotOf σ (fun _ => true) rv ∧ objOf σ (fun k => Nat.blt k rv.length) (pre ++ (o.dst, r) :: rv) = objOf σ (fun _ => true) rv := fun pre => by
        have e : pre ++ (o.dst, r) :: rv = (pre ++ [(o.dst, r)]) ++ rv := by simp
        constructor
        · funext t; unfold slotOf; rw [e, lastW_cut]
        · funext t; unfold objOf; rw [e, lastW_cut]
      have hpart : Part E σ ops ((o.dst, r) :: rv) (Nat.add base r.news.length) := by
        refine ⟨fun i x hx => ?_, fun i x hx => ?_, fun i j x y hij hx hy => ?_, ?_, ?_⟩
        · by_cases e : i = rv.length
          · subst e
            rw [atR_head] at hx; cases hx
            refine ⟨o, hopi, rfl, fun pre => ?_⟩
            rw [(hcut pre).1, (hcut pre).2, hb]
            exact ho
          · have hlt := atR_lt hx
            rw [atR_cons (by simp at hlt; omega)] at hx
            obtain ⟨o', h1, h2, h3⟩ := hP.pos i x hx
            refine ⟨o', h1, h2, fun pre => ?_⟩
            have := h3 (pre ++ [(o.dst, r)])
            rwa [List.append_assoc] at this
        · by_cases e : i = rv.length
          · subst e
            rw [atR_head] at hx; cases hx
            exact ⟨by rw [hb]; exact hP.le, by rw [hb]; exact Nat.le_refl _⟩
          · have hlt := atR_lt hx
            rw [atR_cons (by simp at hlt; omega)] at hx
            have := hP.base0 i x hx
            exact ⟨this.1, Nat.le_trans this.2 (Nat.le_add_right _ _)⟩
        · have hlj := atR_lt hy
          rw [atR_cons (by simp at hlj; omega)] at hx
          by_cases e : j = rv.length
          · subst e
            rw [atR_head] at hy; cases hy
            rw [hb]
            exact (hP.base0 i x hx).2
          · rw [atR_cons (by simp at hlj; omega)] at hy
            exact hP.mono i j x y hij hx hy
        · exact Nat.le_trans hP.le (Nat.le_add_right _ _)
        · simp [nextB, hb]
      obtain ⟨base', h1, h2⟩ := buildR_part l ((o.dst, r) :: rv) (Nat.add base r.news.length) (by rw [List.length_cons, ← List.drop_drop, hd]; rfl) hpart rv' h
      exact ⟨base', h1, by rw [h2]; simp; omega⟩
theorem eachB_at {n : Nat} : ∀ {rv : RR}, eachB n rv = true → ∀ i x, atR rv i = some x → (∀ m ∈ x.2.names, m < x.2.base + x.2.news.length) ∧ (∀ m ∈ x.2.puts, m < x.2.base + x.2.news.length) ∧ ∀ d, x.1 = some d → d < n
  | [], _, _, _, h => by cases h
  | y :: r, hb, i, x, h => by
    rw [eachB, Bool.and_eq_true, Bool.and_eq_true, Bool.and_eq_true] at hb
    obtain ⟨⟨⟨h1, h2⟩, h3⟩, h4⟩ := hb
    by_cases e : i = r.length
    · subst e
      rw [atR_head] at h; cases h
      refine ⟨fun m hm => blt_iff.1 (allN_mem h1 m hm), fun m hm => blt_iff.1 (allN_mem h2 m hm), fun d hd => ?_⟩
      rw [hd] at h3
      exact blt_iff.1 h3
    · have hlt := atR_lt h
      rw [atR_cons (by simp at hlt; omega)] at h
      exact eachB_at h4 i x h
theorem oblR_at : ∀ {rv : RR}, allP (oblR rv) → ∀ i x, atR rv i = some x → allP x.2.obl
  | [], _, _, _, h => by cases h
  | y :: r, hb, i, x, h => by
    rw [oblR, allP_append] at hb
    by_cases e : i = r.length
    · subst e; rw [atR_head] at h; cases h; exact hb.2
    · have hlt := atR_lt h
      rw [atR_cons (by simp at hlt; omega)] at h
      exact oblR_at hb.1 i x h
theorem mAt_head {m : Nat} {ms : List Nat} : mAt (m :: ms) ms.length = m := by simp [mAt]
theorem orderOne_at {m : Nat} {rj : List Nat} {y : Option Nat × Rec} : ∀ {l : List Oper} {rv : RR}, l.length = rv.length → orderOne ops m rj y l rv = true → ∀ i x o, atR rv i = some x → l.reverse[i]? = some o → clash (readsOf ops o) rj x y = true → Nat.testBit m i = true
  | [], [], _, _, _, _, _, h, _, _ => by cases h
  | o' :: l, z :: r, hlen, hb, i, x, o, hx, ho, hc => by
    rw [orderOne, Bool.and_eq_true] at hb
    have hl : l.length = r.length := by simpa using hlen
    by_cases e : i = r.length
    · subst e
      rw [atR_head] at hx; cases hx
      rw [List.reverse_cons, List.getElem?_append_right (by simp [hl]), List.length_reverse, hl, Nat.sub_self] at ho
      cases ho
      rw [hc] at hb
      rw [← hl]
      simpa using hb.1
    · have hlt := atR_lt hx
      rw [atR_cons (by simp at hlt; omega)] at hx
      rw [List.reverse_cons, List.getElem?_append_left (by simp at hlt; simp; omega)] at ho
      exact orderOne_at hl hb.2 i x o hx ho hc
theorem orderB_at : ∀ {l : List Oper} {rv : RR} {ms : List Nat}, l.length = rv.length → ms.length = rv.length → orderB ops l rv ms = true → ∀ i j x y oi oj, i < j → atR rv i = some x → atR rv j = some y → l.reverse[i]? = some oi → l.reverse[j]? = some oj → clash (readsOf ops oi) (readsOf ops oj) x y = true → Nat.testBit (mAt ms j) i = true
  | [], [], [], _, _, _, _, _, _, _, _, _, _, h, _, _, _, _ => by cases h
  | o :: l, z :: r, m :: ms, hlen, hms, hb, i, j, x, y, oi, oj, hij, hx, hy, hoi, hoj, hc => by
    rw [orderB, Bool.and_eq_true] at hb
    have hl : l.length = r.length := by simpa using hlen
    have hm : ms.length = r.length := by simpa using hms
    have hlt := atR_lt hy
    rw [atR_cons (by simp at hlt; omega)] at hx
    rw [List.reverse_cons, List.getElem?_append_left (by simp at hlt; simp; omega)] at hoi
    by_cases e : j = r.length
    · subst e
      rw [atR_head] at hy; cases hy
      rw [List.reverse_cons, List.getElem?_append_right (by simp [hl]), List.length_reverse, hl, Nat.sub_self] at hoj
      cases hoj
      rw [← hm, mAt_head]
      exact orderOne_at hl hb.1 i x oi hx hoi hc
    · rw [atR_cons (by simp at hlt; omega)] at hy
      rw [List.reverse_cons, List.getElem?_append_left (by simp at hlt; simp; omega)] at hoj
      have := orderB_at hl hm hb.2 i j x y oi oj hij hx hy hoi hoj hc
      rw [mAt, beqF (by omega), cond_false]
      exact this
theorem depG_len : ∀ (l : List Oper) (ms : List Nat), (depG l ms).length = ms.length + l.length
  | [], ms => by simp [depG]
  | o :: l, ms => by rw [depG, depG_len l]; simp; omega
theorem lookL_mem {α : Type} {m : Nat} {l : List (Nat × α)} {x : α} (h : lookL m l = some x) : (m, x) ∈ l := lookL_some h
theorem getL_mem {α : Type} {m : Nat} {l : List α} {x : α} (h : getL l m = some x) : x ∈ l ∧ m < l.length := by
  rw [getL_eq] at h
  exact ⟨List.mem_of_getElem? h, (List.getElem?_eq_some_iff.1 h).1⟩
theorem reg_of {draw : Bool} {rv : RR} (hb : buildR E ops σ ops.toList [] σ.mem.length = some rv) (hc : checkR E ops draw σ rv = true) (ho : allP (oblR rv)) : Reg E σ ops (bif draw then depD ops else depT) rv σ.mem.length ∧ nextB σ.mem.length rv = nextB σ.mem.length rv ∧ (draw = true → edgesB ops = true) := by
  obtain ⟨base', hP, hlen⟩ := buildR_part (E := E) (σ := σ) ops.toList [] σ.mem.length rfl ⟨fun _ _ h => (by cases h), fun _ _ h => (by cases h), fun _ _ _ _ _ h => (by cases h), Nat.le_refl _, rfl⟩ rv hb
  have hlen' : rv.length = ops.size := by simpa using hlen
  rw [checkR, Bool.and_eq_true, Bool.and_eq_true, namesB, Bool.and_eq_true, Bool.and_eq_true] at hc
  obtain ⟨⟨⟨⟨n0, n1⟩, n2⟩, h1⟩, h2⟩ := hc
  refine ⟨⟨fun i x hx => ?_, hlen', fun i x hx => (hP.base0 i x hx).1, hP.mono, fun i x hx => (eachB_at h1 i x hx).1, fun i x hx m y hm => (eachB_at h1 i x hx).2.1 m (put_mem hm), fun t av h m hm => ?_, fun m mb h => ?_, Nat.le_of_ble_eq_true n0, fun i x d hx => (eachB_at h1 i x hx).2.2 d, fun i j x y oi oj hij hx hy hoi hoj hcl => ?_, oblR_at ho⟩, rfl, fun hd => ?_⟩
  · obtain ⟨o, h3, h4, h5⟩ := hP.pos i x hx
    exact ⟨o, h3, h4, h5 []⟩
  · exact blt_iff.1 (allN_mem (List.all_eq_true.1 n1 _ (lookL_mem h)) m hm)
  · have := getL_mem h
    exact ⟨this.2, fun j hj => blt_iff.1 (allN_mem (List.all_eq_true.1 n2 _ this.1) j hj)⟩
  · cases draw with
    | false => exact blt_iff.2 hij
    | true =>
      rw [cond_true, Bool.and_eq_true] at h2
      refine orderB_at (by simp [hlen']) (by rw [depG_len]; simp [hlen']) h2.2 i j x y oi oj hij hx hy ?_ ?_ hcl
      · rw [List.reverse_reverse, Array.getElem?_toList]; exact hoi
      · rw [List.reverse_reverse, Array.getElem?_toList]; exact hoj
  · subst hd
    rw [cond_true, Bool.and_eq_true] at h2
    exact h2.1
end
end Go.Proofs.Ythlleheeghiljaa
