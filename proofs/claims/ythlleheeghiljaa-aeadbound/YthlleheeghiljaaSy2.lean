/-
  A region, whatever its order: from what is known ahead of it to what is known behind it. For any program.
-/
import Derived.Test.YthlleheeghiljaaSy1
namespace Go.Proofs.Ythlleheeghiljaa
open Go.RowKit

theorem beqF {k m : Nat} (h : k ≠ m) : Nat.beq k m = false := by
  cases hb : Nat.beq k m with
  | false => rfl
  | true => exact absurd (Nat.eq_of_beq_eq_true hb) h
theorem bleF {k m : Nat} (h : ¬ k ≤ m) : Nat.ble k m = false := by
  cases hb : Nat.ble k m with
  | false => rfl
  | true => exact absurd (Nat.le_of_ble_eq_true hb) h
/-- What is known at one place of the code. -/
structure St where
  n : Nat
  slots : List (Nat × AV)
  mem : List MB
def St.gs (σ : St) (t : Nat) : Option AV := lookL t σ.slots
def St.gm (σ : St) (m : Nat) : Option MB := getL σ.mem m
/-- Latest first: an operation's slot and what it does. -/
abbrev RR := List (Option Nat × Rec)
def atR : RR → Nat → Option (Option Nat × Rec)
  | [], _ => none
  | x :: r, i => bif Nat.beq i r.length then some x else atR r i
def lastW {α : Type} (p : Nat → Bool) (f : Option Nat × Rec → Option α) : RR → Option α
  | [] => none
  | x :: r => bif p r.length then (match f x with | some y => some y | none => lastW p f r) else lastW p f r
def fS (t : Nat) (x : Option Nat × Rec) : Option AV := match x.1 with
  | some d => bif Nat.beq d t then some x.2.av else none
  | none => none
def fM (m : Nat) (x : Option Nat × Rec) : Option MB := x.2.put m
def slotOf (σ : St) (p : Nat → Bool) (rv : RR) (t : Nat) : Option AV := match lastW p (fS t) rv with
  | some y => some y
  | none => σ.gs t
def objOf (σ : St) (p : Nat → Bool) (rv : RR) (m : Nat) : Option MB := match lastW p (fM m) rv with
  | some y => some y
  | none => σ.gm m
section
variable {α : Type} {f : Option Nat × Rec → Option α}
theorem atR_lt : ∀ {rv : RR} {k : Nat} {x : Option Nat × Rec}, atR rv k = some x → k < rv.length
  | [], _, _, h => by cases h
  | y :: r, k, x, h => by
    unfold atR at h
    by_cases e : k = r.length
    · simp [e]
    · rw [beqF e, cond_false] at h
      have := atR_lt h
      simp; omega
theorem atR_cons {rv : RR} {y : Option Nat × Rec} {k : Nat} (h : k < rv.length) : atR (y :: rv) k = atR rv k := by
  rw [atR, beqF (by omega), cond_false]
theorem atR_head {rv : RR} {y : Option Nat × Rec} : atR (y :: rv) rv.length = some y := by simp [atR]
theorem atR_some : ∀ {rv : RR} {k : Nat}, k < rv.length → ∃ x, atR rv k = some x
  | [], k, h => by simp at h
  | y :: r, k, h => by
    by_cases e : k = r.length
    · subst e; exact ⟨y, atR_head⟩
    · obtain ⟨x, hx⟩ := atR_some (rv := r) (k := k) (by simp at h; omega)
      exact ⟨x, by rw [atR_cons (atR_lt hx)]; exact hx⟩
theorem lastW_congr {p q : Nat → Bool} : ∀ {rv : RR}, (∀ k x, atR rv k = some x → f x ≠ none → p k = q k) → lastW p f rv = lastW q f rv
  | [], _ => rfl
  | x :: r, h => by
    have ih := lastW_congr (rv := r) (p := p) (q := q) (fun k y hk => h k y (by rw [atR_cons (atR_lt hk)]; exact hk))
    unfold lastW
    rw [ih]
    cases hf : f x with
    | none => cases p r.length <;> cases q r.length <;> rfl
    | some y => rw [h r.length x atR_head (by rw [hf]; simp)]
theorem lastW_find {p : Nat → Bool} : ∀ {rv : RR} {y : α}, lastW p f rv = some y → ∃ k x, atR rv k = some x ∧ p k = true ∧ f x = some y
  | [], _, h => by cases h
  | x :: r, y, h => by
    have up : lastW p f r = some y → ∃ k x', atR (x :: r) k = some x' ∧ p k = true ∧ f x' = some y := fun h => by
      obtain ⟨k, x', h1, h2⟩ := lastW_find h
      exact ⟨k, x', by rw [atR_cons (atR_lt h1)]; exact h1, h2⟩
    unfold lastW at h
    cases hp : p r.length with
    | false => rw [hp] at h; exact up h
    | true =>
      rw [hp, cond_true] at h
      cases hf : f x with
      | none => rw [hf] at h; exact up h
      | some z => rw [hf] at h; cases h; exact ⟨r.length, x, atR_head, hp, hf⟩
/-- One more has come up, and none behind it that does the same. -/
theorem lastW_more {p q : Nat → Bool} {i : Nat} (hq : ∀ k, q k = (p k || Nat.beq k i)) : ∀ {rv : RR} {x : Option Nat × Rec}, atR rv i = some x → (∀ k y, atR rv k = some y → i < k → p k = true → f x ≠ none → f y = none) →
    lastW q f rv = match f x with | some y => some y | none => lastW p f rv
  | [], _, h, _ => by cases h
  | z :: r, x, h, hl => by
    have hqr : ∀ k, k ≠ i → q k = p k := fun k hk => by rw [hq, beqF hk, Bool.or_false]
    by_cases e : i = r.length
    · subst e
      rw [atR_head] at h
      cases h
      have hqi : q r.length = true := by rw [hq]; simp
      have hc : lastW q f r = lastW p f r := lastW_congr (fun k y hk _ => hqr k (by have := atR_lt hk; omega))
      unfold lastW
      rw [hqi, cond_true, hc]
      cases hf : f z with
      | some y => rfl
      | none => cases p r.length <;> rfl
    · have hi : i < r.length := by have := atR_lt h; simp at this; omega
      have h' : atR r i = some x := by rw [atR_cons hi] at h; exact h
      have ih := lastW_more hq h' (fun k y hk => hl k y (by rw [atR_cons (atR_lt hk)]; exact hk))
      unfold lastW
      rw [hqr r.length (fun e2 => e e2.symm)]
      cases hp : p r.length with
      | false => rw [cond_false, cond_false]; exact ih
      | true =>
        rw [cond_true, cond_true]
        cases hfx : f x with
        | none =>
          cases hfz : f z with
          | some y => rfl
          | none => simp only []; rw [ih, hfx]
        | some y =>
          have := hl r.length z atR_head hi hp (by rw [hfx]; simp)
          rw [this]
          simp only []
          rw [ih, hfx]
end

/-- Which objects an operation looks at; what it does. -/
structure Ev where
  P : Program
  gl : List (Nat × L)
  pins : Nat
  tgs : Oper → List (Option AV) → (Nat → Option MB) → List Nat
  ev : Oper → List (Option AV) → List (Option MB) → Nat → Option Rec
def opnd (E : Ev) (gs : Nat → Option AV) : Operand → Option AV
  | .tmp t => gs t
  | .const v => some (.o (.c (.v v)))
  | .global g => match lookL g E.gl with | some l => some (.o (.c (.rp l 0))) | none => none
  | .func f => some (.o (.c (.v (.func (.func f) #[] #[]))))
def skipR (base : Nat) : Rec := ⟨.o (.c (.v undef)), base, [], [], [], []⟩
def gslot (ops : Array Oper) (o : Oper) : Option Nat := match o.guard with
  | none => none
  | some (j, _) => (ops[j]?).bind (·.dst)
def runE (E : Ev) (o : Oper) (gs : Nat → Option AV) (gm : Nat → Option MB) (base : Nat) : Option Rec :=
  let avs := o.op.operands.toList.map (opnd E gs)
  let tg := E.tgs o avs gm
  match E.ev o avs (tg.map gm) base with
  | some r => some { r with base := base, tg := tg }
  | none => none
def opE (E : Ev) (ops : Array Oper) (o : Oper) (gs : Nat → Option AV) (gm : Nat → Option MB) (base : Nat) : Option Rec := match o.guard with
  | none => runE E o gs gm base
  | some (_, want) => match gslot ops o with
    | none => none
    | some t => match gs t with
      | some (.o (.c (.v (.bool b)))) => match b, want with
        | true, true => runE E o gs gm base
        | false, false => runE E o gs gm base
        | _, _ => some (skipR base)
      | some (.o (.c (.v (.tuple _)))) => some (skipR base)
      | _ => none
def buildR (E : Ev) (ops : Array Oper) (σ : St) : List Oper → RR → Nat → Option RR
  | [], rv, _ => some rv
  | o :: l, rv, base => match opE E ops o (slotOf σ (fun _ => true) rv) (objOf σ (fun _ => true) rv) base with
    | none => none
    | some r => buildR E ops σ l ((o.dst, r) :: rv) (Nat.add base r.news.length)
def tmpsOf : List Operand → List Nat
  | [] => []
  | .tmp t :: r => t :: tmpsOf r
  | _ :: r => tmpsOf r
def readsOf (ops : Array Oper) (o : Oper) : List Nat := (match gslot ops o with | some t => [t] | none => []) ++ tmpsOf o.op.operands.toList
def memB (m : Nat) : List Nat → Bool
  | [] => false
  | k :: r => Nat.beq k m || memB m r
theorem memB_iff {m : Nat} : ∀ {l : List Nat}, memB m l = true ↔ m ∈ l
  | [] => by simp [memB]
  | k :: r => by
    rw [memB, Bool.or_eq_true, memB_iff (l := r), List.mem_cons, Nat.beq_eq]
    exact ⟨fun h => h.imp Eq.symm id, fun h => h.imp Eq.symm id⟩
def Rec.puts (r : Rec) : List Nat := r.wr.map Prod.fst ++ (List.range r.news.length).map (fun j => Nat.add r.base j)
def Rec.names (r : Rec) : List Nat := r.av.idx ++ r.wr.flatMap (fun x => x.2.idx) ++ r.news.flatMap MB.idx
def Rec.made (r : Rec) (m : Nat) : Bool := Nat.ble r.base m && Nat.blt m (Nat.add r.base r.news.length)
/-- Must j come behind i? -/
def clash (ri rj : List Nat) (x y : Option Nat × Rec) : Bool :=
  (match x.1 with | some d => memB d rj | none => false) || (match y.1 with | some d => memB d ri | none => false) || (match x.1, y.1 with | some d, some e => Nat.beq d e | _, _ => false) ||
  x.2.puts.any (fun m => memB m y.2.tg || memB m y.2.puts) || y.2.puts.any (fun m => memB m x.2.tg) || y.2.names.any (fun m => x.2.made m)
theorem lookL_some {α : Type} {m : Nat} : ∀ {l : List (Nat × α)} {x : α}, lookL m l = some x → (m, x) ∈ l
  | [], _, h => by cases h
  | (k, y) :: r, x, h => by
    unfold lookL at h
    by_cases e : k = m
    · subst e; simp at h; subst h; simp
    · rw [beqF e, cond_false] at h
      exact List.mem_cons_of_mem _ (lookL_some h)
theorem put_cases {r : Rec} {m : Nat} {x : MB} (h : r.put m = some x) : (lookL m r.wr = some x) ∨ (lookL m r.wr = none ∧ r.made m = true ∧ r.news[m - r.base]? = some x) := by
  unfold Rec.put at h
  cases hl : lookL m r.wr with
  | some y => rw [hl] at h; exact .inl h
  | none =>
    rw [hl] at h
    simp only [] at h
    by_cases hb : r.base ≤ m
    · rw [show Nat.ble r.base m = true by rw [Nat.ble_eq]; exact hb, cond_true, getL_eq] at h
      refine .inr ⟨rfl, ?_, h⟩
      have := (List.getElem?_eq_some_iff.1 h).1
      simp [Rec.made, hb]; omega
    · rw [bleF hb, cond_false] at h
      cases h
theorem put_mem {r : Rec} {m : Nat} {x : MB} (h : r.put m = some x) : m ∈ r.puts := by
  unfold Rec.puts
  rcases put_cases h with h | ⟨_, h, _⟩
  · exact List.mem_append_left _ (List.mem_map.2 ⟨_, lookL_some h, rfl⟩)
  · refine List.mem_append_right _ (List.mem_map.2 ⟨m - r.base, ?_, ?_⟩)
    · simp [Rec.made] at h; simp; omega
    · simp [Rec.made] at h; show r.base + (m - r.base) = m; omega
theorem names_put {r : Rec} {m : Nat} {x : MB} (h : r.put m = some x) {j : Nat} (hj : j ∈ x.idx) : j ∈ r.names := by
  unfold Rec.names
  rcases put_cases h with h | ⟨_, _, h⟩
  · exact List.mem_append_left _ (List.mem_append_right _ (List.mem_flatMap.2 ⟨_, lookL_some h, hj⟩))
  · exact List.mem_append_right _ (List.mem_flatMap.2 ⟨_, List.mem_of_getElem? h, hj⟩)
theorem not_put {r : Rec} {m : Nat} (h1 : lookL m r.wr = none) (h2 : r.made m = false) : r.put m = none := by
  cases h : r.put m with
  | none => rfl
  | some x =>
    rcases put_cases h with h | ⟨_, h, _⟩
    · rw [h1] at h; cases h
    · rw [h2] at h; cases h
end Go.Proofs.Ythlleheeghiljaa
