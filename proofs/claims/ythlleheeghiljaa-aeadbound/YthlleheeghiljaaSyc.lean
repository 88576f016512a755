/-
  Operations by evaluation: calls by what the callee is known to do; all operations together; a function as a whole. For any program.
-/
import Derived.Test.YthlleheeghiljaaSyp
namespace Go.Proofs.Ythlleheeghiljaa
open Go.RowKit

section
variable {P : Program} {ev : Operand → Value} {o : Oper} {x : Operand} {w : World}
theorem run_lenSl {T e : TypeId} {sp : Option Addr} {n cap : Nat} (ho : o.op = .call { callee := .builtin .len, args := #[x], argTypes := #[T] }) (hT : P.underlying T = some (.slice e)) (hx : ev x = .slice sp n cap) : (execOp ev o).run P w = .ok (.value (.int .i64 n)) w := by
  unfold execOp
  simp [ho, hx, resolve, invoke, builtin, Builtin.len_, run_underlying hT, goInt]
theorem run_lenStr {T : TypeId} {s : ByteArray} (ho : o.op = .call { callee := .builtin .len, args := #[x], argTypes := #[T] }) (hT : P.underlying T = some .string) (hx : ev x = .string s) : (execOp ev o).run P w = .ok (.value (.int .i64 s.size)) w := by
  unfold execOp
  simp [ho, hx, resolve, invoke, builtin, Builtin.len_, run_underlying hT, goInt]
end
section
variable {E : Ev} {o : Oper} {gs : Nat → Option AV} {gm : Nat → Option MB} {base : Nat} {tg : List Nat} {r : Rec}
theorem ok_len {T : TypeId} {x : Operand} (ho : o.op = .call { callee := .builtin .len, args := #[x], argTypes := #[T] }) (h : evLen E.P T [opnd E gs x] = some r) : OpOK E o gs gm base { r with base := base, tg := tg } := by
  have hx : x ∈ o.op.operands := by simp [ho, Op.operands, Call.operands]
  unfold evLen at h
  split at h
  · rename_i c he
    simp only [List.cons.injEq, and_true] at he
    split at h
    · rename_i s hT
      obtain rfl := val_eq h
      exact okVal fun cx β a w hp => ⟨_, run_lenStr ho hT (hp.v hx he), rfl⟩
    · rename_i e sp n cap hT
      obtain rfl := val_eq h
      exact okVal fun cx β a w hp => ⟨_, run_lenSl ho hT (hp.v hx he), rfl⟩
    · rename_i c x0 e c0 hT hne
      split at h
      · rename_i n hn
        obtain rfl := val_eq h
        refine okVal fun cx β a w hp => ?_
        have d := (hp.ops x hx _ he).1
        cases c with
        | os i es n' =>
          cases hn
          rcases d with ⟨_, d2, d3⟩ | ⟨g, s, cap, _, d2, _⟩
          · subst d2; exact ⟨_, run_lenSl ho hT d3, rfl⟩
          · exact ⟨_, run_lenSl ho hT d2, rfl⟩
        | sub i b k n' => cases hn; obtain ⟨sp, cap, d1, _⟩ := d; exact ⟨_, run_lenSl ho hT d1, rfl⟩
        | rs es n' l => cases hn; obtain ⟨sp, cap, d1, _⟩ := d; exact ⟨_, run_lenSl ho hT d1, rfl⟩
        | rss ls => cases hn; obtain ⟨sp, cap, d1, _⟩ := d; exact ⟨_, run_lenSl ho hT d1, rfl⟩
        | _ => cases hn
      · cases h
    · cases h
  · cases h
end
/-- Pairs of which p holds. -/
def All2 {α γ : Type} (p : α → γ → Prop) : List α → List γ → Prop
  | [], [] => True
  | x :: r, y :: s => p x y ∧ All2 p r s
  | _, _ => False
/-- What a callee is known to do: which objects it looks at; what it makes of what it is given. -/
structure Spec where
  f : FuncId
  tg : List AV → (Nat → Option MB) → List Nat
  app : List AV → List (Option MB) → Nat → Option Rec
  gl : List (Nat × L) := []
/-- What is left behind it. -/
def After (cx : Cx) (β : Be) (r : Rec) (w : World) (v : Value) (w' : World) (β' : Be) : Prop :=
  (∀ m, lookL m r.wr = none → r.put m = none → β' m = β m) ∧ (∀ m x, lookL m r.wr = some x → β' m = β m) ∧ DA cx β' r.av v ∧ (∀ m mb, r.put m = some mb → ObjAt cx β' w' m mb) ∧
    (∀ m mb, lookL m r.wr = none → r.put m = some mb → ∀ g n, β' m = some (g, n) → w.heap.size ≤ g ∨ ∃ m' n', lookL m' r.wr = some .dead ∧ β m' = some (g, n')) ∧
    (∀ i j x y, i ≠ j → r.put i = some x → r.put j = some y → x.rw = true → y.live = true → ∀ g n g' n', β' i = some (g, n) → β' j = some (g', n') → g ≠ g') ∧
    Upd (fun g => ∃ m x n, lookL m r.wr = some x ∧ β m = some (g, n)) w w'
def SpecOK (P : Program) (s : Spec) : Prop := ∀ (avs : List AV) (gm : Nat → Option MB) (base : Nat) (r : Rec), s.app avs ((s.tg avs gm).map gm) base = some r → allP r.obl →
  (∀ m x, lookL m r.wr = some x → m ∈ s.tg avs gm ∧ ∃ y, gm m = some y ∧ y.rw = true) ∧
  ∀ (cx : Cx) (β : Be) (w : World) (vs : List Value), Upd cx.W cx.w0 w → (∀ g l, (g, l) ∈ s.gl → Lies cx g 0 l) → All2 (fun av v => DA cx β av v ∧ ∀ j ∈ av.idx, j < base) avs vs →
    (∀ m ∈ s.tg avs gm, ∀ mb, gm m = some mb → ObjAt cx β w m mb ∧ m < base ∧ ∀ j ∈ mb.idx, j < base) →
    (∀ i ∈ s.tg avs gm, ∀ j ∈ s.tg avs gm, ∀ x y, i ≠ j → gm i = some x → gm j = some y → x.rw = true → y.live = true → ∀ g n g' n', β i = some (g, n) → β j = some (g', n') → g ≠ g') →
    Calls P s.f vs.toArray w (fun e w' => ∃ v β', e = .returned v ∧ After cx β { r with base := base, tg := s.tg avs gm } w v w' β')
/-- A function that the model runs itself: what it yields. -/
def ExtOK (P : Program) (s : Spec) : Prop := ∀ (avs : List AV) (cts : List (Option MB)) (base : Nat) (r : Rec), s.app avs cts base = some r → allP r.obl → r.wr = [] ∧ r.news = [] ∧
  ∀ (cx : Cx) (β : Be) (w : World) (vs : List Value), All2 (fun av v => DA cx β av v ∧ ∀ j ∈ av.idx, j < base) avs vs → ∃ v, (callFunc s.f vs.toArray).run P w = .ok (.value v) w ∧ DA cx β r.av v
def unS : List (Option AV) → Option (List AV)
  | [] => some []
  | some x :: r => match unS r with | some l => some (x :: l) | none => none
  | none :: _ => none
def findS (f : Nat) : List Spec → Option Spec
  | [] => none
  | s :: r => bif Nat.beq s.f f then some s else findS f r
theorem findS_mem {f : Nat} : ∀ {l : List Spec} {s : Spec}, findS f l = some s → s ∈ l ∧ s.f = f
  | [], _, h => by cases h
  | t :: r, s, h => by
    unfold findS at h
    by_cases e : t.f = f
    · rw [e, Nat.beq_refl, cond_true] at h; cases h; exact ⟨by simp, e⟩
    · rw [beqF e, cond_false] at h
      have := findS_mem h
      exact ⟨List.mem_cons_of_mem _ this.1, this.2⟩
def capsA : List (Nat × Nat) → List AV
  | [] => []
  | (i, b) :: r => .o (.c (.ptr i b none)) :: capsA r
def evCall (Γ : List Spec) (avs : List (Option AV)) (cts : List (Option MB)) (base : Nat) : Option Rec := match avs with
  | some (.o (.c (.v (.func (.func f) ⟨[]⟩ ⟨[]⟩)))) :: r => match findS f Γ with
    | some s => match unS r with
      | some l => s.app l cts base
      | none => none
    | none => none
  | some (.o (.c (.fn f caps))) :: r => match findS f Γ with
    | some s => match unS r with
      | some l => s.app (l ++ capsA caps) cts base
      | none => none
    | none => none
  | some (.o (.c (.fm f i b))) :: r => match findS f Γ with
    | some s => match unS r with
      | some l => s.app (.o (.c (.ptr i b none)) :: l) cts base
      | none => none
    | none => none
  | _ => none
def tgCall (Γ : List Spec) (avs : List (Option AV)) (gm : Nat → Option MB) : List Nat := match avs with
  | some (.o (.c (.v (.func (.func f) ⟨[]⟩ ⟨[]⟩)))) :: r => match findS f Γ with
    | some s => match unS r with
      | some l => s.tg l gm
      | none => []
    | none => []
  | some (.o (.c (.fn f caps))) :: r => match findS f Γ with
    | some s => match unS r with
      | some l => s.tg (l ++ capsA caps) gm
      | none => []
    | none => []
  | some (.o (.c (.fm f i b))) :: r => match findS f Γ with
    | some s => match unS r with
      | some l => s.tg (.o (.c (.ptr i b none)) :: l) gm
      | none => []
    | none => []
  | _ => []
/-- Can it be called? -/
def entB (P : Program) (f : Nat) : Bool := match P.funcs[f]? with
  | some fn => !(fn.name == "runtime.NumGoroutine") && !fn.body.isNone
  | none => false
theorem run_ent {P : Program} {f : Nat} (h : entB P f = true) (vs : Array Value) (w : World) : (callFunc f vs).run P w = .ok (.enter f vs) w := by
  unfold entB at h
  cases hf : P.funcs[f]? with
  | none => rw [hf] at h; cases h
  | some fn =>
    rw [hf] at h
    simp only [Bool.and_eq_true, Bool.not_eq_true'] at h
    have h1 : fn.name ≠ "runtime.NumGoroutine" := by simpa using h.1
    have h2 : ¬ fn.body = none := by intro h3; rw [h3] at h; cases h.2
    simp [callFunc, go_sem, hf, h1, h2]
section
variable {E : Ev} {o : Oper} {gs : Nat → Option AV} {gm : Nat → Option MB} {base : Nat} {r : Rec}
theorem unS_map {xs : List Operand} : ∀ {l : List AV}, unS (xs.map (opnd E gs)) = some l → All2 (fun x av => opnd E gs x = some av) xs l := by
  induction xs with
  | nil => intro l h; cases h; trivial
  | cons x xs ih =>
    intro l h
    simp only [List.map_cons] at h
    cases hx : opnd E gs x with
    | none => rw [hx] at h; cases h
    | some av =>
      rw [hx] at h
      simp only [unS] at h
      split at h
      · rename_i l' hl'
        cases h
        exact ⟨hx, ih hl'⟩
      · cases h
theorem All2.app {α γ : Type} {p : α → γ → Prop} : ∀ {l l2 : List α} {m m2 : List γ}, All2 p l m → All2 p l2 m2 → All2 p (l ++ l2) (m ++ m2)
  | [], _, [], _, _, h => h
  | _ :: _, _, _ :: _, _, h, h2 => ⟨h.1, All2.app h.2 h2⟩
  | [], _, _ :: _, _, h, _ => h.elim
  | _ :: _, _, [], _, h, _ => h.elim
theorem capsA_all {cx : Cx} {β : Be} {base : Nat} : ∀ {caps : List (Nat × Nat)} {vs : List Value}, vs.length = caps.length → (∀ (j : Nat) (p : Nat × Nat), caps[j]? = some p → ∃ g s, β p.1 = some (g, s) ∧ vs[j]? = some (.pointer (some ⟨g, p.2, none⟩))) → (∀ j ∈ caps.map Prod.fst, j < base) →
    All2 (fun av v => DA cx β av v ∧ ∀ j ∈ av.idx, j < base) (capsA caps) vs
  | [], [], _, _, _ => trivial
  | (i, b) :: r, v :: vs, h1, h2, h3 => by
    refine ⟨⟨?_, fun j hj => ?_⟩, capsA_all (by simpa using h1) (fun j p hp => by simpa using h2 (j + 1) p (by simpa using hp)) (fun j hj => h3 j (by simp at hj ⊢; exact .inr hj))⟩
    · obtain ⟨g, s, e1, e2⟩ := h2 0 (i, b) (by simp)
      exact ⟨g, s, e1, by simpa [kz] using e2⟩
    · simp only [AV.idx, T1.idx, C.idx, List.mem_singleton] at hj
      subst hj
      exact h3 j (by simp)
  | [], _ :: _, h, _, _ => by simp at h
  | _ :: _, [], h, _, _ => by simp at h
/-- A contract that may be used. -/
def GoodS (P : Program) (gl : List (Nat × L)) (s : Spec) : Prop := (SpecOK P s ∧ entB P s.f = true ∧ ∀ x ∈ s.gl, x ∈ gl) ∨ ExtOK P s
theorem ok_call {Γ : List Spec} (hΓ : ∀ s ∈ Γ, GoodS E.P E.gl s) {c : Operand} {args : Array Operand} {ts : Array TypeId} (ho : o.op = .call { callee := .value c, args := args, argTypes := ts }) {tg : List Nat} (htg : tgCall Γ (opnd E gs c :: args.toList.map (opnd E gs)) gm = tg)
    (h : evCall Γ (opnd E gs c :: args.toList.map (opnd E gs)) (tg.map gm) base = some r) (hobl : allP r.obl) : OpOK E o gs gm base { r with base := base, tg := tg } := by
  have args_all : ∀ {l : List AV} {cx : Cx} {β : Be} {a : Act} {w : World}, Pre E cx β o gs gm base tg a w → unS (args.toList.map (opnd E gs)) = some l → All2 (fun av v => DA cx β av v ∧ ∀ j ∈ av.idx, j < base) l (args.toList.map a.eval) := by
    intro l cx β a w hp hl
    have key : ∀ (xs : List Operand) (l : List AV), (∀ x ∈ xs, x ∈ o.op.operands) → All2 (fun x av => opnd E gs x = some av) xs l → All2 (fun av v => DA cx β av v ∧ ∀ j ∈ av.idx, j < base) l (xs.map a.eval) := by
      intro xs
      induction xs with
      | nil =>
        intro l _ h
        cases l with
        | nil => trivial
        | cons _ _ => exact h.elim
      | cons x xs ih =>
        intro l hx h
        cases l with
        | nil => exact h.elim
        | cons av l =>
          obtain ⟨q1, q2⟩ := h
          exact ⟨hp.ops x (hx x (by simp)) av q1, ih l (fun y hy => hx y (by simp [hy])) q2⟩
    exact key args.toList l (fun x hx => by simp [ho, Op.operands, Call.operands]; exact .inr (by simpa using hx)) (unS_map hl)
  have core : ∀ {s : Spec} {avl : List AV}, s ∈ Γ → s.tg avl gm = tg → s.app avl (tg.map gm) base = some r → (∀ cx β a w, Pre E cx β o gs gm base tg a w → ∃ fs vs : List Value, a.eval c = .func (.func s.f) fs.toArray vs.toArray ∧ All2 (fun av v => DA cx β av v ∧ ∀ j ∈ av.idx, j < base) avl (fs ++ (args.toList.map a.eval ++ vs))) → OpOK E o gs gm base { r with base := base, tg := tg } := by
    intro s avl hmem ht happ hvs
    subst ht
    rcases hΓ s hmem with ⟨hok, hent, hsub⟩ | hext
    case inr =>
      obtain ⟨e1, e2, e3⟩ := hext avl _ base r happ hobl
      obtain ⟨av, b0, news, wr, tg0, obl⟩ := r
      simp only [] at e1 e2
      subst e1 e2
      refine okVal fun cx β a w hp => ?_
      obtain ⟨fs, vs, hev, hD⟩ := hvs cx β a w hp
      obtain ⟨v, h1, h2⟩ := e3 cx β w _ hD
      refine ⟨v, ?_, h2⟩
      have hargs : args.map a.eval = (args.toList.map a.eval).toArray := by apply Array.ext'; simp
      have e3 : (fs.toArray ++ args.map a.eval) ++ vs.toArray = (fs ++ (args.toList.map a.eval ++ vs)).toArray := by rw [hargs]; simp
      generalize a.eval = ev at hev e3 h1 ⊢
      unfold execOp
      simp only [ho, resolve, Sem.run_bind, hev, Deferred.ofValue, Sem.run_pure, Result.andThen_ok, invoke, e3]
      exact h1
    obtain ⟨h1, h2⟩ := hok avl gm base r happ hobl
    refine ⟨h1, fun cx β a w Q hp K hK => ?_⟩
    obtain ⟨fs, vs, hev, hD⟩ := hvs cx β a w hp
    have hcall := h2 cx β w (fs ++ (args.toList.map a.eval ++ vs)) hp.upd (fun g l hg => hp.glob g l (hsub _ hg)) hD hp.obj hp.ap
    have hargs : args.map a.eval = (args.toList.map a.eval).toArray := by apply Array.ext'; simp
    unfold Oper.wp
    have hrun : (execOp a.eval o).run E.P w = .ok (.enter s.f (fs ++ (args.toList.map a.eval ++ vs)).toArray) w := by
      have e3 : (fs.toArray ++ args.map a.eval) ++ vs.toArray = (fs ++ (args.toList.map a.eval ++ vs)).toArray := by rw [hargs]; simp
      generalize a.eval = ev at hev e3 ⊢
      unfold execOp
      simp only [ho, resolve, Sem.run_bind, hev, Deferred.ofValue, Sem.run_pure, Result.andThen_ok, invoke, e3]
      exact run_ent hent _ w
    rw [hrun, Oper.upon_enter]
    refine hcall.mono ?_
    rintro e w' ⟨v, β', rfl, q1, q2, q3, q4, q5, q6, q7⟩
    exact hK v w' β' q1 q2 q3 q4 q5 q6 q7
  have hcm : c ∈ o.op.operands := by simp [ho, Op.operands, Call.operands]
  unfold evCall at h
  split at h
  · rename_i f r0 he
    simp only [List.cons.injEq] at he
    obtain ⟨hc, rfl⟩ := he
    unfold tgCall at htg
    rw [hc] at htg
    simp only [] at htg
    split at h
    · rename_i s hs
      rw [hs] at htg
      simp only [] at htg
      split at h
      · rename_i l hl
        rw [hl] at htg
        simp only [] at htg
        obtain ⟨hmem, rfl⟩ := findS_mem hs
        refine core hmem htg h (fun cx β a w hp => ⟨[], [], hp.v hcm hc, ?_⟩)
        rw [List.nil_append, List.append_nil]
        exact args_all hp hl
      · cases h
    · cases h
  · rename_i f caps r0 he
    simp only [List.cons.injEq] at he
    obtain ⟨hc, rfl⟩ := he
    unfold tgCall at htg
    rw [hc] at htg
    simp only [] at htg
    split at h
    · rename_i s hs
      rw [hs] at htg
      simp only [] at htg
      split at h
      · rename_i l hl
        rw [hl] at htg
        simp only [] at htg
        obtain ⟨hmem, rfl⟩ := findS_mem hs
        refine core hmem htg h (fun cx β a w hp => ?_)
        obtain ⟨⟨vs, d1, d2, d3⟩, d4⟩ := hp.ops c hcm _ hc
        exact ⟨[], vs, d1, (args_all hp hl).app (capsA_all d2 d3 d4)⟩
      · cases h
    · cases h
  · rename_i f i b r0 he
    simp only [List.cons.injEq] at he
    obtain ⟨hc, rfl⟩ := he
    unfold tgCall at htg
    rw [hc] at htg
    simp only [] at htg
    split at h
    · rename_i s hs
      rw [hs] at htg
      simp only [] at htg
      split at h
      · rename_i l hl
        rw [hl] at htg
        simp only [] at htg
        obtain ⟨hmem, rfl⟩ := findS_mem hs
        refine core hmem htg h (fun cx β a w hp => ?_)
        obtain ⟨⟨g, s', d1, d2⟩, d4⟩ := hp.ops c hcm _ hc
        refine ⟨[.pointer (some ⟨g, b, none⟩)], [], d2, ?_⟩
        rw [List.append_nil]
        exact ⟨⟨⟨g, s', d1, by simp [kz]⟩, fun j hj => d4 j hj⟩, args_all hp hl⟩
      · cases h
    · cases h
  · cases h
end
end Go.Proofs.Ythlleheeghiljaa
