/-
  Code by evaluation: from what is known at its beginning to what must be shown. For any program.
-/
import Derived.Test.YthlleheeghiljaaSy5
namespace Go.Proofs.Ythlleheeghiljaa
open Go.RowKit

/-- What is to be shown of a bool ahead of its use. -/
def forceR (fc : Nat → Option Bool) (o : Oper) (x : Option Rec) : Option Rec := match o.dst with
  | some d => match fc d with
    | some c => match x with
      | some ⟨.o (.c (.v (.bool b))), base, news, wr, tg, obl⟩ => some ⟨.o (.c (.v (.bool c))), base, news, wr, tg, (b = c) :: obl⟩
      | _ => none
    | none => x
  | none => x
theorem forceR_eq {fc : Nat → Option Bool} {o : Oper} {x : Option Rec} {r : Rec} (h : forceR fc o x = some r) (ho : allP r.obl) : ∃ r1, x = some r1 ∧ allP r1.obl ∧ r = { r1 with obl := r.obl } := by
  unfold forceR at h
  split at h
  · split at h
    · split at h
      · cases h
        have ho := allP_cons.1 ho
        exact ⟨_, rfl, ho.2, by rw [ho.1]⟩
      · cases h
    · exact ⟨r, h, ho, rfl⟩
  · exact ⟨r, h, ho, rfl⟩
/-- The same evaluator, to which the bool of slot t is said ahead. -/
def forceE (E : Ev) (t : Nat) (b : Bool) : Ev := ⟨E.P, E.gl, E.pins, E.tgs, fun o avs cts base => forceR (fun d => bif Nat.beq d t then some b else none) o (E.ev o avs cts base)⟩
theorem forceE_ok {E : Ev} {t : Nat} {b : Bool} (h : EvOK E) : EvOK (forceE E t b) := by
  intro o gs gm base r hr hobl
  have hr' : (match forceR (fun d => bif Nat.beq d t then some b else none) o (E.ev o (o.op.operands.toList.map (opnd E gs)) ((E.tgs o (o.op.operands.toList.map (opnd E gs)) gm).map gm) base) with | some r => some { r with base := base, tg := E.tgs o (o.op.operands.toList.map (opnd E gs)) gm } | none => none) = some r := hr
  split at hr'
  · rename_i r0 hr0
    cases hr'
    obtain ⟨r1, h1, h2, h3⟩ := forceR_eq hr0 hobl
    have := h o gs gm base { r1 with base := base, tg := E.tgs o (o.op.operands.toList.map (opnd E gs)) gm } (by unfold runE; simp only [h1]) h2
    rw [h3]
    exact this
  · cases hr'
inductive Ex where
  | normal
  | exit (id : Nat)
  | ret
def Ex.up : Ex → Exit
  | .normal => .normal
  | .exit i => .exit i
  | .ret => .ret
def kindB : IntKind → IntKind → Bool
  | .i8, .i8 => true
  | .i16, .i16 => true
  | .i32, .i32 => true
  | .i64, .i64 => true
  | .u8, .u8 => true
  | .u16, .u16 => true
  | .u32, .u32 => true
  | .u64, .u64 => true
  | _, _ => false
theorem kindB_eq {a b : IntKind} (h : kindB a b = true) : a = b := by cases a <;> cases b <;> first | rfl | cases h
def eqLL : L → L → List Prop
  | .i k l, .i k' l' => cond (kindB k k') [l = l'] [False]
  | .v l, .v l' => [l = l']
  | _, _ => [False]
theorem eqLL_eq {a b : L} (h : allP (eqLL a b)) : a = b := by
  cases a <;> cases b <;> simp only [eqLL] at h
  · rename_i k l k' l'
    cases hk : kindB k k' with
    | false => rw [hk] at h; exact h.elim
    | true =>
      rw [hk] at h
      have h' : l = l' := h
      rw [kindB_eq hk, h']
  · exact h.elim
  · exact h.elim
  · have h' : _ = _ := h
    rw [h']
/-- One state is as another asks, which names its objects by ren. -/
def eqCaps (ren : List Nat) : List (Nat × Nat) → List (Nat × Nat) → List Prop
  | [], [] => []
  | (i, b) :: r, (j, c) :: s => (getL ren j = some i) :: (b = c) :: eqCaps ren r s
  | _, _ => [False]
theorem eqCaps_ok {ren : List Nat} : ∀ {l m : List (Nat × Nat)}, allP (eqCaps ren l m) → l.length = m.length ∧ ∀ (j : Nat) (p : Nat × Nat), m[j]? = some p → ∃ i, l[j]? = some (i, p.2) ∧ getL ren p.1 = some i
  | [], [], _ => ⟨rfl, fun j p h => by simp at h⟩
  | (i, b) :: r, (k, c) :: s, h => by
    rw [eqCaps, allP_cons, allP_cons] at h
    obtain ⟨h1, rfl, h2⟩ := h
    obtain ⟨h3, h4⟩ := eqCaps_ok h2
    refine ⟨by simp [h3], fun j p hp => ?_⟩
    cases j with
    | zero => simp at hp; subst hp; exact ⟨i, by simp, h1⟩
    | succ j => simp at hp; obtain ⟨i', h5, h6⟩ := h4 j p hp; exact ⟨i', by simpa using h5, h6⟩
  | [], _ :: _, h => h.elim
  | _ :: _, [], h => h.elim
def eqC (ren : List Nat) : C → C → List Prop
  | .v x, .v y => [x = y]
  | .v x, .q φ => [φ x]
  | .q φ, .q ψ => [∀ v, φ v → ψ v]
  | .ptr i b k, .ptr j b' k' => [getL ren j = some i, b + kz k = b' + kz k']
  | .sub i b k n, .sub j b' k' n' => [getL ren j = some i, b + k = b' + k', n = n']
  | .os i es n, .os j es' n' => [getL ren j = some i, es = es', n = n']
  | .rs es n l, .rs es' n' l' => [es = es', n = n'] ++ eqLL l l'
  | .rp l k, .rp l' k' => (k = k') :: eqLL l l'
  | .fn f caps, .fn f' caps' => (f = f') :: eqCaps ren caps caps'
  | .rss l, .rss l' => [l = l']
  | .rsp l, .rsp l' => [l = l']
  | .fm f i b, .fm f' j b' => [f = f', getL ren j = some i, b = b']
  | _, .q ψ => [∀ v, ψ v]
  | _, _ => [False]
def oneS : C → Option (List Int × List Prop)
  | .rs 1 n (.i .u8 l) => some (l, [n = l.length])
  | .v (.slice none 0 0) => some ([], [])
  | _ => none
/-- Cells that are slices of bytes that came in, all of them, as lists. -/
def gath : List Seg → Option (List (List Int) × List Prop)
  | [] => some ([], [])
  | [.rsv x] => some (x, [])
  | .rsv x :: r => match gath r with
    | some (ls, o) => some (x ++ ls, o)
    | none => none
  | .one c :: r => match oneS c with
    | some (l, o) => match gath r with
      | some (ls, o') => some (l :: ls, o ++ o')
      | none => none
    | none => none
  | .many _ _ :: _ => none
def eqL (ren : List Nat) : List Seg → List Seg → List Prop
  | [], [] => []
  | l, [.rsv y] => match gath l with
    | some (x, o) => (x = y) :: o
    | none => [False]
  | .one c :: r, .one d :: s => eqC ren c d ++ eqL ren r s
  | .many n l :: r, .many m k :: s => (n = m) :: (eqLL l k ++ eqL ren r s)
  | .rsv x :: r, .rsv y :: s => (x = y) :: eqL ren r s
  | _, _ => [False]
def eqT (ren : List Nat) : T1 → T1 → List Prop
  | .c x, .c y => eqC ren x y
  | .g s, .g t => eqL ren s t
  | _, _ => [False]
def eqTs (ren : List Nat) : List T1 → List T1 → List Prop
  | [], [] => []
  | x :: r, y :: s => eqT ren x y ++ eqTs ren r s
  | _, _ => [False]
def eqA (ren : List Nat) : AV → AV → List Prop
  | .o x, .o y => eqT ren x y
  | .t l, .t k => eqTs ren l k
  | _, _ => [False]
def eqM (ren : List Nat) : MB → MB → List Prop
  | _, .dead => []
  | .fix t s, .fix t' s' => (t = t') :: eqL ren s s'
  | .ro t s, .ro t' s' => (t = t') :: eqL ren s s'
  | .grow t es l, .grow t' es' l' => [t = t', es = es'] ++ eqLL l l'
  | .gs t s, .gs t' s' => (t = t') :: eqL ren s s'
  | _, _ => [False]
def eqSlots (ren : List Nat) (σ : St) : List (Nat × AV) → List Prop
  | [] => []
  | (t, y) :: r => (match σ.gs t with | some x => eqA ren x y | none => [False]) ++ eqSlots ren σ r
def eqMem (ren : List Nat) (σ : St) : List Nat → List MB → List Prop
  | _, [] => []
  | i :: is, y :: r => (match σ.gm i with | some x => eqM ren x y | none => [False]) ++ eqMem ren σ is r
  | [], _ :: _ => [False]
def nodupB : List Nat → Bool
  | [] => true
  | x :: r => !memB x r && nodupB r
/-- Is i there, for an object that lives? -/
def memM (i : Nat) : List Nat → List MB → Bool
  | k :: r, m :: ms => (m.live && Nat.beq k i) || memM i r ms
  | _, _ => false
/-- No two objects that live are one. -/
def nodupM : List Nat → List MB → Bool
  | i :: r, m :: ms => (!m.live || !memM i r ms) && nodupM r ms
  | _, _ => true
theorem memM_of {i : Nat} : ∀ {l : List Nat} {ms : List MB} {k : Nat} {m : MB}, getL l k = some i → getL ms k = some m → m.live = true → memM i l ms = true
  | [], _, _, _, h, _, _ => by cases h
  | _ :: _, [], _, _, _, h, _ => by cases h
  | a :: r, b :: ms, 0, m, h, h2, h3 => by
    cases h; cases h2
    simp [memM, h3]
  | a :: r, b :: ms, k + 1, m, h, h2, h3 => by
    rw [memM, memM_of (k := k) (l := r) (ms := ms) h h2 h3, Bool.or_true]
theorem nodupM_get : ∀ {l : List Nat} {ms : List MB}, nodupM l ms = true → ∀ {i j x : Nat} {m m' : MB}, getL l i = some x → getL l j = some x → getL ms i = some m → getL ms j = some m' → m.live = true → m'.live = true → i = j
  | [], _, _, _, _, _, _, _, h, _, _, _, _, _ => by cases h
  | _ :: _, [], _, _, _, _, _, _, _, _, h, _, _, _ => by cases h
  | a :: r, b :: ms, hb, i, j, x, m, m', hi, hj, hm, hm', hl, hl' => by
    rw [nodupM, Bool.and_eq_true, Bool.or_eq_true, Bool.not_eq_true', Bool.not_eq_true'] at hb
    match i, j, hi, hj, hm, hm' with
    | 0, 0, _, _, _, _ => rfl
    | 0, j + 1, hi, hj, hm, hm' =>
      cases hi; cases hm
      have := memM_of (l := r) (ms := ms) (k := j) hj hm' hl'
      rcases hb.1 with h | h
      · rw [hl] at h; cases h
      · rw [this] at h; cases h
    | i + 1, 0, hi, hj, hm, hm' =>
      cases hj; cases hm'
      have := memM_of (l := r) (ms := ms) (k := i) hi hm hl
      rcases hb.1 with h | h
      · rw [hl'] at h; cases h
      · rw [this] at h; cases h
    | i + 1, j + 1, hi, hj, hm, hm' => rw [nodupM_get hb.2 (i := i) (j := j) hi hj hm hm' hl hl']
theorem MB.rw_live {m : MB} (h : m.rw = true) : m.live = true := by cases m <;> first | rfl | cases h
/-- σ is as τ asks. -/
def pinB (ren : List Nat) : Nat → Bool
  | 0 => true
  | n + 1 => (match getL ren n with | some i => Nat.beq i n | none => false) && pinB ren n
theorem pinB_get {ren : List Nat} : ∀ {n : Nat}, pinB ren n = true → ∀ j, j < n → getL ren j = some j
  | 0, _, _, h => absurd h (by omega)
  | n + 1, h, j, hj => by
    rw [pinB, Bool.and_eq_true] at h
    by_cases e : j = n
    · subst e
      cases hg : getL ren j with
      | none => rw [hg] at h; cases h.1
      | some i => rw [hg] at h; rw [Nat.eq_of_beq_eq_true h.1]
    · exact pinB_get h.2 j (by omega)
def impP (pins : Nat) (ren : List Nat) (σ τ : St) : List Prop :=
  [pinB ren pins = true, nodupM ren τ.mem = true, σ.n = τ.n] ++ eqSlots ren σ τ.slots ++ eqMem ren σ ren τ.mem
def ren0 (ren : List Nat) (β : Be) : Be := fun j => match getL ren j with | some i => β i | none => none
section
variable {cx : Cx} {β : Be} {ren : List Nat}
theorem eqC_ok {x y : C} (h : allP (eqC ren x y)) {v : Value} (d : DC cx β x v) : DC cx (ren0 ren β) y v := by
  cases y
  case q ψ =>
    cases x <;> simp only [eqC, allP] at h
    all_goals first | exact h v d | exact h v | (have e : v = _ := d; subst e; exact h)
  all_goals cases x <;> simp only [eqC, allP] at h
  · subst h; exact d
  · obtain ⟨h1, h2⟩ := h
    obtain ⟨g, s, h3, h4⟩ := d
    exact ⟨g, s, by simp [ren0, h1, h3], by rw [h4, h2]⟩
  · obtain ⟨h1, h2, rfl⟩ := h
    obtain ⟨sp, cap, h3, h4, h5, h6⟩ := d
    refine ⟨sp, cap, h3, h4, h5, fun hn => ?_⟩
    obtain ⟨g, s, h7, h8⟩ := h6 hn
    exact ⟨g, s, by simp [ren0, h1, h7], by rw [h8, h2]⟩
  · obtain ⟨h1, rfl, rfl⟩ := h
    rcases d with ⟨h3, h4⟩ | ⟨g, s, cap, h3, h4⟩
    · exact .inl ⟨by simp [ren0, h1, h3], h4⟩
    · exact .inr ⟨g, s, cap, by simp [ren0, h1, h3], h4⟩
  · rename_i es n l es' n' l'
    rw [allP_append] at h
    obtain ⟨⟨rfl, rfl⟩, h⟩ := h
    rw [← eqLL_eq h]; exact d
  · rw [allP_cons] at h
    obtain ⟨rfl, h2⟩ := h
    rw [← eqLL_eq h2]; exact d
  · rw [allP_cons] at h
    obtain ⟨rfl, h2⟩ := h
    obtain ⟨h3, h4⟩ := eqCaps_ok h2
    obtain ⟨vs, d1, d2, d3⟩ := d
    refine ⟨vs, d1, by omega, fun j p hp => ?_⟩
    obtain ⟨i, h5, h6⟩ := h4 j p hp
    obtain ⟨g, s, h7, h8⟩ := d3 j (i, p.2) h5
    exact ⟨g, s, by simp [ren0, h6, h7], h8⟩
  · subst h; exact d
  · subst h; exact d
  · obtain ⟨rfl, h1, rfl⟩ := h
    obtain ⟨g, s, h3, h4⟩ := d
    exact ⟨g, s, by simp [ren0, h1, h3], h4⟩
theorem oneS_ok {c : C} {l : List Int} {o : List Prop} (h : oneS c = some (l, o)) (ho : allP o) {v : Value} (d : DC cx β c v) (h1 : v.oneCell' = true) : RB cx l v := by
  unfold oneS at h
  split at h
  · cases h
    obtain rfl : _ = _ := ho
    exact ⟨h1, d⟩
  · cases h
    have e : v = .slice none 0 0 := d
    exact ⟨h1, none, 0, e, Nat.le_refl _, Nat.zero_le _, rfl, fun h0 => absurd h0 (Nat.lt_irrefl 0)⟩
  · cases h
theorem gath_ok : ∀ {s : List Seg} {x : List (List Int)} {o : List Prop}, gath s = some (x, o) → allP o → ∀ {l : List Value}, DL cx β s l → RBs cx x l
  | [], x, o, h, _, l, d => by
    cases h
    have e : l = [] := d
    subst e; exact trivial
  | [.rsv y], x, o, h, _, l, d => by
    cases h
    obtain ⟨vs, l', h1, h2, h3⟩ := d
    have e : l' = [] := h3
    subst e
    rw [h1, List.append_nil]; exact h2
  | .rsv y :: z :: r, x, o, h, ho, l, d => by
    rw [gath] at h
    · split at h
      · rename_i ls o' hg
        cases h
        obtain ⟨vs, l', h1, h2, h3⟩ := d
        rw [h1]
        exact h2.app (gath_ok hg ho h3)
      · cases h
    · intro h2; cases h2
  | .one c :: r, x, o, h, ho, l, d => by
    rw [gath] at h
    obtain ⟨v, l', h1, h2, h3, h4⟩ := d
    split at h
    · rename_i k ok hk
      split at h
      · rename_i ls o' hg
        cases h
        rw [allP_append] at ho
        rw [h1]
        exact ⟨oneS_ok hk ho.1 h2 h3, gath_ok hg ho.2 h4⟩
      · cases h
    · cases h
  | .many _ _ :: _, _, _, h, _, _, _ => by cases h
theorem eqL_ok : ∀ {s t : List Seg}, allP (eqL ren s t) → ∀ {l : List Value}, DL cx β s l → DL cx (ren0 ren β) t l
  | [], [], _, _, d => d
  | s, [.rsv y], h, l, d => by
    have h' : allP (match gath s with | some (x, o) => (x = y) :: o | none => [False]) := by
      cases s with
      | nil => exact h
      | cons a s => cases a <;> exact h
    split at h'
    · rename_i x o hg
      rw [allP_cons] at h'
      obtain ⟨rfl, ho⟩ := h'
      exact ⟨l, [], (List.append_nil l).symm, gath_ok hg ho d, rfl⟩
    · exact h'.elim
  | .one c :: r, .one e :: s, h, _, ⟨v, l', h1, h2, h3, h4⟩ => by
    rw [eqL, allP_append] at h
    exact ⟨v, l', h1, eqC_ok h.1 h2, h3, eqL_ok h.2 h4⟩
  | .many n l :: r, .many m k :: s, h, _, ⟨l', h1, h2, h3, h4⟩ => by
    rw [eqL, allP_cons, allP_append] at h
    obtain ⟨rfl, h', h⟩ := h
    rw [← eqLL_eq h']
    exact ⟨l', h1, h2, h3, eqL_ok h h4⟩
  | [], .one _ :: _, h, _, _ => h.elim
  | [], .many _ _ :: _, h, _, _ => h.elim
  | [], .rsv _ :: _ :: _, h, _, _ => h.elim
  | .one _ :: _, [], h, _, _ => h.elim
  | .many _ _ :: _, [], h, _, _ => h.elim
  | .one _ :: _, .many _ _ :: _, h, _, _ => h.elim
  | .many _ _ :: _, .one _ :: _, h, _, _ => h.elim
  | .rsv _ :: _, .rsv _ :: _ :: _, h, _, ⟨vs, l', h1, h2, h3⟩ => by
    rw [eqL, allP_cons] at h
    · obtain ⟨rfl, h⟩ := h
      exact ⟨vs, l', h1, h2, eqL_ok h h3⟩
    · intro h2; cases h2
  | .rsv _ :: _, [], h, _, _ => h.elim
  | .rsv _ :: _, .one _ :: _, h, _, _ => h.elim
  | .rsv _ :: _, .many _ _ :: _, h, _, _ => h.elim
  | .one _ :: _, .rsv _ :: _ :: _, h, _, _ => h.elim
  | .many _ _ :: _, .rsv _ :: _ :: _, h, _, _ => h.elim
theorem eqT_ok {x y : T1} (h : allP (eqT ren x y)) {v : Value} (d : D1 cx β x v) : D1 cx (ren0 ren β) y v := by
  cases x <;> cases y
  · exact eqC_ok h d
  · exact h.elim
  · exact h.elim
  · obtain ⟨arr, h1, h2⟩ := d; exact ⟨arr, h1, eqL_ok h h2⟩
theorem eqTs_ok : ∀ {s t : List T1}, allP (eqTs ren s t) → ∀ {l : List Value}, DT cx β s l → DT cx (ren0 ren β) t l
  | [], [], _, _, d => d
  | _ :: _, _ :: _, h, _, ⟨v, l', h1, h2, h3⟩ => by
    rw [eqTs, allP_append] at h
    exact ⟨v, l', h1, eqT_ok h.1 h2, eqTs_ok h.2 h3⟩
  | [], _ :: _, h, _, _ => h.elim
  | _ :: _, [], h, _, _ => h.elim
theorem eqA_ok {x y : AV} (h : allP (eqA ren x y)) {v : Value} (d : DA cx β x v) : DA cx (ren0 ren β) y v := by
  cases x <;> cases y
  · exact eqT_ok h d
  · exact h.elim
  · exact h.elim
  · obtain ⟨vs, h1, h2⟩ := d; exact ⟨vs, h1, eqTs_ok h h2⟩
theorem eqM_ok {w : World} {i j : Nat} (hij : getL ren j = some i) {x y : MB} (h : allP (eqM ren x y)) (d : ObjAt cx β w i x) : ObjAt cx (ren0 ren β) w j y := by
  have hr : ren0 ren β j = β i := by simp [ren0, hij]
  cases x <;> cases y <;> try exact trivial
  all_goals first | exact h.elim | skip
  · rw [eqM, allP_cons] at h
    obtain ⟨rfl, h⟩ := h
    obtain ⟨g, n, arr, h1, h2, h3, h4, h5⟩ := d
    exact ⟨g, n, arr, hr.trans h1, h2, h3, h4, eqL_ok h h5⟩
  · rw [eqM, allP_cons] at h
    obtain ⟨rfl, h⟩ := h
    obtain ⟨g, n, arr, h1, h2, h2', h3, h4, h5⟩ := d
    exact ⟨g, n, arr, hr.trans h1, h2, h2', h3, h4, eqL_ok h h5⟩
  · rw [eqM, allP_append] at h
    obtain ⟨⟨rfl, rfl⟩, h⟩ := h
    rw [← eqLL_eq h]
    rcases d with ⟨h1, h2⟩ | ⟨g, n, arr, h1, h2⟩
    · exact .inl ⟨hr.trans h1, h2⟩
    · exact .inr ⟨g, n, arr, hr.trans h1, h2⟩
  · rename_i t s t' s'
    rw [eqM, allP_cons] at h
    obtain ⟨rfl, h⟩ := h
    rcases d with ⟨h1, h2⟩ | ⟨g, n, arr, m, h1, h2, h3, h4, h5, h6⟩
    · exact .inl ⟨hr.trans h1, eqL_ok h h2⟩
    · exact .inr ⟨g, n, arr, m, hr.trans h1, h2, h3, h4, h5, eqL_ok h h6⟩
theorem eqM_rw {x y : MB} (h : allP (eqM ren x y)) (hr : y.rw = true) : x.rw = true := by
  cases y <;> cases hr <;> cases x <;> first | rfl | exact h.elim
theorem eqM_live {x y : MB} (h : allP (eqM ren x y)) (hr : y.live = true) : x.live = true := by
  cases y <;> cases hr <;> cases x <;> first | rfl | exact h.elim
theorem eqSlots_ok {σ : St} : ∀ {l : List (Nat × AV)}, allP (eqSlots ren σ l) → ∀ t y, lookL t l = some y → ∃ x, σ.gs t = some x ∧ allP (eqA ren x y)
  | [], _, _, _, h => by cases h
  | (k, z) :: r, h, t, y, ht => by
    rw [eqSlots, allP_append] at h
    unfold lookL at ht
    by_cases e : k = t
    · subst e
      simp only [Nat.beq_refl, cond_true, Option.some.injEq] at ht
      subst ht
      cases hs : σ.gs k with
      | none => rw [hs] at h; exact h.1.elim
      | some x => rw [hs] at h; exact ⟨x, rfl, h.1⟩
    · rw [beqF e, cond_false] at ht
      exact eqSlots_ok h.2 t y ht
theorem eqMem_ok {σ : St} : ∀ {is : List Nat} {l : List MB}, allP (eqMem ren σ is l) → ∀ j y, getL l j = some y → ∃ i x, getL is j = some i ∧ σ.gm i = some x ∧ allP (eqM ren x y)
  | _, [], _, _, _, h => by cases h
  | [], _ :: _, h, _, _, _ => h.elim
  | i :: is, z :: r, h, 0, y, hy => by
    rw [eqMem, allP_append] at h
    cases hy
    cases hs : σ.gm i with
    | none => rw [hs] at h; exact h.1.elim
    | some x => rw [hs] at h; exact ⟨i, x, rfl, hs, h.1⟩
  | i :: is, z :: r, h, j + 1, y, hy => by
    rw [eqMem, allP_append] at h
    exact eqMem_ok h.2 j y hy
theorem nodupB_get : ∀ {l : List Nat}, nodupB l = true → ∀ i j x, getL l i = some x → getL l j = some x → i = j
  | [], _, _, _, _, h, _ => by cases h
  | y :: r, hb, i, j, x, hi, hj => by
    rw [nodupB, Bool.and_eq_true, Bool.not_eq_true'] at hb
    have hno : ∀ k, getL r k = some y → False := fun k hk => by
      have := memB_iff.2 (getL_mem hk).1
      rw [hb.1] at this; cases this
    match i, j, hi, hj with
    | 0, 0, _, _ => rfl
    | 0, j + 1, hi, hj => cases hi; exact (hno j hj).elim
    | i + 1, 0, hi, hj => cases hj; exact (hno i hi).elim
    | i + 1, j + 1, hi, hj => rw [nodupB_get hb.2 i j x hi hj]
theorem imp_ok {σ τ : St} {a : Act} {w : World} (h : allP (impP cx.pins ren σ τ)) (H : Holds cx β σ.n σ.gs σ.gm a w) : Holds cx (ren0 ren β) τ.n τ.gs τ.gm a w := by
  rw [impP, allP_append, allP_append] at h
  obtain ⟨⟨⟨hpn, hnd, hn⟩, hs⟩, hm⟩ := h
  refine ⟨H.upd, H.glob, fun j hj => by unfold ren0; rw [pinB_get hpn j hj]; exact H.pin j hj, H.defers, by rw [← hn]; exact H.size, fun t y ht => ?_, fun j y hj => ?_, fun i j x y hij hx hy hr hl g n g' n' hg hg' => ?_⟩
  · obtain ⟨x, h1, h2⟩ := eqSlots_ok hs t y ht
    obtain ⟨v, h3, h4⟩ := H.slot t x h1
    exact ⟨v, h3, eqA_ok h2 h4⟩
  · obtain ⟨i, x, h1, h2, h3⟩ := eqMem_ok hm j y hj
    exact eqM_ok h1 h3 (H.obj i x h2)
  · obtain ⟨i1, x1, h1, h2, h3⟩ := eqMem_ok hm i x hx
    obtain ⟨j1, y1, h4, h5, h6⟩ := eqMem_ok hm j y hy
    have e1 : ren0 ren β i = β i1 := by simp [ren0, h1]
    have e2 : ren0 ren β j = β j1 := by simp [ren0, h4]
    rw [e1] at hg
    rw [e2] at hg'
    exact H.apart i1 j1 x1 y1 (fun e => hij (nodupM_get hnd h1 (e ▸ h4) hx hy (MB.rw_live hr) hl)) h2 h5 (eqM_rw h3 hr) (eqM_live h6 hl) g n g' n' hg hg'
end

/-- The object that a slot's slice owns. -/
def slotObj (σ : St) (t : Nat) : Nat := match σ.gs t with
  | some (.o (.c (.os j _ _))) => j
  | _ => 0
/-- From 5000000 on: what the slot's slice owns. -/
def reN (σ : St) : List Nat → List Nat
  | [] => []
  | i :: r => (bif Nat.ble 5000000 i then slotObj σ (Nat.sub i 5000000) else i) :: reN σ r
/-- Either of two. -/
inductive Alt2 (p q : Prop) : Prop where
  | l (h : p)
  | r (h : q)
/-- How a loop is taken: round by round, so many at most; or by what holds ahead of each round. Or (asked at 1000000 and a region's number) a region both ways, by a slot's bool. -/
inductive Ann : Type 1 where
  | rounds (n : Nat)
  | inv (α : Type) (st : α → St) (μ : α → Nat) (ren : List Nat) (back : List Nat)
  | peel (α : Type) (st : α → St) (μ : α → Nat) (ren : List Nat) (back : List Nat)
  | alt (t : Nat)
def firstR : Code → Nat
  | .region id _ _ => id
  | .seq a _ => firstR a
  | .block _ a => firstR a
  | .loop a => firstR a
  | _ => 0
def loopN (f : St → (Ex → St → Prop) → Prop) : Nat → St → (Ex → St → Prop) → Prop
  | 0, _, _ => False
  | n + 1, σ, K => f σ (fun e σ' => match e with | .normal => loopN f n σ' K | .exit i => K (.exit i) σ' | .ret => K .ret σ')
structure FnE where
  E : Ev
  keep : List Nat
  ann : Nat → St → Ann
def regP (E : Ev) (keep : List Nat) (ops : Array Oper) (draw : Bool) (σ : St) (K : Ex → St → Prop) : Prop := match regionE E keep ops draw σ with
  | some (σ', obl) => allP (obl ++ [K .normal σ'])
  | none => False
def wpE (F : FnE) : Code → St → (Ex → St → Prop) → Prop
  | .skip, σ, K => K .normal σ
  | .region id ops draw, σ, K => match F.ann (Nat.add 1000000 id) σ with
    | .alt t => Alt2 (regP (forceE F.E t true) F.keep ops draw σ K) (regP (forceE F.E t false) F.keep ops draw σ K)
    | _ => regP F.E F.keep ops draw σ K
  | .seq a b, σ, K => wpE F a σ (fun e σ' => match e with | .normal => wpE F b σ' K | .exit i => K (.exit i) σ' | .ret => K .ret σ')
  | .cond c a b, σ, K => match opnd F.E σ.gs c with
    | some (.o (.c (.v (.bool t)))) => cond t (wpE F a σ K) (wpE F b σ K)
    | _ => False
  | .block id c, σ, K => wpE F c σ (fun e σ' => match e with | .normal => K .normal σ' | .exit i => cond (Nat.beq i id) (K .normal σ') (K (.exit i) σ') | .ret => K .ret σ')
  | .exit id, σ, K => K (.exit id) σ
  | .label _, σ, K => K .normal σ
  | .ret, σ, K => K .ret σ
  | .loop c, σ, K => match F.ann (firstR c) σ with
    | .rounds n => loopN (wpE F c) n σ K
    | .inv _ st μ ren back => (∃ x, allP (impP F.E.pins (reN σ ren) σ (st x))) ∧ ∀ x, wpE F c (st x) (fun e σ' => match e with
      | .normal => ∃ y, allP (impP F.E.pins (reN σ' back) σ' (st y)) ∧ μ y < μ x
      | .exit i => K (.exit i) σ'
      | .ret => K .ret σ')
    | .peel _ st μ ren back => wpE F c σ (fun e σ' => match e with
      | .normal => ∃ x, allP (impP F.E.pins (reN σ' ren) σ' (st x))
      | .exit i => K (.exit i) σ'
      | .ret => K .ret σ') ∧ ∀ x, wpE F c (st x) (fun e σ' => match e with
      | .normal => ∃ y, allP (impP F.E.pins (reN σ' back) σ' (st y)) ∧ μ y < μ x
      | .exit i => K (.exit i) σ'
      | .ret => K .ret σ')
    | .alt _ => False
  | _, _, _ => False
/-- A loop whose first round is taken by itself. -/
theorem wp_loop_peel {P : Program} {Q : Exit → Act → World → Prop} {a : Act} {w : World} {c : Code} (I : Act → World → Prop) (μ : Act → World → Nat) (h₀ : c.wp P (Exit.then (fun a' w' => I a' w') Q) a w)
    (round : ∀ a w, I a w → c.wp P (Exit.then (fun a' w' => I a' w' ∧ μ a' w' < μ a w) Q) a w) : (Code.loop c).wp P Q a w := by
  intro b k cs
  have key : ∀ n a w, μ a w = n → I a w →
      ∃ e a' w', Q e a' w' ∧ Arrives P (lone (b.at a (.code c :: .inLoop c :: k)) cs w) b k cs e a' w' := by
    intro n
    induction n using Nat.strongRecOn with
    | _ n ih =>
      intro a w hn hI
      obtain ⟨e, a₁, w₁, hq, harr⟩ := round a w hI b (.inLoop c :: k) cs
      cases e with
      | normal =>
        obtain ⟨hI₁, hlt⟩ := hq
        obtain ⟨e₂, a₂, w₂, hq₂, harr₂⟩ := ih (μ a₁ w₁) (hn ▸ hlt) a₁ w₁ rfl hI₁
        exact ⟨e₂, a₂, w₂, hq₂, .of_steps (Steps.trans harr (.one step_inLoop)) harr₂⟩
      | exit id => exact ⟨_, a₁, w₁, hq, .pass (x := .inLoop c) rfl (fun _ _ => .inl (by simp)) harr⟩
      | goto l => exact ⟨_, a₁, w₁, hq, .pass (x := .inLoop c) rfl (fun _ _ => .inl (by simp)) harr⟩
      | ret => exact ⟨_, a₁, w₁, hq, .pass (x := .inLoop c) rfl (fun _ _ => .inl (by simp)) harr⟩
      | panic ch => exact ⟨_, a₁, w₁, hq, .pass (x := .inLoop c) rfl (fun _ _ => .inl (by simp)) harr⟩
      | outgrown => exact ⟨_, a₁, w₁, hq, .pass (x := .inLoop c) rfl (fun _ _ => .inl (by simp)) harr⟩
  suffices hs : ∃ e a' w', Q e a' w' ∧ Arrives P (lone (b.at a (.code c :: .inLoop c :: k)) cs w) b k cs e a' w' by
    obtain ⟨e, a', w', hq, harr⟩ := hs
    exact ⟨e, a', w', hq, .of_steps (.one step_loop) harr⟩
  obtain ⟨e, a₁, w₁, hq, harr⟩ := h₀ b (.inLoop c :: k) cs
  cases e with
  | normal =>
    obtain ⟨e₂, a₂, w₂, hq₂, harr₂⟩ := key _ a₁ w₁ rfl hq
    exact ⟨e₂, a₂, w₂, hq₂, .of_steps (Steps.trans harr (.one step_inLoop)) harr₂⟩
  | exit id => exact ⟨_, a₁, w₁, hq, .pass (x := .inLoop c) rfl (fun _ _ => .inl (by simp)) harr⟩
  | goto l => exact ⟨_, a₁, w₁, hq, .pass (x := .inLoop c) rfl (fun _ _ => .inl (by simp)) harr⟩
  | ret => exact ⟨_, a₁, w₁, hq, .pass (x := .inLoop c) rfl (fun _ _ => .inl (by simp)) harr⟩
  | panic ch => exact ⟨_, a₁, w₁, hq, .pass (x := .inLoop c) rfl (fun _ _ => .inl (by simp)) harr⟩
  | outgrown => exact ⟨_, a₁, w₁, hq, .pass (x := .inLoop c) rfl (fun _ _ => .inl (by simp)) harr⟩
theorem wpE_ok {F : FnE} {cx : Cx} (hE : EvOK F.E) (hm : F.E.P.follows .mixedOrders = true) (hgl : cx.gl = F.E.gl ∧ cx.pins = F.E.pins) : ∀ (c : Code) (σ : St) (K : Ex → St → Prop) (β : Be) (a : Act) (w : World), wpE F c σ K → Holds cx β σ.n σ.gs σ.gm a w →
    c.wp F.E.P (fun e a' w' => ∃ e' σ' β', e = Ex.up e' ∧ K e' σ' ∧ Holds cx β' σ'.n σ'.gs σ'.gm a' w') a w := by
  intro c
  induction c with
  | skip => intro σ K β a w h H; exact wp_skip ⟨.normal, σ, β, rfl, h, H⟩
  | label l => intro σ K β a w h H; exact wp_label ⟨.normal, σ, β, rfl, h, H⟩
  | exit id => intro σ K β a w h H; exact wp_exit ⟨.exit id, σ, β, rfl, h, H⟩
  | ret => intro σ K β a w h H; exact wp_ret ⟨.ret, σ, β, rfl, h, H⟩
  | region id ops draw =>
    intro σ K β a w h H
    have step : ∀ E' : Ev, EvOK E' → E'.P = F.E.P → E'.gl = F.E.gl → E'.pins = F.E.pins → regP E' F.keep ops draw σ K → (Code.region id ops draw).wp F.E.P (fun e a' w' => ∃ e' σ' β', e = Ex.up e' ∧ K e' σ' ∧ Holds cx β' σ'.n σ'.gs σ'.gm a' w') a w := by
      intro E' hE' eP eg ep h
      unfold regP at h
      split at h
      · rename_i σ' obl hr
        rw [allP_append] at h
        rw [← eP]
        exact region_ok hE' (by rw [eP]; exact hm) (by rw [eg, ep]; exact hgl) hr h.1 H (fun β' a' w' H' => ⟨.normal, σ', β', rfl, h.2, H'⟩)
      · exact h.elim
    unfold wpE at h
    split at h
    · rename_i t _
      cases h with
      | l h => exact step _ (forceE_ok hE) rfl rfl rfl h
      | r h => exact step _ (forceE_ok hE) rfl rfl rfl h
    · exact step _ hE rfl rfl rfl h
  | seq x y ihx ihy =>
    intro σ K β a w h H
    unfold wpE at h
    refine wp_seq (wp_mono (ihx _ _ β a w h H) ?_)
    rintro e a' w' ⟨e', σ', β', rfl, hk, H'⟩
    cases e' with
    | normal => exact ihy _ _ β' a' w' hk H'
    | exit i => exact ⟨.exit i, σ', β', rfl, hk, H'⟩
    | ret => exact ⟨.ret, σ', β', rfl, hk, H'⟩
  | cond c x y ihx ihy =>
    intro σ K β a w h H
    unfold wpE at h
    split at h
    · rename_i t hc
      have hev : a.eval c = .bool t := by
        cases c with
        | tmp s =>
          obtain ⟨v, h1, h2⟩ := H.slot s _ hc
          have h2' : v = .bool t := h2
          simp [Act.eval, Array.getD_eq_getD_getElem?, h1, h2']
        | const v => simp only [opnd, Option.some.injEq, AV.o.injEq, T1.c.injEq, C.v.injEq] at hc; simp [Act.eval, hc]
        | global g => simp only [opnd] at hc; split at hc <;> cases hc
        | func f => simp [opnd] at hc
      cases t with
      | true => exact wp_cond_true hev (ihx _ _ β a w h H)
      | false => exact wp_cond_false hev (ihy _ _ β a w h H)
    · exact h.elim
  | block id x ih =>
    intro σ K β a w h H
    unfold wpE at h
    refine wp_block (wp_mono (ih _ _ β a w h H) ?_)
    rintro e a' w' ⟨e', σ', β', rfl, hk, H'⟩
    cases e' with
    | normal => exact ⟨.normal, σ', β', rfl, hk, H'⟩
    | exit i =>
      show Exit.inBlock id _ (.exit i) a' w'
      unfold Exit.inBlock
      by_cases e : i = id
      · subst e
        simp only [Nat.beq_refl, cond_true] at hk
        simp only [if_true]
        exact ⟨.normal, σ', β', rfl, hk, H'⟩
      · simp only [beqF e, cond_false] at hk
        simp only [e, if_false]
        exact ⟨.exit i, σ', β', rfl, hk, H'⟩
    | ret => exact ⟨.ret, σ', β', rfl, hk, H'⟩
  | loop x ih =>
    intro σ K β a w h H
    unfold wpE at h
    split at h
    · rename_i n _
      refine wp_loop (fun a w => ∃ m σ β, loopN (wpE F x) m σ K ∧ Holds cx β σ.n σ.gs σ.gm a w) (fun a w => Classical.epsilon fun m => (∃ σ β, loopN (wpE F x) m σ K ∧ Holds cx β σ.n σ.gs σ.gm a w) ∧ ∀ m' < m, ¬ ∃ σ β, loopN (wpE F x) m' σ K ∧ Holds cx β σ.n σ.gs σ.gm a w) ⟨n, σ, β, h, H⟩ ?_
      have hmin : ∀ a w, (∃ m σ β, loopN (wpE F x) m σ K ∧ Holds cx β σ.n σ.gs σ.gm a w) → ∃ m, (∃ σ β, loopN (wpE F x) m σ K ∧ Holds cx β σ.n σ.gs σ.gm a w) ∧ ∀ m' < m, ¬ ∃ σ β, loopN (wpE F x) m' σ K ∧ Holds cx β σ.n σ.gs σ.gm a w := by
        rintro a w ⟨m, hm⟩
        exact exists_min (p := fun m => ∃ σ β, loopN (wpE F x) m σ K ∧ Holds cx β σ.n σ.gs σ.gm a w) hm
      intro a w hI
      have hspec := Classical.epsilon_spec (hmin a w hI)
      generalize (Classical.epsilon fun m => (∃ σ β, loopN (wpE F x) m σ K ∧ Holds cx β σ.n σ.gs σ.gm a w) ∧ ∀ m' < m, ¬ ∃ σ β, loopN (wpE F x) m' σ K ∧ Holds cx β σ.n σ.gs σ.gm a w) = m at hspec ⊢
      obtain ⟨⟨σ, β, hl, H⟩, _⟩ := hspec
      cases m with
      | zero => exact hl.elim
      | succ m =>
        unfold loopN at hl
        refine wp_mono (ih _ _ β a w hl H) ?_
        rintro e a' w' ⟨e', σ', β', rfl, hk, H'⟩
        cases e' with
        | normal =>
          refine ⟨⟨m, σ', β', hk, H'⟩, ?_⟩
          have hs2 := Classical.epsilon_spec (hmin a' w' ⟨m, σ', β', hk, H'⟩)
          refine Nat.lt_succ_of_le (Nat.le_of_not_lt fun hlt => hs2.2 m hlt ⟨σ', β', hk, H'⟩)
        | exit i => exact ⟨.exit i, σ', β', rfl, hk, H'⟩
        | ret => exact ⟨.ret, σ', β', rfl, hk, H'⟩
    · rename_i α st μ ren back _
      obtain ⟨⟨x0, h0⟩, hround⟩ := h
      refine wp_loop (fun a w => ∃ y β, Holds cx β (st y).n (st y).gs (st y).gm a w) (fun a w => Classical.epsilon fun m => (∃ y β, μ y = m ∧ Holds cx β (st y).n (st y).gs (st y).gm a w) ∧ ∀ m' < m, ¬ ∃ y β, μ y = m' ∧ Holds cx β (st y).n (st y).gs (st y).gm a w) ⟨x0, _, imp_ok (by rw [hgl.2]; exact h0) H⟩ ?_
      have hmin : ∀ a w, (∃ y β, Holds cx β (st y).n (st y).gs (st y).gm a w) → ∃ m, (∃ y β, μ y = m ∧ Holds cx β (st y).n (st y).gs (st y).gm a w) ∧ ∀ m' < m, ¬ ∃ y β, μ y = m' ∧ Holds cx β (st y).n (st y).gs (st y).gm a w := by
        rintro a w ⟨y, β, hm⟩
        exact exists_min (p := fun m => ∃ y β, μ y = m ∧ Holds cx β (st y).n (st y).gs (st y).gm a w) (j := μ y) ⟨y, β, rfl, hm⟩
      intro a w hI
      have hspec := Classical.epsilon_spec (hmin a w hI)
      generalize (Classical.epsilon fun m => (∃ y β, μ y = m ∧ Holds cx β (st y).n (st y).gs (st y).gm a w) ∧ ∀ m' < m, ¬ ∃ y β, μ y = m' ∧ Holds cx β (st y).n (st y).gs (st y).gm a w) = m at hspec ⊢
      obtain ⟨⟨y, β, rfl, H⟩, _⟩ := hspec
      refine wp_mono (ih _ _ β a w (hround y) H) ?_
      rintro e a' w' ⟨e', σ', β', rfl, hk, H'⟩
      cases e' with
      | normal =>
        obtain ⟨z, h1, h2⟩ := hk
        have H2 := imp_ok (cx := cx) (by rw [hgl.2]; exact h1) H'
        refine ⟨⟨z, _, H2⟩, ?_⟩
        have hs2 := Classical.epsilon_spec (hmin a' w' ⟨z, _, H2⟩)
        refine Nat.lt_of_le_of_lt (Nat.le_of_not_lt fun hlt => hs2.2 (μ z) hlt ⟨z, _, rfl, H2⟩) h2
      | exit i => exact ⟨.exit i, σ', β', rfl, hk, H'⟩
      | ret => exact ⟨.ret, σ', β', rfl, hk, H'⟩
    · rename_i α st μ ren back _
      obtain ⟨h0, hround⟩ := h
      refine wp_loop_peel (fun a w => ∃ y β, Holds cx β (st y).n (st y).gs (st y).gm a w) (fun a w => Classical.epsilon fun m => (∃ y β, μ y = m ∧ Holds cx β (st y).n (st y).gs (st y).gm a w) ∧ ∀ m' < m, ¬ ∃ y β, μ y = m' ∧ Holds cx β (st y).n (st y).gs (st y).gm a w) (wp_mono (ih _ _ β a w h0 H) ?_) ?_
      · rintro e a' w' ⟨e', σ', β', rfl, hk, H'⟩
        cases e' with
        | normal =>
          obtain ⟨x0, h1⟩ := hk
          exact ⟨x0, _, imp_ok (cx := cx) (by rw [hgl.2]; exact h1) H'⟩
        | exit i => exact ⟨.exit i, σ', β', rfl, hk, H'⟩
        | ret => exact ⟨.ret, σ', β', rfl, hk, H'⟩
      have hmin : ∀ a w, (∃ y β, Holds cx β (st y).n (st y).gs (st y).gm a w) → ∃ m, (∃ y β, μ y = m ∧ Holds cx β (st y).n (st y).gs (st y).gm a w) ∧ ∀ m' < m, ¬ ∃ y β, μ y = m' ∧ Holds cx β (st y).n (st y).gs (st y).gm a w := by
        rintro a w ⟨y, β, hm⟩
        exact exists_min (p := fun m => ∃ y β, μ y = m ∧ Holds cx β (st y).n (st y).gs (st y).gm a w) (j := μ y) ⟨y, β, rfl, hm⟩
      intro a w hI
      have hspec := Classical.epsilon_spec (hmin a w hI)
      generalize (Classical.epsilon fun m => (∃ y β, μ y = m ∧ Holds cx β (st y).n (st y).gs (st y).gm a w) ∧ ∀ m' < m, ¬ ∃ y β, μ y = m' ∧ Holds cx β (st y).n (st y).gs (st y).gm a w) = m at hspec ⊢
      obtain ⟨⟨y, β, rfl, H⟩, _⟩ := hspec
      refine wp_mono (ih _ _ β a w (hround y) H) ?_
      rintro e a' w' ⟨e', σ', β', rfl, hk, H'⟩
      cases e' with
      | normal =>
        obtain ⟨z, h1, h2⟩ := hk
        have H2 := imp_ok (cx := cx) (by rw [hgl.2]; exact h1) H'
        refine ⟨⟨z, _, H2⟩, ?_⟩
        have hs2 := Classical.epsilon_spec (hmin a' w' ⟨z, _, H2⟩)
        refine Nat.lt_of_le_of_lt (Nat.le_of_not_lt fun hlt => hs2.2 (μ z) hlt ⟨z, _, rfl, H2⟩) h2
      | exit i => exact ⟨.exit i, σ', β', rfl, hk, H'⟩
      | ret => exact ⟨.ret, σ', β', rfl, hk, H'⟩
    · exact h.elim
  | rangeFunc f p x y _ _ => intro σ K β a w h; exact h.elim
  | scope x _ => intro σ K β a w h; exact h.elim
  | goto l => intro σ K β a w h; exact h.elim
  | refuse s => intro σ K β a w h; exact h.elim
end Go.Proofs.Ythlleheeghiljaa
