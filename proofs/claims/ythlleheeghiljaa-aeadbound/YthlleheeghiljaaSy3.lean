/-
  A region, whatever its order: each operation in its turn. For any program.
-/
import Derived.Test.YthlleheeghiljaaSy2
namespace Go.Proofs.Ythlleheeghiljaa
open Go.RowKit

/-- The evaluator says what operations do. -/
def EvOK (E : Ev) : Prop := ∀ (o : Oper) (gs : Nat → Option AV) (gm : Nat → Option MB) (base : Nat) (r : Rec), runE E o gs gm base = some r → allP r.obl →
  (∀ m x, lookL m r.wr = some x → m ∈ r.tg ∧ ∃ y, gm m = some y ∧ y.rw = true) ∧
  ∀ (cx : Cx) (β : Be) (a : Act) (w : World) (Q : Exit → Act → World → Prop), Upd cx.W cx.w0 w → (∀ g l, (g, l) ∈ E.gl → Lies cx g 0 l) → (∀ x ∈ o.op.operands, ∀ av, opnd E gs x = some av → DA cx β av (a.eval x) ∧ ∀ j ∈ av.idx, j < base) →
    (∀ m ∈ r.tg, ∀ mb, gm m = some mb → ObjAt cx β w m mb ∧ m < base ∧ ∀ j ∈ mb.idx, j < base) →
    (∀ i ∈ r.tg, ∀ j ∈ r.tg, ∀ x y, i ≠ j → gm i = some x → gm j = some y → x.rw = true → y.live = true → ∀ g n g' n', β i = some (g, n) → β j = some (g', n') → g ≠ g') → Does E.P cx β o r a w Q

structure Reg (E : Ev) (σ : St) (ops : Array Oper) (dep : Nat → Nat → Bool) (rv : RR) (n0 : Nat) : Prop where
  pos : ∀ i x, atR rv i = some x → ∃ o, ops[i]? = some o ∧ x.1 = o.dst ∧ opE E ops o (slotOf σ (fun k => Nat.blt k i) rv) (objOf σ (fun k => Nat.blt k i) rv) x.2.base = some x.2
  len : rv.length = ops.size
  base0 : ∀ i x, atR rv i = some x → n0 ≤ x.2.base
  mono : ∀ i j x y, i < j → atR rv i = some x → atR rv j = some y → x.2.base + x.2.news.length ≤ y.2.base
  names : ∀ i x, atR rv i = some x → ∀ m ∈ x.2.names, m < x.2.base + x.2.news.length
  putsLt : ∀ i x, atR rv i = some x → ∀ m y, x.2.put m = some y → m < x.2.base + x.2.news.length
  snames : ∀ t av, σ.gs t = some av → ∀ m ∈ av.idx, m < n0
  mnames : ∀ m mb, σ.gm m = some mb → m < n0 ∧ ∀ j ∈ mb.idx, j < n0
  pins : E.pins ≤ n0
  dst : ∀ i x d, atR rv i = some x → x.1 = some d → d < σ.n
  order : ∀ i j x y oi oj, i < j → atR rv i = some x → atR rv j = some y → ops[i]? = some oi → ops[j]? = some oj → clash (readsOf ops oi) (readsOf ops oj) x y = true → dep j i = true
  obl : ∀ i x, atR rv i = some x → allP x.2.obl
theorem blt_iff {k i : Nat} : Nat.blt k i = true ↔ k < i := by simp [Nat.blt_eq]
section
variable {E : Ev} {σ : St} {ops : Array Oper} {dep : Nat → Nat → Bool} {rv : RR} {n0 : Nat} {cx : Cx} {S S' : Nat → Bool} {i : Nat} {o : Oper} {x : Option Nat × Rec} {a : Act} {w : World}
theorem fS_some {t : Nat} {x : Option Nat × Rec} : fS t x ≠ none ↔ x.1 = some t := by
  unfold fS
  cases hx : x.1 with
  | none => simp
  | some d =>
    by_cases e : d = t
    · subst e; simp
    · simp only []
      rw [beqF e]; simp [e]
theorem fS_eq {t : Nat} {x : Option Nat × Rec} {av : AV} (h : fS t x = some av) : x.1 = some t ∧ av = x.2.av := by
  have h1 := fS_some.1 (by rw [h]; simp)
  refine ⟨h1, ?_⟩
  simp only [fS, h1, Nat.beq_refl, cond_true, Option.some.injEq] at h
  exact h.symm
/-- The order that a clash asks for. -/
theorem Reg.no_later (R : Reg E σ ops dep rv n0) (hi : atR rv i = some x) (ho : ops[i]? = some o) (hnot : S i = false) (hcl : ∀ j k, S j = true → dep j k = true → S k = true) {k : Nat} {y : Option Nat × Rec} {ok : Oper} (hk : atR rv k = some y) (hok : ops[k]? = some ok) (hik : i < k) (hS : S k = true)
    (hc : clash (readsOf ops o) (readsOf ops ok) x y = true) : False := by
  have := hcl k i hS (R.order i k x y o ok hik hi hk ho hok hc)
  rw [hnot] at this; cases this
theorem Reg.agree (R : Reg E σ ops dep rv n0) (hi : atR rv i = some x) (ho : ops[i]? = some o) (hnot : S i = false) (hdep : ∀ k, dep i k = true → S k = true) (hcl : ∀ j k, S j = true → dep j k = true → S k = true) :
    (∀ t, t ∈ readsOf ops o → slotOf σ S rv t = slotOf σ (fun k => Nat.blt k i) rv t) ∧ (∀ m, m ∈ x.2.tg → objOf σ S rv m = objOf σ (fun k => Nat.blt k i) rv m) := by
  have key : ∀ (k : Nat) (y : Option Nat × Rec) (ok : Oper), atR rv k = some y → ops[k]? = some ok → (k < i → clash (readsOf ops ok) (readsOf ops o) y x = true) → (i < k → clash (readsOf ops o) (readsOf ops ok) x y = true) → S k = Nat.blt k i := by
    intro k y ok hk hok h1 h2
    rcases Nat.lt_trichotomy k i with h | h | h
    · rw [blt_iff.2 h]; exact hdep k (R.order k i y x ok o h hk hi hok ho (h1 h))
    · subst h
      rw [hnot]
      cases hb : Nat.blt k k with
      | false => rfl
      | true => exact absurd (blt_iff.1 hb) (by omega)
    · have hb : Nat.blt k i = false := by
        cases hb : Nat.blt k i with
        | false => rfl
        | true => exact absurd (blt_iff.1 hb) (by omega)
      rw [hb]
      cases hS : S k with
      | false => rfl
      | true => exact (R.no_later hi ho hnot hcl hk hok h hS (h2 h)).elim
  constructor
  · intro t ht
    unfold slotOf
    rw [lastW_congr (q := fun k => Nat.blt k i) (fun k y hk hf => ?_)]
    have hd := fS_some.1 hf
    obtain ⟨ok, hok, _, _⟩ := R.pos k y hk
    refine key k y ok hk hok (fun _ => ?_) (fun _ => ?_)
    · simp [clash, hd, memB_iff.2 ht]
    · simp [clash, hd, memB_iff.2 ht]
  · intro m hm
    unfold objOf
    rw [lastW_congr (q := fun k => Nat.blt k i) (fun k y hk hf => ?_)]
    obtain ⟨z, hz⟩ := Option.ne_none_iff_exists'.1 hf
    have hp := put_mem hz
    obtain ⟨ok, hok, _, _⟩ := R.pos k y hk
    refine key k y ok hk hok (fun _ => ?_) (fun _ => ?_)
    · have : y.2.puts.any (fun m => memB m x.2.tg || memB m x.2.puts) = true := List.any_eq_true.2 ⟨m, hp, by rw [memB_iff.2 hm]; rfl⟩
      simp only [clash, this, Bool.or_true, Bool.true_or]
    · have : y.2.puts.any (fun m => memB m x.2.tg) = true := List.any_eq_true.2 ⟨m, hp, memB_iff.2 hm⟩
      simp only [clash, this, Bool.or_true, Bool.true_or]
/-- What is known with those of S, is in the names that were there ahead of i, or came up apart from it. -/
theorem Reg.fresh (R : Reg E σ ops dep rv n0) (hi : atR rv i = some x) (ho : ops[i]? = some o) (hnot : S i = false) (hcl : ∀ j k, S j = true → dep j k = true → S k = true) :
    (∀ t av, slotOf σ S rv t = some av → ∀ m ∈ av.idx, x.2.made m = false) ∧ (∀ q mb, objOf σ S rv q = some mb → x.2.made q = false ∧ ∀ m ∈ mb.idx, x.2.made m = false) := by
  have low : ∀ m, m < n0 → x.2.made m = false := fun m hm => by
    have := R.base0 i x hi
    unfold Rec.made
    rw [bleF (by omega)]; rfl
  have key : ∀ (k : Nat) (y : Option Nat × Rec), atR rv k = some y → S k = true → ∀ m ∈ y.2.names, x.2.made m = false := by
    intro k y hk hS m hm
    obtain ⟨ok, hok, _, _⟩ := R.pos k y hk
    rcases Nat.lt_trichotomy k i with h | h | h
    · have h1 := R.names k y hk m hm
      have h2 := R.mono k i y x h hk hi
      unfold Rec.made
      rw [bleF (by omega)]; rfl
    · subst h; rw [hnot] at hS; cases hS
    · cases hq : x.2.made m with
      | false => rfl
      | true =>
        refine (R.no_later hi ho hnot hcl hk hok h hS ?_).elim
        have : y.2.names.any (fun m => x.2.made m) = true := List.any_eq_true.2 ⟨m, hm, hq⟩
        simp only [clash, this, Bool.or_true]
  constructor
  · intro t av h m hm
    unfold slotOf at h
    cases hl : lastW S (fS t) rv with
    | none => rw [hl] at h; exact low m (R.snames t av h m hm)
    | some y =>
      rw [hl] at h; cases h
      obtain ⟨k, z, h1, h2, h3⟩ := lastW_find hl
      refine key k z h1 h2 m ?_
      rw [(fS_eq h3).2] at hm
      exact List.mem_append_left _ (List.mem_append_left _ hm)
  · intro q mb h
    unfold objOf at h
    cases hl : lastW S (fM q) rv with
    | none => rw [hl] at h; have := R.mnames q mb h; exact ⟨low q this.1, fun m hm => low m (this.2 m hm)⟩
    | some y =>
      rw [hl] at h; cases h
      obtain ⟨k, z, h1, h2, h3⟩ := lastW_find hl
      refine ⟨?_, fun m hm => key k z h1 h2 m (names_put h3 hm)⟩
      obtain ⟨ok, hok, _, _⟩ := R.pos k z h1
      rcases Nat.lt_trichotomy k i with h | h | h
      · have h4 := R.putsLt k z h1 q _ h3
        have h5 := R.mono k i z x h h1 hi
        unfold Rec.made
        rw [bleF (by omega)]; rfl
      · subst h; rw [hnot] at h2; cases h2
      · cases hq : x.2.made q with
        | false => rfl
        | true =>
          refine (R.no_later hi ho hnot hcl h1 hok h h2 ?_).elim
          have hm2 : q ∈ x.2.puts := by
            unfold Rec.puts
            refine List.mem_append_right _ (List.mem_map.2 ⟨q - x.2.base, ?_, ?_⟩)
            · simp [Rec.made] at hq; simp; omega
            · simp [Rec.made] at hq; show x.2.base + (q - x.2.base) = q; omega
          have : x.2.puts.any (fun m => memB m z.2.tg || memB m z.2.puts) = true := List.any_eq_true.2 ⟨q, hm2, by rw [memB_iff.2 (put_mem h3), Bool.or_true]⟩
          simp only [clash, this, Bool.or_true, Bool.true_or]
/-- One more operation has come up. -/
theorem Reg.put (R : Reg E σ ops dep rv n0) (hi : atR rv i = some x) (ho : ops[i]? = some o) (hnot : S i = false) (hcl : ∀ j k, S j = true → dep j k = true → S k = true) (hS' : ∀ k, S' k = (S k || Nat.beq k i)) (hgl : cx.gl = E.gl ∧ cx.pins = E.pins)
    {β : Be} (H : Holds cx β σ.n (slotOf σ S rv) (objOf σ S rv) a w) (hwr : ∀ m z, lookL m x.2.wr = some z → ∃ y, objOf σ S rv m = some y ∧ y.rw = true) {v : Value} {w' : World} {β' : Be}
    (e1 : ∀ m, lookL m x.2.wr = none → x.2.put m = none → β' m = β m) (e2 : ∀ m z, lookL m x.2.wr = some z → β' m = β m) (hv : DA cx β' x.2.av v) (hobj : ∀ m mb, x.2.put m = some mb → ObjAt cx β' w' m mb)
    (hnew : ∀ m mb, lookL m x.2.wr = none → x.2.put m = some mb → ∀ g n, β' m = some (g, n) → w.heap.size ≤ g ∨ ∃ m' n', lookL m' x.2.wr = some .dead ∧ β m' = some (g, n'))
    (hap : ∀ i j p q, i ≠ j → x.2.put i = some p → x.2.put j = some q → p.rw = true → q.live = true → ∀ g n g' n', β' i = some (g, n) → β' j = some (g', n') → g ≠ g')
    (hu : Upd (fun g => ∃ m z n, lookL m x.2.wr = some z ∧ β m = some (g, n)) w w') :
    Holds cx β' σ.n (slotOf σ S' rv) (objOf σ S' rv) (a.put o.dst v) w' := by
  obtain ⟨F1, F2⟩ := R.fresh hi ho hnot hcl
  obtain ⟨o', ho', hdst, _⟩ := R.pos i x hi
  obtain rfl : o' = o := Option.some.inj (ho'.symm.trans ho)
  have sl : ∀ t, slotOf σ S' rv t = if x.1 = some t then some x.2.av else slotOf σ S rv t := by
    intro t
    unfold slotOf
    rw [lastW_more hS' hi (fun k y hk hik hS hf => ?_)]
    · by_cases e : x.1 = some t
      · rw [if_pos e, show fS t x = some x.2.av by simp [fS, e]]
      · rw [if_neg e]
        cases hf : fS t x with
        | none => rfl
        | some z => exact absurd (fS_some.1 (by rw [hf]; simp)) e
    · cases hy : fS t y with
      | none => rfl
      | some z =>
        obtain ⟨ok, hok, _, _⟩ := R.pos k y hk
        refine (R.no_later hi ho hnot hcl hk hok hik hS ?_).elim
        have h1 := fS_some.1 hf
        have h2 := (fS_eq hy).1
        simp [clash, h1, h2]
  have ob : ∀ m, objOf σ S' rv m = match x.2.put m with | some y => some y | none => objOf σ S rv m := by
    intro m
    unfold objOf
    rw [lastW_more hS' hi (fun k y hk hik hS hf => ?_)]
    · rw [show fM m x = x.2.put m from rfl]
      cases x.2.put m <;> rfl
    · cases hy : fM m y with
      | none => rfl
      | some z =>
        obtain ⟨ok, hok, _, _⟩ := R.pos k y hk
        obtain ⟨u, hu⟩ := Option.ne_none_iff_exists'.1 hf
        refine (R.no_later hi ho hnot hcl hk hok hik hS ?_).elim
        have : x.2.puts.any (fun m => memB m y.2.tg || memB m y.2.puts) = true := List.any_eq_true.2 ⟨m, put_mem hu, by rw [memB_iff.2 (put_mem hy), Bool.or_true]⟩
        simp only [clash, this, Bool.or_true, Bool.true_or]
  have eq1 : ∀ m, x.2.made m = false → β' m = β m := fun m hm => by
    cases hl : lookL m x.2.wr with
    | some z => exact e2 m z hl
    | none => exact e1 m hl (not_put hl hm)
  have mine : ∀ g, (∃ m z n, lookL m x.2.wr = some z ∧ β m = some (g, n)) → Mine cx g := by
    rintro g ⟨m, z, n, hz, hg⟩
    obtain ⟨y, hy, hrw⟩ := hwr m z hz
    have hO := H.obj m y hy
    cases y with
    | fix ty s => obtain ⟨g', n', arr, h1, h2, _⟩ := hO; rw [hg] at h1; cases h1; exact h2
    | grow ty es l =>
      rcases hO with ⟨h1, _⟩ | ⟨g', n', arr, h1, h2, _⟩
      · rw [hg] at h1; cases h1
      · rw [hg] at h1; cases h1; exact h2
    | gs ty l =>
      rcases hO with ⟨h1, _⟩ | ⟨g', n', arr, m', h1, h2, _⟩
      · rw [hg] at h1; cases h1
      · rw [hg] at h1; cases h1; exact h2
    | ro ty s => cases hrw
    | dead => cases hrw
  have keepB : ∀ m mb, objOf σ S rv m = some mb → x.2.put m = none → ∀ g n, β m = some (g, n) → mb.live = true → ∀ t arr, Bk w g t arr → Bk w' g t arr := by
    intro m mb hm hp g n hg hl t arr hb
    refine hu.bk hb ?_
    rintro ⟨m', z, n', hz, hg'⟩
    obtain ⟨y, hy, hrw⟩ := hwr m' z hz
    have hne : m' ≠ m := fun e => by
      subst e
      unfold Rec.put at hp
      rw [hz] at hp; cases hp
    exact H.apart m' m y mb hne hy hm hrw hl g n' g n hg' hg rfl
  refine ⟨?_, ?_, ?_, ?_, ?_, ?_, ?_, ?_⟩
  · exact H.upd.step hu (fun g hlt hg => (mine g hg).elim (fun h => absurd hlt (by omega)) id)
  · exact H.glob
  · intro j hj
    refine (eq1 j ?_).trans (H.pin j hj)
    have h1 := R.pins
    have h2 := R.base0 i x hi
    rw [hgl.2] at hj
    unfold Rec.made
    rw [bleF (by omega)]; rfl
  · rw [← H.defers]; cases o'.dst <;> rfl
  · rw [← H.size]; cases o'.dst <;> simp [Act.put]
  · intro t av ht
    rw [sl] at ht
    by_cases e : x.1 = some t
    · rw [if_pos e] at ht; cases ht
      have hlt := R.dst i x t hi e
      refine ⟨v, ?_, hv⟩
      rw [← hdst, e]
      simp [Act.put, H.size, hlt]
    · rw [if_neg e] at ht
      obtain ⟨u, h1, h2⟩ := H.slot t av ht
      refine ⟨u, ?_, h2.congr (fun m hm => eq1 m (F1 t av ht m hm))⟩
      rw [← hdst]
      cases hx : x.1 with
      | none => exact h1
      | some d => rw [← h1]; exact Array.getElem?_setIfInBounds_ne (fun e2 => e (by rw [hx, e2]))
  · intro m mb hm
    rw [ob] at hm
    cases hp : x.2.put m with
    | some y => rw [hp] at hm; cases hm; exact hobj m _ hp
    | none =>
      rw [hp] at hm
      have hF := F2 m mb hm
      exact (H.obj m mb hm).keep (eq1 m hF.1) (fun j hj => eq1 j (hF.2 j hj)) (keepB m mb hm hp)
  · intro p q y z hpq hp hq hrw hlive g n g' n' hg hg'
    rw [ob] at hp hq
    cases hpp : x.2.put p with
    | some yp =>
      rw [hpp] at hp; cases hp
      cases hpq2 : x.2.put q with
      | some yq => rw [hpq2] at hq; cases hq; exact hap p q _ _ hpq hpp hpq2 hrw hlive g n g' n' hg hg'
      | none =>
        rw [hpq2] at hq
        have hFq := F2 q z hq
        rw [eq1 q hFq.1] at hg'
        cases hl : lookL p x.2.wr with
        | some u =>
          rw [e2 p u hl] at hg
          obtain ⟨y', hy', hrw'⟩ := hwr p u hl
          exact H.apart p q y' z hpq hy' hq hrw' hlive g n g' n' hg hg'
        | none =>
          obtain ⟨t, arr, hb⟩ := (H.obj q z hq).blk hlive hg'
          have hlt := hb.lt
          rcases hnew p _ hl hpp g n hg with h | ⟨m', n2, hm', hgm⟩
          · omega
          · obtain ⟨y', hy', hrw'⟩ := hwr m' _ hm'
            have hne : m' ≠ q := fun e => by
              subst e
              unfold Rec.put at hpq2
              rw [hm'] at hpq2; cases hpq2
            exact H.apart m' q y' z hne hy' hq hrw' hlive g n2 g' n' hgm hg'
    | none =>
      rw [hpp] at hp
      have hFp := F2 p y hp
      rw [eq1 p hFp.1] at hg
      have ylive : y.live = true := by cases y <;> first | rfl | cases hrw
      cases hpq2 : x.2.put q with
      | none =>
        rw [hpq2] at hq
        have hFq := F2 q z hq
        rw [eq1 q hFq.1] at hg'
        exact H.apart p q y z hpq hp hq hrw hlive g n g' n' hg hg'
      | some yq =>
        rw [hpq2] at hq; cases hq
        cases hl : lookL q x.2.wr with
        | some u =>
          rw [e2 q u hl] at hg'
          obtain ⟨y', hy', hrw'⟩ := hwr q u hl
          have y'live : y'.live = true := by cases y' <;> first | rfl | cases hrw'
          exact H.apart p q y y' hpq hp hy' hrw y'live g n g' n' hg hg'
        | none =>
          obtain ⟨t, arr, hb⟩ := (H.obj p y hp).blk ylive hg
          have hlt := hb.lt
          rcases hnew q _ hl hpq2 g' n' hg' with h | ⟨m', n2, hm', hgm⟩
          · omega
          · obtain ⟨y', hy', hrw'⟩ := hwr m' _ hm'
            have y'live : y'.live = true := by cases y' <;> first | rfl | cases hrw'
            have hne : p ≠ m' := fun e => by
              subst e
              unfold Rec.put at hpp
              rw [hm'] at hpp; cases hpp
            exact H.apart p m' y y' hne hp hy' hrw y'live g n g' n2 hg hgm
end
end Go.Proofs.Ythlleheeghiljaa
