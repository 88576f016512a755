/-
  A region, whatever its order: its rule. For any program.
-/
import Derived.Test.YthlleheeghiljaaSy4
namespace Go.Proofs.Ythlleheeghiljaa
open Go.RowKit

section
variable {E : Ev} {σ : St} {ops : Array Oper} {dep : Nat → Nat → Bool} {rv : RR} {n0 : Nat} {cx : Cx} {S S' : Nat → Bool} {i : Nat} {o : Oper} {x : Option Nat × Rec} {a : Act} {w : World} {Q : Exit → Act → World → Prop} {K' : Act → World → Prop}
def vB : Value → Option Bool
  | .bool b => some b
  | _ => none
theorem mem_tmpsOf {t : Nat} : ∀ {l : List Operand}, Operand.tmp t ∈ l → t ∈ tmpsOf l
  | [], h => by cases h
  | y :: r, h => by
    rcases List.mem_cons.1 h with rfl | h
    · simp [tmpsOf]
    · have := mem_tmpsOf h
      cases y <;> simp [tmpsOf, this]
theorem Reg.low (R : Reg E σ ops dep rv n0) (hi : atR rv i = some x) : (∀ t av, slotOf σ (fun k => Nat.blt k i) rv t = some av → ∀ m ∈ av.idx, m < x.2.base) ∧ (∀ m mb, objOf σ (fun k => Nat.blt k i) rv m = some mb → m < x.2.base ∧ ∀ j ∈ mb.idx, j < x.2.base) := by
  have hb := R.base0 i x hi
  constructor
  · intro t av h m hm
    unfold slotOf at h
    cases hl : lastW (fun k => Nat.blt k i) (fS t) rv with
    | none => rw [hl] at h; have := R.snames t av h m hm; omega
    | some y =>
      rw [hl] at h; cases h
      obtain ⟨k, z, h1, h2, h3⟩ := lastW_find hl
      rw [(fS_eq h3).2] at hm
      have h4 := R.names k z h1 m (List.mem_append_left _ (List.mem_append_left _ hm))
      have h5 := R.mono k i z x (blt_iff.1 h2) h1 hi
      omega
  · intro q mb h
    unfold objOf at h
    cases hl : lastW (fun k => Nat.blt k i) (fM q) rv with
    | none => rw [hl] at h; have := R.mnames q mb h; exact ⟨by omega, fun m hm => by have := this.2 m hm; omega⟩
    | some y =>
      rw [hl] at h; cases h
      obtain ⟨k, z, h1, h2, h3⟩ := lastW_find hl
      have h5 := R.mono k i z x (blt_iff.1 h2) h1 hi
      refine ⟨by have := R.putsLt k z h1 q _ h3; omega, fun m hm => by have := R.names k z h1 m (names_put h3 hm); omega⟩
theorem Reg.step (R : Reg E σ ops dep rv n0) (hE : EvOK E) (hgl : cx.gl = E.gl ∧ cx.pins = E.pins) (hi : atR rv i = some x) (ho : ops[i]? = some o) (hnot : S i = false) (hdep : ∀ k, dep i k = true → S k = true) (hcl : ∀ j k, S j = true → dep j k = true → S k = true) (hS' : ∀ k, S' k = (S k || Nat.beq k i))
    {β : Be} (H : Holds cx β σ.n (slotOf σ S rv) (objOf σ S rv) a w) (hK' : ∀ a' w', (∃ β, Holds cx β σ.n (slotOf σ S' rv) (objOf σ S' rv) a' w') → K' a' w') :
    if Region.wanted o (yielded ops a.tmps) = true then Oper.wp E.P o a w K' Q else K' (a.put o.dst undef) w := by
  obtain ⟨o', ho', hdst, hop⟩ := R.pos i x hi
  obtain rfl : o' = o := Option.some.inj (ho'.symm.trans ho)
  obtain ⟨A1, A2⟩ := R.agree hi ho hnot hdep hcl
  obtain ⟨L1, L2⟩ := R.low hi
  have hobl := R.obl i x hi
  generalize hgs : slotOf σ (fun k => Nat.blt k i) rv = gs at *
  generalize hgm : objOf σ (fun k => Nat.blt k i) rv = gm at *
  have RUN : runE E o' gs gm x.2.base = some x.2 → Oper.wp E.P o' a w K' Q := by
    intro hrun
    obtain ⟨hwr, hdo⟩ := hE o' gs gm x.2.base x.2 hrun hobl
    refine hdo cx β a w Q H.upd (fun g l hg => H.glob g l (hgl.1 ▸ hg)) (fun y hy av hav => ?_) (fun m hm mb hmb => ⟨H.obj m mb ((A2 m hm).trans hmb), L2 m mb hmb⟩) (fun p hp q hq y z hpq hy hz => H.apart p q y z hpq ((A2 p hp).trans hy) ((A2 q hq).trans hz)) K' (fun v w' β' e1 e2 hv hobj hnew hap hu => hK' _ _ ⟨β', R.put hi ho hnot hcl hS' hgl H (fun m z hz => ?_) e1 e2 hv hobj hnew hap hu⟩)
    · cases y with
      | tmp t =>
        have ht : t ∈ readsOf ops o' := List.mem_append_right _ (mem_tmpsOf (by simpa using hy))
        obtain ⟨v, h1, h2⟩ := H.slot t av ((A1 t ht).trans hav)
        refine ⟨?_, L1 t av hav⟩
        rw [show a.eval (.tmp t) = v by simp [Act.eval, Array.getD_eq_getD_getElem?, h1]]
        exact h2
      | const v => cases hav; exact ⟨rfl, fun j hj => (by cases hj)⟩
      | global g =>
        simp only [opnd] at hav
        cases hl : lookL g E.gl with
        | none => rw [hl] at hav; cases hav
        | some k =>
          rw [hl] at hav; cases hav
          exact ⟨⟨g, 0, rfl, H.glob g k (hgl.1 ▸ lookL_some hl)⟩, fun j hj => (by cases hj)⟩
      | func f => cases hav; exact ⟨rfl, fun j hj => (by cases hj)⟩
    · obtain ⟨h1, y, h2, h3⟩ := hwr m z hz
      exact ⟨y, (A2 m h1).trans h2, h3⟩
  have SKIP : x.2 = skipR x.2.base → K' (a.put o'.dst undef) w := by
    intro hs
    have hw : ∀ m, lookL m x.2.wr = none := fun m => by rw [hs]; rfl
    have hp : ∀ m, x.2.put m = none := fun m => by
      rw [hs]
      unfold Rec.put skipR
      simp only [lookL]
      cases Nat.ble x.2.base m <;> rfl
    refine hK' _ _ ⟨β, R.put hi ho hnot hcl hS' hgl H (fun m z hz => ?_) (fun _ _ _ => rfl) (fun _ _ _ => rfl) ?_ (fun m mb hm => ?_) (fun m mb _ hm => ?_) (fun p q y z _ hy => ?_) (Upd.refl _ w)⟩
    · rw [hw] at hz; cases hz
    · rw [hs]; exact rfl
    · rw [hp] at hm; cases hm
    · rw [hp] at hm; cases hm
    · rw [hp] at hy; cases hy
  unfold opE at hop
  cases hg : o'.guard with
  | none =>
    rw [hg] at hop
    rw [if_pos (by simp [Region.wanted, hg])]
    exact RUN hop
  | some jw =>
    obtain ⟨j, want⟩ := jw
    rw [hg] at hop
    simp only [] at hop
    cases hgt : gslot ops o' with
    | none => rw [hgt] at hop; cases hop
    | some t =>
      rw [hgt] at hop
      simp only [] at hop
      have ht : t ∈ readsOf ops o' := by simp [readsOf, hgt]
      have hbind : (ops[j]?).bind (·.dst) = some t := by simpa [gslot, hg] using hgt
      cases hv : gs t with
      | none => rw [hv] at hop; cases hop
      | some av =>
        rw [hv] at hop
        obtain ⟨v, h1, h2⟩ := H.slot t av ((A1 t ht).trans hv)
        have hyl : yielded ops a.tmps j = vB v := by
          unfold yielded
          rw [hbind, Option.bind_some, h1]
          cases v <;> rfl
        have hwant : Region.wanted o' (yielded ops a.tmps) = (yielded ops a.tmps j == some want) := by simp [Region.wanted, hg]
        split at hop
        · rename_i b he
          cases he
          obtain rfl : v = .bool b := h2
          rw [hwant, hyl, show vB (.bool b) = some b from rfl]
          split at hop
          · exact RUN hop
          · exact RUN hop
          · rename_i n1 n2
            have hbw : (some b == some want) = false := by
              cases b <;> cases want <;> first | rfl | exact (n1 rfl rfl).elim | exact (n2 rfl rfl).elim
            rw [hbw]
            simp only [Option.some.injEq] at hop
            exact SKIP hop.symm
        · rename_i us he
          cases he
          obtain rfl : v = .tuple us := h2
          rw [hwant, hyl]
          simp only [Option.some.injEq] at hop
          exact SKIP hop.symm
        · cases hop
theorem region_ok {draw : Bool} {keep : List Nat} {σ' : St} {obl : List Prop} {id : Nat} (hE : EvOK E) (hm : E.P.follows .mixedOrders = true) (hgl : cx.gl = E.gl ∧ cx.pins = E.pins) (h : regionE E keep ops draw σ = some (σ', obl)) (hobl : allP obl) {β : Be} (H : Holds cx β σ.n σ.gs σ.gm a w)
    (hQ : ∀ β' a' w', Holds cx β' σ'.n σ'.gs σ'.gm a' w' → Q .normal a' w') : (Code.region id ops draw).wp E.P Q a w := by
  unfold regionE at h
  cases hb : buildR E ops σ ops.toList [] σ.mem.length with
  | none => rw [hb] at h; cases h
  | some rv =>
    rw [hb] at h
    simp only [] at h
    cases hc : checkR E ops draw σ rv with
    | false => rw [hc] at h; cases h
    | true =>
      rw [hc, cond_true] at h
      simp only [Option.some.injEq, Prod.mk.injEq] at h
      obtain ⟨rfl, rfl⟩ := h
      obtain ⟨R, _, hed⟩ := reg_of hb hc hobl
      have start : ∀ (S : Nat → Bool) (a : Act) (w : World), (∀ k, S k = false) → Holds cx β σ.n σ.gs σ.gm a w → Holds cx β σ.n (slotOf σ S rv) (objOf σ S rv) a w := by
        intro S a w hS H
        have e : ∀ {α : Type} (f : Option Nat × Rec → Option α), lastW S f rv = none := fun f => by
          cases hl : lastW S f rv with
          | none => rfl
          | some y => obtain ⟨k, z, _, h2, _⟩ := lastW_find hl; rw [hS] at h2; cases h2
        have e1 : slotOf σ S rv = σ.gs := by funext t; simp [slotOf, e]
        have e2 : objOf σ S rv = σ.gm := by funext t; simp [objOf, e]
        rw [e1, e2]
        exact H
      have fin : ∀ (S : Nat → Bool) (a : Act) (w : World), (∀ k, k < ops.size → S k = true) → (∃ β, Holds cx β σ.n (slotOf σ S rv) (objOf σ S rv) a w) → Q .normal a w := by
        intro S a w hS ⟨β, H⟩
        refine hQ β a w (H.weak (fun t v ht => ?_) (fun m y hy => ?_))
        · have h1 := keepL_get ht
          rw [← h1]
          unfold slotOf
          rw [lastW_congr (fun k z hk _ => hS k (by have := atR_lt hk; rw [R.len] at this; exact this))]
        · rcases memL_get hy with h1 | h1
          · exact .inl h1
          · refine .inr ?_
            rw [Nat.zero_add] at h1
            rw [← h1]
            unfold objOf
            rw [lastW_congr (fun k z hk _ => hS k (by have := atR_lt hk; rw [R.len] at this; exact this))]
      cases draw with
      | true =>
        have hcl0 : ∀ (L : Array Bool), (∀ (k : Nat) (o : Oper), ops[k]? = some o → L.getD k false = true → ∀ e ∈ o.after, Region.binds .any e = true → L.getD e.on false = true) →
            ∀ j k, (∀ o, ops[j]? = some o → ∀ e ∈ o.after, Region.binds .any e = true → L.getD e.on false = true) → depD ops j k = true → L.getD k false = true := fun L hL =>
          dep_closed (S := fun k => L.getD k false) hL ops.toList [] rfl (fun j k _ h => by simp [mAt] at h)
        refine wp_region_upto (Array.replicate ops.size true) hm (by simp) (hed rfl) (fun L a w => (∀ (k : Nat) (o : Oper), ops[k]? = some o → L.getD k false = true → ∀ e ∈ o.after, Region.binds .any e = true → L.getD e.on false = true) ∧ ∃ β, Holds cx β σ.n (slotOf σ (fun k => L.getD k false) rv) (objOf σ (fun k => L.getD k false) rv) a w) ?_ ?_ ?_
        · have hr : ∀ k, (Array.replicate ops.size false).getD k false = false := fun k => by by_cases hk : k < ops.size <;> simp [Array.getD, hk]
          refine ⟨fun k o _ h => (by rw [hr] at h; cases h), β, start _ _ _ hr H.drew⟩
        · rintro i o L a w ho hls _ hun hdep ⟨hLc, β, H⟩ K hK
          obtain ⟨x, hx⟩ := atR_some (rv := rv) (k := i) (by rw [R.len]; exact (Array.getElem?_eq_some_iff.1 ho).1)
          have hil : i < L.size := by rw [hls]; exact (Array.getElem?_eq_some_iff.1 ho).1
          have hun' : L.getD i false = false := by
            have : L.getD i true = L.getD i false := by simp [Array.getD, hil]
            rw [← this]; exact hun
          refine R.step hE hgl hx ho hun' (fun k hk => hcl0 L hLc i k (fun o' ho' => ?_) hk) (fun j k hj hk => hcl0 L hLc j k (fun o' ho' => hLc j o' ho' hj) hk) (S' := fun k => (L.setIfInBounds i true).getD k false) (fun k => ?_) H (fun a' w' hH => hK a' w' ⟨?_, hH⟩)
          · obtain rfl : o' = o := Option.some.inj (ho'.symm.trans ho)
            exact hdep
          · rw [getD_set L i k false hil]
            by_cases e : i = k
            · subst e; simp
            · rw [if_neg e, beqF (fun e2 => e e2.symm), Bool.or_false]
          · intro k ok hok hk e he hb
            rw [getD_set L i e.on false hil]
            by_cases e1 : i = e.on
            · rw [if_pos e1]
            · rw [if_neg e1]
              rw [getD_set L i k false hil] at hk
              by_cases e2 : i = k
              · subst e2
                obtain rfl : ok = o := Option.some.inj (hok.symm.trans ho)
                exact hdep e he hb
              · rw [if_neg e2] at hk
                exact hLc k ok hok hk e he hb
        · rintro fuel a w _ ⟨_, hH⟩
          have hq := fin (fun k => (Array.replicate ops.size true).getD k false) a w (fun k hk => by simp [Array.getD, hk]) hH
          have hr : Region.ready .any ops (Array.replicate ops.size true) = [] := by
            unfold Region.ready
            rw [List.filter_eq_nil_iff]
            intro k hk
            have : k < ops.size := List.mem_range.1 hk
            simp [Array.getD, this]
          cases fuel with
          | zero => exact ⟨hr, hq⟩
          | succ f => exact ⟨fun _ => hq, fun k hk => by rw [hr] at hk; cases hk⟩
      | false =>
        have key : ∀ (j m : Nat), m + j = ops.size → ∀ a w, (∃ β, Holds cx β σ.n (slotOf σ (fun k => Nat.blt k m) rv) (objOf σ (fun k => Nat.blt k m) rv) a w) → wpOps E.P ops Q (List.range' m j) a w := by
          intro j
          induction j with
          | zero =>
            intro m hm a w hH
            have := fin _ a w (fun k hk => blt_iff.2 (by omega)) hH
            simpa [wpOps] using this
          | succ j ih =>
            rintro m hm a w ⟨β, H⟩
            rw [List.range'_succ, wpOps_cons]
            have hlt : m < ops.size := by omega
            have ho : ops[m]? = some ops[m] := Array.getElem?_eq_getElem hlt
            obtain ⟨x, hx⟩ := atR_some (rv := rv) (k := m) (by rw [R.len]; exact hlt)
            refine wpOp_step ho (fun K hK => ?_)
            refine R.step (S := fun k => Nat.blt k m) hE hgl hx ho ?_ (fun k hk => hk) (fun j k hj hk => blt_iff.2 (Nat.lt_trans (blt_iff.1 hk) (blt_iff.1 hj))) (S' := fun k => Nat.blt k (m + 1)) (fun k => ?_) H (fun a' w' hH => hK a' w' (ih (m + 1) (by omega) a' w' hH))
            · cases hb : Nat.blt m m with
              | false => rfl
              | true => exact absurd (blt_iff.1 hb) (by omega)
            · rw [Bool.eq_iff_iff, Bool.or_eq_true, blt_iff, blt_iff, Nat.beq_eq]
              omega
        refine wp_region ?_
        rw [List.range_eq_range']
        refine key ops.size 0 (by omega) a w ⟨β, start _ _ _ (fun k => ?_) H⟩
        cases hb : Nat.blt k 0 with
        | false => rfl
        | true => exact absurd (blt_iff.1 hb) (by omega)
end
end Go.Proofs.Ythlleheeghiljaa
