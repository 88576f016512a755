/-
  All operations together; a function as a whole. For any program.
-/
import Derived.Test.YthlleheeghiljaaSys
namespace Go.Proofs.Ythlleheeghiljaa
open Go.RowKit

def tgO (Γ : List Spec) (o : Oper) (avs : List (Option AV)) (gm : Nat → Option MB) : List Nat := match o.op with
  | .load _ _ => ptrsOf avs
  | .store _ _ _ => ptrsOf avs
  | .convert _ _ _ => objsOf avs
  | .call c => match c.callee with
    | .value _ => tgCall Γ avs gm
    | .builtin .append => objsOf avs
    | .builtin .copy => objsOf avs
    | _ => []
  | _ => []
def evO (P : Program) (Γ : List Spec) (o : Oper) (avs : List (Option AV)) (cts : List (Option MB)) (base : Nat) : Option Rec := match o.op with
  | .move _ => evMove avs
  | .assign _ => evMove avs
  | .pick _ _ _ => evPick avs
  | .alloc T => evAlloc P T base
  | .box T _ => evBox T base avs
  | .load T _ => evLoad P T avs cts
  | .store T _ _ => evStore P T avs cts
  | .nilCheck _ => evNil avs
  | .binOp op T _ _ _ => match evBin P op T avs with
    | some r => some r
    | none => evBinP P op T avs
  | .unOp op _ _ => evUn op avs
  | .convert s d _ => match evConvI P s d avs with
    | some r => some r
    | none => match evConvS P s d avs cts with
      | some r => some r
      | none => match evConvB P s d base avs cts with
        | some r => some r
        | none => evConvN P s d avs
  | .build T ps => match evBuild P T ps avs with
    | some r => some r
    | none => evBuildG P T ps avs
  | .buildSlice T n ps => match evBuildSl P T n ps base avs with
    | some r => some r
    | none => match evBuildSG P T n ps base avs with
      | some r => some r
      | none => evBuildSS P T n ps base avs
  | .field T _ f => evField P T f avs
  | .makeFunc f ⟨[]⟩ _ => evMakeF f [] avs
  | .makeFunc f ⟨[_]⟩ ⟨[]⟩ => evMakeM f avs
  | .index T _ _ => evIndex P T avs
  | .makeSlice T _ _ => match evMake P T base avs with
    | some r => some r
    | none => evMakeA P T base avs
  | .slice T _ lo hi mx => match evSlice P T lo hi mx avs with
    | some r => some r
    | none => match evSlice0 P T lo hi mx avs with
      | some r => some r
      | none => evSliceM P T lo hi mx avs
  | .sliceToArrayPointer T _ => evS2A P T avs
  | .call ⟨.builtin .cap, ⟨[_]⟩, ⟨[T]⟩⟩ => evCap P T avs
  | .fieldAddr T _ f => evFieldAddr P T f avs
  | .indexAddr T _ _ => evIndexAddr P T avs
  | .extract _ i => evExtract i avs
  | .call ⟨.builtin .len, ⟨[_]⟩, ⟨[T]⟩⟩ => evLen P T avs
  | .call ⟨.builtin .append, ⟨[_, _]⟩, ⟨[T, T']⟩⟩ => cond (Nat.beq T T') (match evAppend P T base avs cts with | some r => some r | none => evAppendS P T base avs cts) (evAppZ P T T' base avs)
  | .call ⟨.builtin .min, ⟨[_, _]⟩, _⟩ => evMin avs
  | .call ⟨.builtin .copy, ⟨[_, _]⟩, ⟨[T, _]⟩⟩ => evCopy P T avs cts
  | .call ⟨.value _, _, _⟩ => evCall Γ avs cts base
  | _ => none
/-- A slice op whose slot is said ahead takes the slice that it cuts. -/
def zOp (fc : Nat → Option Bool) (o : Oper) : Bool := match o.op, o.dst with
  | .slice _ _ none (some _) none, some d => (match fc d with | some _ => true | none => false)
  | _, _ => false
def evZ (P : Program) (o : Oper) (base : Nat) (avs : List (Option AV)) (cts : List (Option MB)) : Option Rec := match o.op with
  | .slice T _ lo hi mo => evSliceZ P T lo hi mo base avs cts
  | _ => none
def mkEv (P : Program) (gl : List (Nat × L)) (Γ : List Spec) (pins : Nat := 0) (fc : Nat → Option Bool := fun _ => none) : Ev := ⟨P, gl, pins, fun o avs gm => bif zOp fc o then objsOf avs else tgO Γ o avs gm, fun o avs cts base => bif zOp fc o then evZ P o base avs cts else forceR fc o (evO P Γ o avs cts base)⟩
theorem evOK {P : Program} {gl : List (Nat × L)} {Γ : List Spec} {pins : Nat} {fc : Nat → Option Bool} (hΓ : ∀ s ∈ Γ, GoodS P gl s) : EvOK (mkEv P gl Γ pins fc) := by
  intro o gs gm base r h hobl
  suffices hs : OpOK (mkEv P gl Γ pins fc) o gs gm base r from ⟨hs.1, fun cx β a w Q h0 h1 h2 h3 h4 => hs.2 cx β a w Q ⟨h0, h1, h2, h3, h4⟩⟩
  unfold runE at h
  simp only [] at h
  split at h
  · rename_i r0 hr
    cases h
    cases hz : zOp fc o with
    | true =>
      have hr' : evZ P o base (o.op.operands.toList.map (opnd (mkEv P gl Γ pins fc) gs)) ((objsOf (o.op.operands.toList.map (opnd (mkEv P gl Γ pins fc) gs))).map gm) = some r0 := by
        have := hr
        simp only [mkEv, hz, cond_true] at this
        exact this
      show OpOK (mkEv P gl Γ pins fc) o gs gm base { r0 with base := base, tg := bif zOp fc o then objsOf (o.op.operands.toList.map (opnd (mkEv P gl Γ pins fc) gs)) else tgO Γ o (o.op.operands.toList.map (opnd (mkEv P gl Γ pins fc) gs)) gm }
      rw [hz, cond_true]
      unfold evZ at hr'
      split at hr'
      · rename_i T x lo hi mo hop
        exact ok_sliceZ (E := mkEv P gl Γ pins fc) hop rfl hr' hobl
      · cases hr'
    | false =>
    have hr0 : forceR fc o (evO P Γ o (o.op.operands.toList.map (opnd (mkEv P gl Γ pins fc) gs)) ((tgO Γ o (o.op.operands.toList.map (opnd (mkEv P gl Γ pins fc) gs)) gm).map gm) base) = some r0 := by
      have := hr
      simp only [mkEv, hz, cond_false] at this
      exact this
    show OpOK (mkEv P gl Γ pins fc) o gs gm base { r0 with base := base, tg := bif zOp fc o then objsOf (o.op.operands.toList.map (opnd (mkEv P gl Γ pins fc) gs)) else tgO Γ o (o.op.operands.toList.map (opnd (mkEv P gl Γ pins fc) gs)) gm }
    rw [hz, cond_false]
    clear hz hr
    have hr := hr0
    clear hr0
    obtain ⟨r1, hr2, hobl', e0⟩ := forceR_eq (show forceR fc o (evO P Γ o (o.op.operands.toList.map (opnd (mkEv P gl Γ pins fc) gs)) ((tgO Γ o (o.op.operands.toList.map (opnd (mkEv P gl Γ pins fc) gs)) gm).map gm) base) = some r0 from hr) hobl
    rw [e0]
    show OpOK (mkEv P gl Γ pins fc) o gs gm base { r1 with base := base, tg := tgO Γ o (o.op.operands.toList.map (opnd (mkEv P gl Γ pins fc) gs)) gm }
    clear hr e0 hobl
    cases hop : o.op with
    | move x => rw [hop] at hr2; simp only [evO, hop, Op.operands] at hr2; exact ok_move (.inl hop) hr2
    | assign x => rw [hop] at hr2; simp only [evO, hop, Op.operands] at hr2; exact ok_move (.inr hop) hr2
    | pick c x y => rw [hop] at hr2; simp only [evO, hop, Op.operands] at hr2; exact ok_pick hop hr2
    | alloc T => rw [hop] at hr2; simp only [evO, hop] at hr2; exact ok_alloc hop hr2
    | box T x => rw [hop] at hr2; simp only [evO, hop, Op.operands] at hr2; exact ok_box hop hr2 hobl'
    | load T x => rw [hop] at hr2; simp only [evO, tgO, hop, Op.operands] at hr2 ⊢; exact ok_load hop rfl hr2 hobl'
    | store T x y => rw [hop] at hr2; simp only [evO, tgO, hop, Op.operands] at hr2 ⊢; exact ok_store hop rfl hr2 hobl'
    | nilCheck x => rw [hop] at hr2; simp only [evO, hop, Op.operands] at hr2; exact ok_nil hop hr2
    | binOp op T x y T' =>
      have hr3 : (match evBin P op T [opnd (mkEv P gl Γ pins fc) gs x, opnd (mkEv P gl Γ pins fc) gs y] with | some r => some r | none => evBinP P op T [opnd (mkEv P gl Γ pins fc) gs x, opnd (mkEv P gl Γ pins fc) gs y]) = some r1 := by
        rw [hop] at hr2; simp only [evO, hop, Op.operands] at hr2
        exact hr2
      split at hr3
      · rename_i r2 h2
        cases hr3
        exact ok_bin hop h2 hobl' (fun n e k l l' h1 _ h3 h4 w => arr_equal T n e k l l' h1 h3 h4 w)
      · exact ok_binP hop hr3
    | unOp op T x => rw [hop] at hr2; simp only [evO, hop, Op.operands] at hr2; exact ok_un hop hr2
    | convert s d x =>
      rw [hop] at hr2
      simp only [evO, tgO, hop, Op.operands] at hr2 ⊢
      split at hr2
      · rename_i r1 h1
        cases hr2
        exact ok_convI hop h1
      · split at hr2
        · rename_i r1 h1
          cases hr2
          exact ok_convS hop rfl h1 hobl'
        · split at hr2
          · rename_i r1 h1
            cases hr2
            exact ok_convB hop rfl h1 hobl'
          · exact ok_convN hop hr2
    | build T ps =>
      have hr3 : (match evBuild P T ps (o.op.operands.toList.map (opnd (mkEv P gl Γ pins fc) gs)) with | some r => some r | none => evBuildG P T ps (o.op.operands.toList.map (opnd (mkEv P gl Γ pins fc) gs))) = some r1 := by
        simp only [evO, hop] at hr2
        rw [hop]; exact hr2
      split at hr3
      · rename_i r2 h2
        cases hr3
        exact ok_build hop h2
      · exact ok_buildG hop hr3 hobl'
    | buildSlice T n ps =>
      have hr3 : (match evBuildSl P T n ps base (o.op.operands.toList.map (opnd (mkEv P gl Γ pins fc) gs)) with | some r => some r | none => match evBuildSG P T n ps base (o.op.operands.toList.map (opnd (mkEv P gl Γ pins fc) gs)) with | some r => some r | none => evBuildSS P T n ps base (o.op.operands.toList.map (opnd (mkEv P gl Γ pins fc) gs))) = some r1 := by
        simp only [evO, hop] at hr2
        rw [hop]; exact hr2
      split at hr3
      · rename_i r2 h2
        cases hr3
        exact ok_buildSl hop h2 hobl'
      · split at hr3
        · rename_i r2 h2
          cases hr3
          exact ok_buildSG hop h2
        · exact ok_buildSS hop hr3
    | field T x f => rw [hop] at hr2; simp only [evO, hop, Op.operands] at hr2; exact ok_field hop hr2 hobl'
    | makeFunc f fs cs =>
      match fs, cs, hop, hr2 with
      | ⟨[]⟩, cs, hop, hr2 =>
        have e1 : (Op.makeFunc f ⟨[]⟩ cs).operands.toList = cs.toList := by simp [Op.operands]
        rw [hop, e1] at hr2
        simp only [evO, hop] at hr2
        exact ok_makeF hop hr2
      | ⟨[x]⟩, ⟨[]⟩, hop, hr2 =>
        have e1 : (Op.makeFunc f ⟨[x]⟩ ⟨[]⟩).operands.toList = [x] := by simp [Op.operands]
        rw [hop, e1] at hr2
        simp only [evO, hop] at hr2
        exact ok_makeM hop hr2
      | ⟨[_]⟩, ⟨_ :: _⟩, hop, hr2 => simp [evO, hop] at hr2
      | ⟨_ :: _ :: _⟩, _, hop, hr2 => simp [evO, hop] at hr2
    | index T x y => rw [hop] at hr2; simp only [evO, hop, Op.operands] at hr2; exact ok_index hop hr2 hobl'
    | makeSlice T x y =>
      rw [hop] at hr2
      simp only [evO, hop, Op.operands] at hr2
      split at hr2
      · rename_i r2 hr3
        cases hr2
        exact ok_make hop hr3 hobl'
      · exact ok_makeA hop hr2 hobl'
    | slice T x lo hi mx =>
      have hr3 : (match evSlice P T lo hi mx (o.op.operands.toList.map (opnd (mkEv P gl Γ pins fc) gs)) with | some r => some r | none => match evSlice0 P T lo hi mx (o.op.operands.toList.map (opnd (mkEv P gl Γ pins fc) gs)) with | some r => some r | none => evSliceM P T lo hi mx (o.op.operands.toList.map (opnd (mkEv P gl Γ pins fc) gs))) = some r1 := by
        simp only [evO, hop] at hr2
        rw [hop]; exact hr2
      split at hr3
      · rename_i r2 h2
        cases hr3
        exact ok_slice hop h2 hobl'
      · split at hr3
        · rename_i r2 h2
          cases hr3
          exact ok_slice0 hop h2 hobl'
        · exact ok_sliceM hop hr3 hobl'
    | sliceToArrayPointer T x => rw [hop] at hr2; simp only [evO, hop, Op.operands] at hr2; exact ok_s2a hop hr2 hobl'
    | fieldAddr T x f => rw [hop] at hr2; simp only [evO, hop, Op.operands] at hr2; exact ok_fieldAddr hop hr2
    | indexAddr T x y => rw [hop] at hr2; simp only [evO, hop, Op.operands] at hr2; exact ok_indexAddr hop hr2 hobl'
    | extract x i => rw [hop] at hr2; simp only [evO, hop, Op.operands] at hr2; exact ok_extract hop hr2
    | call c =>
      obtain ⟨cal, ⟨args⟩, ⟨ts⟩⟩ := c
      cases cal with
      | value f =>
        rw [hop] at hr2
        have e1 : ((Op.call ⟨.value f, ⟨args⟩, ⟨ts⟩⟩).operands.toList.map (opnd (mkEv P gl Γ pins fc) gs)) = opnd (mkEv P gl Γ pins fc) gs f :: args.map (opnd (mkEv P gl Γ pins fc) gs) := by simp [Op.operands, Call.operands]
        rw [e1] at hr2 ⊢
        simp only [evO, tgO, hop] at hr2 ⊢
        exact ok_call (E := mkEv P gl Γ pins fc) (args := ⟨args⟩) hΓ hop rfl hr2 hobl'
      | invoke x n => simp [evO, hop] at hr2
      | builtin b =>
        cases b with
        | len =>
          match args, ts, hop, hr2 with
          | [x], [T], hop, hr2 => rw [hop] at hr2; simp only [evO, hop, Op.operands, Call.operands] at hr2; exact ok_len hop hr2
          | [], _, hop, hr2 => simp [evO, hop] at hr2
          | _ :: _ :: _, _, hop, hr2 => simp [evO, hop] at hr2
          | [_], [], hop, hr2 => simp [evO, hop] at hr2
          | [_], _ :: _ :: _, hop, hr2 => simp [evO, hop] at hr2
        | cap =>
          match args, ts, hop, hr2 with
          | [x], [T], hop, hr2 => rw [hop] at hr2; simp only [evO, hop, Op.operands, Call.operands] at hr2; exact ok_cap hop hr2
          | [], _, hop, hr2 => simp [evO, hop] at hr2
          | _ :: _ :: _, _, hop, hr2 => simp [evO, hop] at hr2
          | [_], [], hop, hr2 => simp [evO, hop] at hr2
          | [_], _ :: _ :: _, hop, hr2 => simp [evO, hop] at hr2
        | min =>
          match args, hop, hr2 with
          | [x, y], hop, hr2 => rw [hop] at hr2; simp only [evO, hop, Op.operands, Call.operands] at hr2; exact ok_min hop hr2
          | [], hop, hr2 => simp [evO, hop] at hr2
          | [_], hop, hr2 => simp [evO, hop] at hr2
          | _ :: _ :: _ :: _, hop, hr2 => simp [evO, hop] at hr2
        | copy =>
          match args, ts, hop, hr2 with
          | [x, y], [T, T'], hop, hr2 =>
            rw [hop] at hr2
            simp only [evO, tgO, hop, Op.operands, Call.operands] at hr2 ⊢
            exact ok_copy hop rfl hr2 hobl'
          | [], _, hop, hr2 => simp [evO, hop] at hr2
          | [_], _, hop, hr2 => simp [evO, hop] at hr2
          | _ :: _ :: _ :: _, _, hop, hr2 => simp [evO, hop] at hr2
          | [_, _], [], hop, hr2 => simp [evO, hop] at hr2
          | [_, _], [_], hop, hr2 => simp [evO, hop] at hr2
          | [_, _], _ :: _ :: _ :: _, hop, hr2 => simp [evO, hop] at hr2
        | append =>
          match args, ts, hop, hr2 with
          | [x, y], [T, T'], hop, hr2 =>
            rw [hop] at hr2
            simp only [evO, tgO, hop, Op.operands, Call.operands] at hr2 ⊢
            cases hb : Nat.beq T T' with
            | false => rw [hb] at hr2; exact ok_appZ hop hr2 hobl'
            | true =>
              rw [hb, cond_true] at hr2
              obtain rfl := Nat.eq_of_beq_eq_true hb
              split at hr2
              · rename_i r2 hr3
                cases hr2
                exact ok_append hop rfl hr3 hobl'
              · exact ok_appendS hop rfl hr2 hobl'
          | [], _, hop, hr2 => simp [evO, hop] at hr2
          | [_], _, hop, hr2 => simp [evO, hop] at hr2
          | _ :: _ :: _ :: _, _, hop, hr2 => simp [evO, hop] at hr2
          | [_, _], [], hop, hr2 => simp [evO, hop] at hr2
          | [_, _], [_], hop, hr2 => simp [evO, hop] at hr2
          | [_, _], _ :: _ :: _ :: _, hop, hr2 => simp [evO, hop] at hr2
        | _ => simp [evO, hop] at hr2
    | _ => simp only [evO, hop] at hr2; cases hr2
  · cases h

/-- What a function answers. -/
def retOne (P : Program) (σ : St) : ResultVar → Option T1
  | .tmp t => match σ.gs t with
    | some (.o x) => some x
    | _ => none
  | .cell t T => match σ.gs t with
    | some (.o (.c (.ptr i 0 none))) => match σ.gm i with
      | some mb => match segsMB mb with
        | some s => match aggT P T with
          | some false => match getCell s 0 none with
            | some (c, []) => some (.c c)
            | _ => none
          | some true => match sizeT P T with
            | some n => match getPart s 0 none n with
              | some (t, []) => some (.g t)
              | _ => none
            | none => none
          | none => none
        | none => none
      | none => none
    | _ => none
def retL (P : Program) (σ : St) : List ResultVar → Option (List T1)
  | [] => some []
  | r :: l => match retOne P σ r with
    | some x => match retL P σ l with
      | some xs => some (x :: xs)
      | none => none
    | none => none
def retE (P : Program) (σ : St) (l : List ResultVar) : Option AV := match retL P σ l with
  | some [x] => some (.o x)
  | some xs => some (.t xs)
  | none => none
def finK (P : Program) (rs : List ResultVar) (post : AV → St → Prop) (e : Ex) (σ : St) : Prop := match e with
  | .exit _ => False
  | .normal => match retE P σ rs with
    | some av => post av σ
    | none => False
  | .ret => match retE P σ rs with
    | some av => post av σ
    | none => False
section
variable {P : Program} {cx : Cx} {β : Be} {σ : St} {a : Act} {w : World}
/-- One result. -/
theorem run_loadIn {T : TypeId} {ad : Addr} {v : Value} (hT : aggT P T = some false) (hc : w.cell? ad = some v) : (loadVar T ad).run P w = .ok v w := by
  have := run_loadCell (P := P) (ev := fun _ => .pointer (some ad)) (o := { dst := none, op := .load T (.tmp 0), type := 0, pos := "", after := #[], guard := none }) (x := .tmp 0) (T := T) (ad := ad) (w := w) rfl hT rfl hc
  unfold execOp at this
  simp only [Instr.loadAt, Instr.sureAddr, Sem.run_bind, Sem.run_pure, Result.andThen_ok] at this
  cases hr : (loadVar T ad).run P w with
  | ok u w' =>
    rw [hr] at this
    simp only [Result.andThen_ok, Result.ok.injEq, Next.value.injEq] at this
    rw [this.1, this.2]
  | halt e w' => rw [hr] at this; simp [Result.andThen] at this
theorem run_loadInP {T : TypeId} {g n : Nat} (hT : aggT P T = some true) (hn : sizeT P T = some n) (cs : List Value) (hl : cs.length = n) (hc : ∀ j v, cs[j]? = some v → w.cell? ⟨g, 0 + j, none⟩ = some v) : (loadVar T ⟨g, 0, none⟩).run P w = .ok (.agg cs.toArray) w := by
  have := run_loadPart (P := P) (ev := fun _ => .pointer (some ⟨g, 0, none⟩)) (o := { dst := none, op := .load T (.tmp 0), type := 0, pos := "", after := #[], guard := none }) (x := .tmp 0) (T := T) (off := 0) (w := w) rfl hT hn rfl cs hl hc
  unfold execOp at this
  simp only [Instr.loadAt, Instr.sureAddr, Sem.run_bind, Sem.run_pure, Result.andThen_ok] at this
  cases hr : (loadVar T ⟨g, 0, none⟩).run P w with
  | ok u w' =>
    rw [hr] at this
    simp only [Result.andThen_ok, Result.ok.injEq, Next.value.injEq] at this
    rw [this.1, this.2]
  | halt e w' => rw [hr] at this; simp [Result.andThen] at this
def resOne (tmps : Array Value) : ResultVar → Sem Value
  | .tmp t => pure (tmps.getD t undef)
  | .cell a t => do loadVar t (← asAddr (tmps.getD a undef))
theorem retOne_ok (H : Holds cx β σ.n σ.gs σ.gm a w) {r : ResultVar} {x : T1} (h : retOne P σ r = some x) : ∃ v, (resOne a.tmps r).run P w = .ok v w ∧ D1 cx β x v := by
  cases r with
  | tmp t =>
    simp only [retOne] at h
    split at h
    · rename_i y hy
      cases h
      obtain ⟨v, h1, h2⟩ := H.slot t _ hy
      exact ⟨v, by simp [resOne, h1], h2⟩
    · cases h
  | cell t T =>
    simp only [retOne] at h
    split at h
    · rename_i i hi
      obtain ⟨v, h1, g, n, h2, h3⟩ := H.slot t _ hi
      split at h
      · rename_i mb hm
        split at h
        · rename_i s hs
          obtain ⟨ty, arr, l, e3, e4, e5⟩ := (H.obj i mb hm).segs hs h2
          have hget : (asAddr (a.tmps.getD t undef)).run P w = .ok ⟨g, 0, none⟩ w := by
            rw [Array.getD_eq_getD_getElem?, h1, Option.getD_some, h3]
            simp [asAddr, kz]
          split at h
          · rename_i hT
            split at h
            · rename_i c hc
              cases h
              obtain ⟨u, f1, f2, f3⟩ := getCell_ok (cx := cx) (β := β) hc trivial e4
              refine ⟨u, ?_, f2⟩
              simp only [resOne, Sem.run_bind, hget, Result.andThen_ok]
              exact run_loadIn hT (by rw [e3.cell]; exact e5 _ _ (by simpa [kz] using f1))
            · cases h
          · rename_i hT
            split at h
            · rename_i m hm2
              split at h
              · rename_i q hq
                cases h
                obtain ⟨f1, f2⟩ := getPart_ok (cx := cx) (β := β) hq trivial e4
                refine ⟨.agg (l.take m).toArray, ?_, ⟨_, rfl, by simpa [kz] using f2⟩⟩
                simp only [resOne, Sem.run_bind, hget, Result.andThen_ok]
                refine run_loadInP hT hm2 (l.take m) (by simp [kz] at f1; simp; omega) (fun j u hj => ?_)
                rw [List.getElem?_take] at hj
                split at hj
                · rw [Nat.zero_add, e3.cell]; exact e5 _ _ hj
                · cases hj
              · cases h
            · cases h
          · cases h
        · cases h
      · cases h
    · cases h
theorem retL_ok (H : Holds cx β σ.n σ.gs σ.gm a w) : ∀ {l : List ResultVar} {xs : List T1}, retL P σ l = some xs → ∃ vs : List Value, (l.mapM (resOne a.tmps)).run P w = .ok vs w ∧ DT cx β xs vs
  | [], xs, h => by cases h; exact ⟨[], rfl, rfl⟩
  | r :: l, xs, h => by
    unfold retL at h
    split at h
    · rename_i x hx
      split at h
      · rename_i ys hys
        cases h
        obtain ⟨v, h1, h2⟩ := retOne_ok H hx
        obtain ⟨vs, h3, h4⟩ := retL_ok H hys
        refine ⟨v :: vs, ?_, v, vs, rfl, h2, h4⟩
        rw [List.mapM_cons]
        simp only [Sem.run_bind, h1, Result.andThen_ok, h3, Sem.run_pure]
      · cases h
    · cases h
theorem retE_ok (H : Holds cx β σ.n σ.gs σ.gm a w) {fn : Func} {av : AV} (h : retE P σ fn.results.toList = some av) : ∃ v, (results fn a.tmps).run P w = .ok v w ∧ DA cx β av v := by
  unfold retE at h
  have hres : ∀ vs : List Value, (fn.results.toList.mapM (resOne a.tmps)).run P w = .ok vs w → (results fn a.tmps).run P w = .ok (if h : vs.toArray.size = 1 then vs.toArray[0] else .tuple vs.toArray) w := by
    intro vs hvs
    have hf : results fn a.tmps = (do let vs ← fn.results.mapM (resOne a.tmps); pure (if h : vs.size = 1 then vs[0] else .tuple vs)) := by
      unfold results
      congr 1
    have hm : fn.results.mapM (resOne a.tmps) = List.toArray <$> fn.results.toList.mapM (resOne a.tmps) := Array.mapM_eq_mapM_toList
    rw [hf, hm]
    simp [hvs]
  split at h
  · rename_i x hx
    cases h
    obtain ⟨vs, h1, v, l', rfl, h3, h4⟩ := retL_ok H hx
    have h4' : l' = [] := h4
    subst h4'
    exact ⟨v, by have := hres _ h1; simpa using this, h3⟩
  · rename_i xs hne hx
    cases h
    obtain ⟨vs, h1, h2⟩ := retL_ok H hx
    refine ⟨.tuple vs.toArray, ?_, vs.toArray, rfl, by simpa using h2⟩
    have := hres _ h1
    have hlen : vs.length ≠ 1 := by
      intro hl
      match vs, hl, h2 with
      | [v], _, h2 =>
        cases xs with
        | nil => cases h2
        | cons x r =>
          obtain ⟨v', l', he, _, h5⟩ := h2
          cases he
          cases r with
          | nil => exact hne x rfl
          | cons _ _ => obtain ⟨_, _, he, _⟩ := h5; cases he
    simpa [hlen] using this
  · cases h
end
def slotsOf : Nat → List AV → List (Nat × AV)
  | _, [] => []
  | k, av :: r => (k, av) :: slotsOf (k + 1) r
theorem All2.get {α γ : Type} {p : α → γ → Prop} : ∀ {l : List α} {m : List γ}, All2 p l m → l.length = m.length ∧ ∀ (i : Nat) (x : α), l[i]? = some x → ∃ y, m[i]? = some y ∧ p x y
  | [], [], _ => ⟨rfl, fun i x h => by simp at h⟩
  | x :: l, y :: m, h => by
    obtain ⟨h1, h2⟩ := All2.get h.2
    refine ⟨by simp [h1], fun i z hz => ?_⟩
    cases i with
    | zero => simp at hz; subst hz; exact ⟨y, by simp, h.1⟩
    | succ i => simp at hz; obtain ⟨u, h3, h4⟩ := h2 i z hz; exact ⟨u, by simpa using h3, h4⟩
  | [], _ :: _, h => h.elim
  | _ :: _, [], h => h.elim
theorem slotsOf_get : ∀ {l : List AV} {k t : Nat} {av : AV}, lookL t (slotsOf k l) = some av → k ≤ t ∧ l[t - k]? = some av
  | [], _, _, _, h => by cases h
  | x :: r, k, t, av, h => by
    unfold slotsOf lookL at h
    by_cases e : k = t
    · subst e; simp at h; exact ⟨Nat.le_refl _, by simp [h]⟩
    · rw [beqF e, cond_false] at h
      obtain ⟨h1, h2⟩ := slotsOf_get h
      refine ⟨by omega, ?_⟩
      rw [show t - k = (t - (k + 1)) + 1 by omega]
      simpa using h2
/-- A call, by evaluation of the body. -/
theorem fn_calls {F : FnE} {cx : Cx} {β : Be} {avs : List AV} {mem : List MB} {vs : List Value} {w : World} {f : FuncId} {fn : Func} {c : Code} {post : AV → St → Prop} (hE : EvOK F.E) (hm : F.E.P.follows .mixedOrders = true) (hgl : cx.gl = F.E.gl ∧ cx.pins = F.E.pins) (hf : F.E.P.funcs[f]? = some fn) (hb : fn.body = some c)
    (hu : Upd cx.W cx.w0 w) (hg : ∀ g l, (g, l) ∈ cx.gl → Lies cx g 0 l) (hpin : ∀ j, j < cx.pins → β j = cx.pin j) (hD : All2 (DA cx β) avs vs) (hle : vs.length ≤ fn.ntmps) (hobj : ∀ i mb, getL mem i = some mb → ObjAt cx β w i mb)
    (hap : ∀ i j x y, i ≠ j → getL mem i = some x → getL mem j = some y → x.rw = true → y.live = true → ∀ g n g' n', β i = some (g, n) → β j = some (g', n') → g ≠ g')
    (hw : wpE F c ⟨fn.ntmps, slotsOf 0 avs, mem⟩ (finK F.E.P fn.results.toList post)) :
    Calls F.E.P f vs.toArray w (fun e w' => ∃ v av σ' β' a', e = .returned v ∧ DA cx β' av v ∧ post av σ' ∧ Holds cx β' σ'.n σ'.gs σ'.gm a' w') := by
  obtain ⟨hlen, hget⟩ := hD.get
  have H : Holds cx β fn.ntmps (St.gs ⟨fn.ntmps, slotsOf 0 avs, mem⟩) (St.gm ⟨fn.ntmps, slotsOf 0 avs, mem⟩) ⟨vs.toArray ++ Array.replicate (fn.ntmps - vs.toArray.size) undef, []⟩ w := by
    refine ⟨hu, hg, hpin, rfl, by simp; omega, fun t av ht => ?_, hobj, hap⟩
    obtain ⟨_, h2⟩ := slotsOf_get ht
    rw [Nat.sub_zero] at h2
    obtain ⟨y, h3, h4⟩ := hget t av h2
    refine ⟨y, ?_, h4⟩
    have hlt : t < vs.length := (List.getElem?_eq_some_iff.1 h3).1
    rw [Array.getElem?_append_left (by simpa using hlt)]
    simpa using h3
  refine calls_of_wp hf hb (wp_mono (wpE_ok hE hm hgl c _ _ β _ w hw H) ?_)
  rintro e a' w' ⟨e', σ', β', rfl, hk, H'⟩
  cases e' with
  | exit i => exact hk.elim
  | normal =>
    simp only [finK] at hk
    split at hk
    · rename_i av hav
      obtain ⟨v, h1, h2⟩ := retE_ok H' hav
      exact ⟨H'.defers, v, h1, v, av, σ', β', a', rfl, h2, hk, H'⟩
    · exact hk.elim
  | ret =>
    simp only [finK] at hk
    split at hk
    · rename_i av hav
      obtain ⟨v, h1, h2⟩ := retE_ok H' hav
      exact ⟨H'.defers, v, h1, v, av, σ', β', a', rfl, h2, hk, H'⟩
    · exact hk.elim
end Go.Proofs.Ythlleheeghiljaa
