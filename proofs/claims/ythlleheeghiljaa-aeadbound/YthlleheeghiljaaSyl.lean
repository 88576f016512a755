/-
  Operations by evaluation: structs and arrays of anything, slices of arrays, fields, copy, functions with what they caught. For any program.
-/
import Derived.Test.YthlleheeghiljaaSyi
namespace Go.Proofs.Ythlleheeghiljaa
open Go.RowKit

def placesT (P : Program) (T : TypeId) : Option (Nat → Option (Nat × Nat)) := match P.underlying T with
  | some (.array _ e) => match P.info? e with
    | some ie => some (fun i => some (i * ie.size, ie.size))
    | none => none
  | some (.struct fs) => match fs.toList.mapM (fun f => (P.info? f.type).map fun i => (f.offset, i.size)) with
    | some places => some (fun i => getL places i)
    | none => none
  | _ => none
def zeroT (P : Program) (T : TypeId) : Option Value := match P.info? T with
  | some it => it.zero
  | none => none
/-- A part is laid over what is there. -/
def putA (s : List Seg) (off size : Nat) : AV → Option (List Seg × List Prop)
  | .o (.c c) => cond (Nat.beq size 1) (match setCell s off none c with | some (t, o) => some (t, oneC c ++ o) | none => none) none
  | .o (.g x) => cond (Nat.beq (segsLen x) size) (setPart s off none x) none
  | _ => none
def putAll (pl : Nat → Option (Nat × Nat)) : List Seg → List (Nat × Operand) → List (Option AV) → Option (List Seg × List Prop)
  | s, [], [] => some (s, [])
  | s, (i, _) :: r, some av :: q => match pl i with
    | some (off, size) => match putA s off size av with
      | some (t, o) => match putAll pl t r q with
        | some (u, o') => some (u, o ++ o')
        | none => none
      | none => none
    | none => none
  | _, _, _ => none
def evBuildG (P : Program) (T : TypeId) (ps : Array (Nat × Operand)) (avs : List (Option AV)) : Option Rec := match zeroT P T, placesT P T with
  | some z, some pl => match cutV (shp P 8 T) z.cells.toList with
    | some s => match putAll pl s ps.toList avs with
      | some (t, obl) => val (.o (.g t)) obl
      | none => none
    | none => none
  | _, _ => none
/-- A slice of arrays of numbers, written out in order. -/
def seqG (es : Nat) (k : IntKind) : Nat → List (Nat × Operand) → List (Option AV) → Option (List Int × List Prop)
  | _, [], [] => some ([], [])
  | j, (i, _) :: r, some (.o (.g [.many n (.i k' l)])) :: s => cond (Nat.beq i j && Nat.beq n es && kindB k k') (match seqG es k (j + 1) r s with | some (x, o) => some (l ++ x, o) | none => none) none
  | _, _, _ => none
def evBuildSG (P : Program) (T : TypeId) (len : Nat) (ps : Array (Nat × Operand)) (base : Nat) (avs : List (Option AV)) : Option Rec := match elemT P T with
  | some (e, inf, _) => match arrT P e with
    | some (_, _, k) => cond (Nat.beq ps.toList.length len && Nat.ble (len * inf.size) 16777216) (match seqG inf.size k 0 ps.toList avs with
      | some (l, o) => some ⟨.o (.c (.os base inf.size len)), 0, [.grow e inf.size (.i k l)], [], [], o⟩
      | none => none) none
    | none => none
  | none => none
/-- Cells that are all numbers of bytes, as one list. -/
def flatI : List Seg → Option (List Int)
  | [] => some []
  | .many _ (.i .u8 l) :: r => match flatI r with
    | some x => some (l ++ x)
    | none => none
  | _ => none
/-- A slice of structs of bytes, written out in order. -/
def seqS (es : Nat) : Nat → List (Nat × Operand) → List (Option AV) → Option (List Seg × List Int)
  | _, [], [] => some ([], [])
  | j, (i, _) :: r, some (.o (.g x)) :: s => cond (Nat.beq i j && Nat.beq (segsLen x) es) (match flatI x, seqS es (j + 1) r s with | some y, some (t, z) => some (x ++ t, y ++ z) | _, _ => none) none
  | _, _, _ => none
def evBuildSS (P : Program) (T : TypeId) (len : Nat) (ps : Array (Nat × Operand)) (base : Nat) (avs : List (Option AV)) : Option Rec := match elemT P T with
  | some (e, inf, _) => cond (Nat.beq ps.toList.length len && Nat.ble (len * inf.size) 16777216) (match seqS inf.size 0 ps.toList avs with
      | some (sg, _) => some ⟨.o (.c (.os base inf.size len)), 0, [.gs e sg], [], [], []⟩
      | none => none) none
  | none => none
def evField (P : Program) (T : TypeId) (f : Nat) : List (Option AV) → Option Rec
  | [some (.o (.g s))] => match P.underlying T with
    | some (.struct fs) => match getL fs.toList f with
      | some fd => match aggT P fd.type with
        | some false => cOf (getCell s fd.offset none)
        | some true => match sizeT P fd.type with
          | some n => gOf (getPart s fd.offset none n)
          | none => none
        | none => none
      | none => none
    | _ => none
  | _ => none
def evCopy (P : Program) (t : TypeId) : List (Option AV) → List (Option MB) → Option Rec
  | [some (.o (.c (.sub i b k n))), some (.o (.c s))], some (.fix ty sg) :: cts => match P.underlying t with
    | some (.slice e) => match sizeT P e with
      | some 1 => match srcE 1 s (match cts with | x :: _ => x | [] => none) with
        | some (m, l, obl) => match setPart sg b (some k) [.many (Nat.min m n) (l.cut 0 (Nat.min m n))] with
          | some (s', o2) => some ⟨vv (.int .i64 (Nat.min m n : Nat)), 0, [], [(i, .fix ty s')], [], obl ++ o2⟩
          | none => none
        | none => none
      | _ => none
    | _ => none
  | [some (.o (.c (.sub _ _ _ _))), some (.o (.c (.v (.slice none 0 0))))], _ => match P.underlying t with
    | some (.slice e) => match sizeT P e with
      | some 1 => val (vv (.int .i64 0)) []
      | _ => none
    | _ => none
  | _, _ => none
def capsOf : List (Option AV) → Option (List (Nat × Nat))
  | [] => some []
  | some (.o (.c (.ptr i b none))) :: r => match capsOf r with | some l => some ((i, b) :: l) | none => none
  | _ => none
/-- A method with its receiver. -/
def evMakeM : Fn → List (Option AV) → Option Rec
  | .func f, [some (.o (.c (.ptr i b k)))] => val (.o (.c (.fm f i (b + kz k)))) []
  | _, _ => none
def evMakeF : Fn → List Operand → List (Option AV) → Option Rec
  | .func f, [], avs => match capsOf avs with | some l => val (.o (.c (.fn f l))) [] | none => none
  | _, _, _ => none
section
variable {cx : Cx} {β : Be}
theorem putA_ok {s t : List Seg} {off size : Nat} {av : AV} {obl : List Prop} (h : putA s off size av = some (t, obl)) (ho : allP obl) {v : Value} (d : DA cx β av v) {arr : Array Value} (ds : DL cx β s arr.toList) :
    v.cells.size = size ∧ off + size ≤ arr.size ∧ DL cx β t (splice arr off v.cells.toList).toList := by
  unfold putA at h
  split at h
  · rename_i c
    cases hb : Nat.beq size 1 with
    | false => rw [hb] at h; cases h
    | true =>
      rw [hb, cond_true] at h
      have hs := Nat.eq_of_beq_eq_true hb
      split at h
      · rename_i t' o hc
        cases h
        rw [allP_append] at ho
        have one := oneC_ok ho.1 d
        obtain ⟨h1, h2⟩ := setCell_ok hc ho.2 d one ds
        simp only [kz, Nat.add_zero, Array.length_toList] at h1 h2
        have hcs := cells_one one
        have hsz : v.cells.size = 1 := by rw [← Array.length_toList, hcs]; rfl
        refine ⟨by omega, by omega, ?_⟩
        rw [hcs]
        have : (splice arr off [v]).toList = arr.toList.set off v := by
          rw [List.set_eq_take_append_cons_drop, if_pos (by rw [Array.length_toList]; exact h1)]
          simp [splice]
        rw [this]; exact h2
      · cases h
  · rename_i x
    cases hb : Nat.beq (segsLen x) size with
    | false => rw [hb] at h; cases h
    | true =>
      rw [hb, cond_true] at h
      have hs := Nat.eq_of_beq_eq_true hb
      obtain ⟨arr2, rfl, d2⟩ := d
      obtain ⟨h1, h2⟩ := setPart_ok h ho d2 ds
      simp only [kz, Nat.add_zero, Array.length_toList] at h1 h2
      have hl := DL_len d2
      rw [Array.length_toList] at hl
      refine ⟨by show arr2.size = size; omega, by omega, ?_⟩
      exact h2
  · cases h
end
section
variable {E : Ev} {o : Oper} {gs : Nat → Option AV} {gm : Nat → Option MB} {base : Nat} {tg : List Nat} {r : Rec}
theorem putAll_ok {pl : Nat → Option (Nat × Nat)} {a : Act} {cx : Cx} {β : Be} {w : World} (hp : Pre E cx β o gs gm base tg a w) : ∀ {ps : List (Nat × Operand)} {s t : List Seg} {obl : List Prop}, (∀ p ∈ ps, p.2 ∈ o.op.operands) → putAll pl s ps (ps.map fun p => opnd E gs p.2) = some (t, obl) → allP obl → ∀ {arr : Array Value}, DL cx β s arr.toList →
    ∃ arr', Instr.fill pl arr (ps.map fun p => (p.1, a.eval p.2)) = some arr' ∧ DL cx β t arr'.toList
  | [], s, t, obl, _, h, _, arr, d => by cases h; exact ⟨arr, rfl, d⟩
  | (i, x) :: r, s, t, obl, hm, h, ho, arr, d => by
    simp only [List.map_cons] at h ⊢
    cases hx : opnd E gs x with
    | none => rw [hx] at h; cases s <;> cases h
    | some av =>
      rw [hx] at h
      unfold putAll at h
      split at h
      · rename_i off size hpl
        split at h
        · rename_i t1 o1 h1
          split at h
          · rename_i u o2 h2
            cases h
            rw [allP_append] at ho
            obtain ⟨e1, e2, e3⟩ := putA_ok h1 ho.1 (hp.ops x (hm (i, x) (by simp)) _ hx).1 d
            obtain ⟨arr', e4, e5⟩ := putAll_ok hp (fun p hp' => hm p (by simp [hp'])) h2 ho.2 e3
            exact ⟨arr', by rw [fill_agg pl arr i off size _ _ hpl e1 e2]; exact e4, e5⟩
          · cases h
        · cases h
      · cases h
theorem ok_buildG {T : TypeId} {ps : Array (Nat × Operand)} (ho : o.op = .build T ps) (h : evBuildG E.P T ps (o.op.operands.toList.map (opnd E gs)) = some r) (hobl : allP r.obl) : OpOK E o gs gm base { r with base := base, tg := tg } := by
  have hops : o.op.operands.toList = ps.toList.map (·.2) := by rw [ho]; simp [Op.operands]
  rw [hops, List.map_map] at h
  unfold evBuildG at h
  split at h
  · rename_i z pl hz hpl
    split at h
    · rename_i s hs
      split at h
      · rename_i t obl ht
        obtain rfl := val_eq h
        refine okVal fun cx β a w hp => ?_
        have hm : ∀ p ∈ ps.toList, p.2 ∈ o.op.operands := fun p hp' => by
          have : p.2 ∈ o.op.operands.toList := by rw [hops]; exact List.mem_map.2 ⟨p, hp', rfl⟩
          simpa using this
        obtain ⟨arr, e1, e2⟩ := putAll_ok hp (arr := z.cells) hm ht hobl (cutV_ok hs)
        have hbuilt : E.P.built T (ps.map fun (i, x) => (i, a.eval x)).toList = some arr := by
          rw [Array.toList_map]
          unfold zeroT at hz
          unfold placesT at hpl
          unfold Program.built
          split at hz
          · rename_i it hit
            rw [hit]
            split at hpl
            · rename_i n e hu
              rw [hu]
              simp only [hz]
              split at hpl
              · rename_i ie hie
                cases hpl
                rw [hie]
                exact e1
              · cases hpl
            · rename_i fs hu
              rw [hu]
              simp only [hz]
              split at hpl
              · rename_i places hpp
                cases hpl
                rw [hpp]
                simp only [] at e1 ⊢
                rw [← e1]
                congr 1
                funext i
                rw [getL_eq]; simp
              · cases hpl
            · cases hpl
          · cases hz
        refine ⟨.agg arr, ?_, ⟨arr, rfl, e2⟩⟩
        have hrun := run_build (P := E.P) w T (ps.map fun (i, x) => (i, a.eval x)) arr hbuilt
        unfold execOp
        simp only [ho, Sem.run_bind, hrun, Result.andThen_ok]
        rfl
      · cases h
    · cases h
  · cases h
theorem seqG_ok {a : Act} {cx : Cx} {β : Be} {w : World} {es : Nat} {k : IntKind} (hp : Pre E cx β o gs gm base tg a w) : ∀ {ps : List (Nat × Operand)} {j : Nat} {l : List Int} {obl : List Prop}, (∀ p ∈ ps, p.2 ∈ o.op.operands) → seqG es k j ps (ps.map fun p => opnd E gs p.2) = some (l, obl) → ∀ (arr : Array Value), (j + ps.length) * es ≤ arr.size →
    l.length = ps.length * es ∧ Instr.fill (fun i => some (i * es, es)) arr (ps.map fun p => (p.1, a.eval p.2)) = some (arr.toList.take (j * es) ++ l.map (Value.int k) ++ arr.toList.drop ((j + ps.length) * es)).toArray
  | [], j, l, obl, _, h, arr, hs => by cases h; simp [Instr.fill]
  | (i, x) :: r, j, l, obl, hm, h, arr, hs => by
    simp only [List.map_cons] at h ⊢
    unfold seqG at h
    split at h
    · rename_i heq; cases heq
    · rename_i j _ _ _ i' x' r' n k' l' s' e1 e2
      simp only [List.cons.injEq, Prod.mk.injEq] at e1 e2
      obtain ⟨⟨rfl, rfl⟩, rfl⟩ := e1
      obtain ⟨hx, rfl⟩ := e2
      cases hb : (Nat.beq i j && Nat.beq n es && kindB k k') with
      | false => rw [hb] at h; cases h
      | true =>
        rw [hb, cond_true] at h
        simp only [Bool.and_eq_true] at hb
        obtain ⟨⟨b1, b2⟩, b3⟩ := hb
        obtain rfl := Nat.eq_of_beq_eq_true b1
        obtain rfl := Nat.eq_of_beq_eq_true b2
        obtain rfl := kindB_eq b3
        split at h
        · rename_i y o' hy
          cases h
          obtain ⟨arr2, d1, l2, d2, d3, d4, d5⟩ := (hp.ops x (hm (i, x) (by simp)) _ hx).1
          have d5' : l2 = [] := d5
          subst d5'
          rw [List.append_nil] at d2
          have d2' : arr2.toList = l'.map (Value.int k) := d2
          have d3' : l'.length = n := d3
          have hsz : arr2.size = n := by rw [← Array.length_toList, d2', List.length_map, d3']
          rw [List.length_cons] at hs
          have hge : i * n + n ≤ arr.size := by
            have : (i + (r.length + 1)) * n = i * n + n + r.length * n := by rw [Nat.add_mul, Nat.add_mul]; omega
            omega
          have hf := fill_agg (fun i => some (i * n, n)) arr i (i * n) n (a.eval x) (r.map fun p => (p.1, a.eval p.2)) rfl (by rw [d1]; exact hsz) hge
          rw [hf, d1]
          show _ ∧ Instr.fill _ (splice arr (i * n) arr2.toList) _ = _
          rw [d2']
          have hsp : (splice arr (i * n) (l'.map (Value.int k))).size = arr.size := splice_size _ _ _ (by rw [List.length_map]; omega)
          have e0 : (i + 1 + r.length) * n = (i + (r.length + 1)) * n := by rw [show i + 1 + r.length = i + (r.length + 1) by omega]
          obtain ⟨f1, f2⟩ := seqG_ok hp (fun p hp' => hm p (by simp [hp'])) hy (splice arr (i * n) (l'.map (Value.int k))) (by rw [hsp, e0]; exact hs)
          refine ⟨by rw [List.length_append, f1, d3', List.length_cons, Nat.add_mul]; omega, ?_⟩
          rw [f2]
          congr 2
          unfold splice
          have hk : (arr.toList.take (i * n)).length = i * n := by rw [List.length_take, Array.length_toList]; omega
          have e3 : (i + 1) * n = i * n + n := by rw [Nat.add_mul]; omega
          have e4 : (i + 1 + r.length) * n = i * n + n + r.length * n := by rw [Nat.add_mul, e3]
          have e5 : (i + (r.length + 1)) * n = i * n + n + r.length * n := by rw [show i + (r.length + 1) = i + 1 + r.length by omega, e4]
          rw [List.length_cons, e3, e4, e5]
          simp only [List.length_map, d3']
          rw [List.take_append_of_le_length (by rw [List.length_append, hk, List.length_map, d3']; omega), List.take_of_length_le (by rw [List.length_append, hk, List.length_map, d3']; omega)]
          rw [List.drop_append, List.drop_of_length_le (by rw [List.length_append, hk, List.length_map, d3']; omega), List.nil_append]
          rw [List.length_append, hk, List.length_map, d3', List.drop_drop, List.map_append]
          simp only [List.append_assoc]
          congr 4
          omega
        · cases h
    · cases h
theorem ok_buildSG {T : TypeId} {len : Nat} {ps : Array (Nat × Operand)} (ho : o.op = .buildSlice T len ps) (h : evBuildSG E.P T len ps base (o.op.operands.toList.map (opnd E gs)) = some r) : OpOK E o gs gm base { r with base := base, tg := tg } := by
  have hops : o.op.operands.toList = ps.toList.map (·.2) := by rw [ho]; simp [Op.operands]
  rw [hops, List.map_map] at h
  unfold evBuildSG at h
  split at h
  · rename_i e inf z hel
    split at h
    · rename_i n0 e0 k hk
      cases hb : (Nat.beq ps.toList.length len && Nat.ble (len * inf.size) 16777216) with
      | false => rw [hb] at h; cases h
      | true =>
        rw [hb, cond_true] at h
        rw [Bool.and_eq_true] at hb
        have hl := Nat.eq_of_beq_eq_true hb.1
        have h24 := Nat.le_of_ble_eq_true hb.2
        obtain ⟨q1, q2, q3, q4, q5⟩ := elemT_ok hel
        split at h
        · rename_i l obl hsq
          cases h
          refine okNew fun cx β a w hp => ?_
          have hm : ∀ p ∈ ps.toList, p.2 ∈ o.op.operands := fun p hp' => by
            have : p.2 ∈ o.op.operands.toList := by rw [hops]; exact List.mem_map.2 ⟨p, hp', rfl⟩
            simpa using this
          have hfill : ∀ arr : Array Value, arr.size = len * inf.size → l.length = len * inf.size ∧ Instr.fill (fun i => some (i * inf.size, inf.size)) arr ((ps.map fun x => (x.fst, a.eval x.snd)).toList) = some (l.map (Value.int k)).toArray := by
            intro arr ha
            obtain ⟨f1, f2⟩ := seqG_ok hp hm hsq arr (by rw [Nat.zero_add, hl]; omega)
            refine ⟨by rw [f1, hl], ?_⟩
            rw [Array.toList_map, f2]
            congr 2
            rw [Nat.zero_mul, List.take_zero, List.nil_append, Nat.zero_add, hl, List.drop_of_length_le (by rw [Array.length_toList]; omega), List.append_nil]
          have hlen : l.length = len * inf.size := (hfill (Array.replicate (len * inf.size) undef) (by simp)).1
          have hb24 : ¬ (len * inf.size > 2 ^ 24) := by omega
          have hrun : (execOp a.eval o).run E.P w = .ok (.value (.slice (some ⟨w.heap.size, 0, none⟩) len len)) (w.alloc (.cells (l.map (Value.int k)).toArray e)) := by
            unfold execOp
            simp only [ho, Instr.buildSlice, Sem.run_bind, run_underlying q1, Result.andThen_ok, run_size (show sizeT E.P e = some inf.size by simp [sizeT, q2]), hb24, if_false, Sem.run_pure]
            by_cases h0 : len * inf.size = 0
            · have := (hfill ((Array.range 0).map fun x => (#[] : Array Value)[x % (#[] : Array Value).size]!) (by simp; omega)).2
              simp only [h0, if_true]
              rw [Sem.run_bind, Sem.run_pure, Result.andThen_ok, this]
              simp [newRow, go_sem]
            · have hz : ∀ w, (zeroValue e).run E.P w = .ok z w := fun w => by simp [zeroValue, typeInfo, q2, q3]
              have := (hfill ((Array.range (len * inf.size)).map fun x => z.cells[x % z.cells.size]!) (by simp)).2
              simp only [h0, if_false, Sem.run_bind, hz, Result.andThen_ok, Sem.run_pure]
              rw [this]
              simp [newRow, go_sem]
          have hmx : len ≤ mx := by
            have : len * 1 ≤ len * inf.size := Nat.mul_le_mul_left _ q5
            unfold mx; omega
          refine ⟨_, _, some (w.heap.size, len * inf.size), hrun, (fun g n hg => by cases hg; exact Nat.le_refl _), .inr ⟨_, _, _, upB_self _ _ _, rfl, Nat.le_refl _, hmx, rfl⟩, .inr ⟨_, _, _, upB_self _ _ _, .inl hp.upd.size, Bk.new w _ e, by simpa using hlen, by show l.length ≤ _; omega, ?_, ?_⟩, (Upd.refl _ w).alloc _⟩
          · show (l.map (Value.int k)).take l.length = l.map (Value.int k)
            rw [List.take_of_length_le (by simp)]
          · intro u hu
            obtain ⟨y, _, rfl⟩ := List.mem_map.1 hu
            rfl
        · cases h
    · cases h
  · cases h
theorem flatI_ok {cx : Cx} {β : Be} : ∀ {s : List Seg} {l : List Int}, flatI s = some l → ∀ {vs : List Value}, DL cx β s vs → vs = l.map (Value.int .u8) ∧ l.length = segsLen s ∧ idxL s = []
  | [], l, h, vs, d => by cases h; exact ⟨d, rfl, rfl⟩
  | .many n (.i .u8 k) :: r, l, h, vs, d => by
    rw [flatI] at h
    split at h
    · rename_i x hx
      cases h
      obtain ⟨l', d1, d2, _, d4⟩ := d
      obtain ⟨e1, e2, e3⟩ := flatI_ok hx d4
      have d2' : k.length = n := d2
      refine ⟨?_, ?_, e3⟩
      · rw [d1, e1, List.map_append]; rfl
      · rw [List.length_append, e2, d2']; rfl
    · cases h
  | .one _ :: _, _, h, _, _ => by cases h
  | .rsv _ :: _, _, h, _, _ => by cases h
  | .many _ (.v _) :: _, _, h, _, _ => by cases h
  | .many _ (.i .i8 _) :: _, _, h, _, _ => by cases h
  | .many _ (.i .i16 _) :: _, _, h, _, _ => by cases h
  | .many _ (.i .i32 _) :: _, _, h, _, _ => by cases h
  | .many _ (.i .i64 _) :: _, _, h, _, _ => by cases h
  | .many _ (.i .u16 _) :: _, _, h, _, _ => by cases h
  | .many _ (.i .u32 _) :: _, _, h, _, _ => by cases h
  | .many _ (.i .u64 _) :: _, _, h, _, _ => by cases h
theorem DL_app {cx : Cx} {β : Be} : ∀ {s t : List Seg} {a b : List Value}, DL cx β s a → DL cx β t b → DL cx β (s ++ t) (a ++ b)
  | [], _, _, _, d, d' => by have e : _ = [] := d; subst e; exact d'
  | .one c :: r, _, _, _, ⟨v, l', h1, h2, h3, h4⟩, d' => ⟨v, l' ++ _, by rw [h1]; rfl, h2, h3, DL_app h4 d'⟩
  | .many n xs :: r, _, _, _, ⟨l', h1, h2, h3, h4⟩, d' => ⟨l' ++ _, by rw [h1, List.append_assoc], h2, h3, DL_app h4 d'⟩
  | .rsv x :: r, _, _, _, ⟨vs, l', h1, h2, h3⟩, d' => ⟨vs, l' ++ _, by rw [h1, List.append_assoc], h2, DL_app h3 d'⟩
theorem seqS_ok {a : Act} {cx : Cx} {β : Be} {w : World} {es : Nat} (hp : Pre E cx β o gs gm base tg a w) : ∀ {ps : List (Nat × Operand)} {j : Nat} {sg : List Seg} {l : List Int}, (∀ p ∈ ps, p.2 ∈ o.op.operands) → seqS es j ps (ps.map fun p => opnd E gs p.2) = some (sg, l) → (DL cx β sg (l.map (Value.int .u8)) ∧ idxL sg = [] ∧ l.length = ps.length * es) ∧ ∀ (arr : Array Value), (j + ps.length) * es ≤ arr.size →
    Instr.fill (fun i => some (i * es, es)) arr (ps.map fun p => (p.1, a.eval p.2)) = some (arr.toList.take (j * es) ++ l.map (Value.int .u8) ++ arr.toList.drop ((j + ps.length) * es)).toArray
  | [], j, sg, l, _, h => by cases h; exact ⟨⟨rfl, rfl, by simp⟩, fun arr hs => by simp [Instr.fill]⟩
  | (i, x) :: r, j, sg, l, hm, h => by
    simp only [List.map_cons] at h ⊢
    unfold seqS at h
    split at h
    · rename_i heq; cases heq
    · rename_i j _ _ _ i' x' r' xs s' e1 e2
      simp only [List.cons.injEq, Prod.mk.injEq] at e1 e2
      obtain ⟨⟨rfl, rfl⟩, rfl⟩ := e1
      obtain ⟨hx, rfl⟩ := e2
      cases hb : (Nat.beq i j && Nat.beq (segsLen xs) es) with
      | false => rw [hb] at h; cases h
      | true =>
        rw [hb, cond_true] at h
        simp only [Bool.and_eq_true] at hb
        obtain ⟨b1, b2⟩ := hb
        obtain rfl := Nat.eq_of_beq_eq_true b1
        have b2 := Nat.eq_of_beq_eq_true b2
        split at h
        · rename_i l' t z hl' hy
          cases h
          obtain ⟨arr2, d1, dd⟩ := (hp.ops x (hm (i, x) (by simp)) _ hx).1
          obtain ⟨d2', d3, d4⟩ := flatI_ok hl' dd
          have d3' : l'.length = es := d3.trans b2
          obtain ⟨⟨f0, f01, f1⟩, f2⟩ := seqS_ok hp (fun p hp' => hm p (by simp [hp'])) hy
          refine ⟨⟨?_, ?_, by rw [List.length_append, f1, d3', List.length_cons, Nat.add_mul]; omega⟩, fun arr hs => ?_⟩
          · rw [List.map_append, ← d2']; exact DL_app dd f0
          · rw [idxL_append, d4, f01]; rfl
          have hsz : arr2.size = es := by rw [← Array.length_toList, d2', List.length_map, d3']
          rw [List.length_cons] at hs
          have hge : i * es + es ≤ arr.size := by
            have : (i + (r.length + 1)) * es = i * es + es + r.length * es := by rw [Nat.add_mul, Nat.add_mul]; omega
            omega
          have hf := fill_agg (fun i => some (i * es, es)) arr i (i * es) es (a.eval x) (r.map fun p => (p.1, a.eval p.2)) rfl (by rw [d1]; exact hsz) hge
          rw [hf, d1]
          show Instr.fill _ (splice arr (i * es) arr2.toList) _ = _
          rw [d2']
          have hsp : (splice arr (i * es) (l'.map (Value.int .u8))).size = arr.size := splice_size _ _ _ (by rw [List.length_map]; omega)
          have e0 : (i + 1 + r.length) * es = (i + (r.length + 1)) * es := by rw [show i + 1 + r.length = i + (r.length + 1) by omega]
          rw [f2 (splice arr (i * es) (l'.map (Value.int .u8))) (by rw [hsp, e0]; exact hs)]
          congr 2
          unfold splice
          have hk : (arr.toList.take (i * es)).length = i * es := by rw [List.length_take, Array.length_toList]; omega
          have e3 : (i + 1) * es = i * es + es := by rw [Nat.add_mul]; omega
          have e4 : (i + 1 + r.length) * es = i * es + es + r.length * es := by rw [Nat.add_mul, e3]
          have e5 : (i + (r.length + 1)) * es = i * es + es + r.length * es := by rw [show i + (r.length + 1) = i + 1 + r.length by omega, e4]
          rw [List.length_cons, e3, e4, e5]
          simp only [List.length_map, d3']
          rw [List.take_append_of_le_length (by rw [List.length_append, hk, List.length_map, d3']; omega), List.take_of_length_le (by rw [List.length_append, hk, List.length_map, d3']; omega)]
          rw [List.drop_append, List.drop_of_length_le (by rw [List.length_append, hk, List.length_map, d3']; omega), List.nil_append]
          rw [List.length_append, hk, List.length_map, d3', List.drop_drop, List.map_append]
          simp only [List.append_assoc]
          congr 4
          omega
        · cases h
    · cases h
theorem ok_buildSS {T : TypeId} {len : Nat} {ps : Array (Nat × Operand)} (ho : o.op = .buildSlice T len ps) (h : evBuildSS E.P T len ps base (o.op.operands.toList.map (opnd E gs)) = some r) : OpOK E o gs gm base { r with base := base, tg := tg } := by
  have hops : o.op.operands.toList = ps.toList.map (·.2) := by rw [ho]; simp [Op.operands]
  rw [hops, List.map_map] at h
  unfold evBuildSS at h
  split at h
  · rename_i e inf z hel
    cases hb : (Nat.beq ps.toList.length len && Nat.ble (len * inf.size) 16777216) with
    | false => rw [hb] at h; cases h
    | true =>
      rw [hb, cond_true] at h
      rw [Bool.and_eq_true] at hb
      have hl := Nat.eq_of_beq_eq_true hb.1
      have h24 := Nat.le_of_ble_eq_true hb.2
      obtain ⟨q1, q2, q3, q4, q5⟩ := elemT_ok hel
      split at h
      · rename_i sg l hsq
        cases h
        refine okNew fun cx β a w hp => ?_
        have hm : ∀ p ∈ ps.toList, p.2 ∈ o.op.operands := fun p hp' => by
          have : p.2 ∈ o.op.operands.toList := by rw [hops]; exact List.mem_map.2 ⟨p, hp', rfl⟩
          simpa using this
        obtain ⟨⟨g1, g2, g3⟩, g4⟩ := seqS_ok hp hm hsq
        have hlen : l.length = len * inf.size := by rw [g3, hl]
        have hfill : ∀ arr : Array Value, arr.size = len * inf.size → Instr.fill (fun i => some (i * inf.size, inf.size)) arr ((ps.map fun x => (x.fst, a.eval x.snd)).toList) = some (l.map (Value.int .u8)).toArray := by
          intro arr ha
          have f2 := g4 arr (by rw [Nat.zero_add, hl]; omega)
          rw [Array.toList_map, f2]
          congr 2
          rw [Nat.zero_mul, List.take_zero, List.nil_append, Nat.zero_add, hl, List.drop_of_length_le (by rw [Array.length_toList]; omega), List.append_nil]
        have hb24 : ¬ (len * inf.size > 2 ^ 24) := by omega
        have hrun : (execOp a.eval o).run E.P w = .ok (.value (.slice (some ⟨w.heap.size, 0, none⟩) len len)) (w.alloc (.cells (l.map (Value.int .u8)).toArray e)) := by
          unfold execOp
          simp only [ho, Instr.buildSlice, Sem.run_bind, run_underlying q1, Result.andThen_ok, run_size (show sizeT E.P e = some inf.size by simp [sizeT, q2]), hb24, if_false, Sem.run_pure]
          by_cases h0 : len * inf.size = 0
          · have := (hfill ((Array.range 0).map fun x => (#[] : Array Value)[x % (#[] : Array Value).size]!) (by simp; omega))
            simp only [h0, if_true]
            rw [Sem.run_bind, Sem.run_pure, Result.andThen_ok, this]
            simp [newRow, go_sem]
          · have hz : ∀ w, (zeroValue e).run E.P w = .ok z w := fun w => by simp [zeroValue, typeInfo, q2, q3]
            have := (hfill ((Array.range (len * inf.size)).map fun x => z.cells[x % z.cells.size]!) (by simp))
            simp only [h0, if_false, Sem.run_bind, hz, Result.andThen_ok, Sem.run_pure]
            rw [this]
            simp [newRow, go_sem]
        have hmx : len ≤ mx := by
          have : len * 1 ≤ len * inf.size := Nat.mul_le_mul_left _ q5
          unfold mx; omega
        refine ⟨_, _, some (w.heap.size, len * inf.size), hrun, (fun g n hg => by cases hg; exact Nat.le_refl _), .inr ⟨_, _, _, upB_self _ _ _, rfl, Nat.le_refl _, hmx, rfl⟩, .inr ⟨_, _, _, len * inf.size, upB_self _ _ _, .inl hp.upd.size, Bk.new w _ e, by simpa using hlen, Nat.le_refl _, ?_⟩, (Upd.refl _ w).alloc _⟩
        show DL _ _ sg ((l.map (Value.int .u8)).take (len * inf.size))
        rw [List.take_of_length_le (by rw [List.length_map, hlen]; exact Nat.le_refl _)]
        exact g1.congr (fun i hi => by rw [g2] at hi; cases hi)
      · cases h
  · cases h
theorem ok_field {T : TypeId} {x : Operand} {f : Nat} (ho : o.op = .field T x f) (h : evField E.P T f [opnd E gs x] = some r) (hobl : allP r.obl) : OpOK E o gs gm base { r with base := base, tg := tg } := by
  have hx : x ∈ o.op.operands := by simp [ho, Op.operands]
  unfold evField at h
  split at h
  · rename_i s he
    simp only [List.cons.injEq, and_true] at he
    split at h
    · rename_i fs hu
      split at h
      · rename_i fd hf
        rw [getL_eq, Array.getElem?_toList] at hf
        have agg : ∀ {b : Bool} (w : World), aggT E.P fd.type = some b → (isAgg fd.type).run E.P w = .ok b w := by
          intro b w hT
          unfold aggT at hT
          unfold isAgg
          cases hq : E.P.underlying fd.type with
          | none => rw [hq] at hT; cases hT
          | some d =>
            rw [hq] at hT
            rw [Sem.run_bind, run_underlying hq w]
            cases d <;> (cases hT; rfl)
        split at h
        · rename_i hT
          cases hc : getCell s fd.offset none with
          | none => rw [hc] at h; cases h
          | some p =>
            rw [hc] at h
            obtain ⟨c, obl⟩ := p
            obtain rfl := val_eq h
            refine okVal fun cx β a w hp => ?_
            obtain ⟨arr, e1, e2⟩ := (hp.ops x hx _ he).1
            obtain ⟨v, e3, e4, _⟩ := getCell_ok hc hobl e2
            refine ⟨v, ?_, e4⟩
            have e3' : arr[fd.offset]? = some v := by simpa [kz] using e3
            generalize a.eval = ev at e1 ⊢
            unfold execOp
            simp only [ho, Instr.field, Sem.run_bind, run_underlying hu, Result.andThen_ok, hf, e1, asAgg, Sem.run_pure, part, agg w hT, e3']
            rfl
        · rename_i hT
          split at h
          · rename_i n hn
            cases hc : getPart s fd.offset none n with
            | none => rw [hc] at h; cases h
            | some p =>
              rw [hc] at h
              obtain ⟨t, obl⟩ := p
              obtain rfl := val_eq h
              refine okVal fun cx β a w hp => ?_
              obtain ⟨arr, e1, e2⟩ := (hp.ops x hx _ he).1
              obtain ⟨e3, e4⟩ := getPart_ok hc hobl e2
              refine ⟨.agg (arr.extract fd.offset (fd.offset + n)), ?_, ⟨_, rfl, ?_⟩⟩
              · generalize a.eval = ev at e1 ⊢
                unfold execOp
                simp only [ho, Instr.field, Sem.run_bind, run_underlying hu, Result.andThen_ok, hf, e1, asAgg, Sem.run_pure, part, agg w hT, if_true, run_size hn]
              · have : (arr.extract fd.offset (fd.offset + n)).toList = (arr.toList.drop (fd.offset + kz none)).take n := by
                  simp [kz, Array.toList_extract]
                rw [this]; exact e4
          · cases h
        · cases h
      · cases h
    · cases h
  · cases h
/-- One object is written, and a value comes out. -/
theorem okWrV {i : Nat} {mb mb' : MB} {av : AV} {obl : List Prop} (hi : i ∈ tg) (hm : gm i = some mb) (hrw : mb.rw = true)
    (h : ∀ cx β a w, Pre E cx β o gs gm base tg a w → ∃ v w', (execOp a.eval o).run E.P w = .ok (.value v) w' ∧ DA cx β av v ∧ ObjAt cx β w' i mb' ∧ Upd (fun g => ∃ n, β i = some (g, n)) w w') : OpOK E o gs gm base ⟨av, base, [], [(i, mb')], tg, obl⟩ := by
  have hl : ∀ m z, lookL m [(i, mb')] = some z → m = i ∧ z = mb' := fun m z hz => by
    have := lookL_some hz
    simp only [List.mem_singleton, Prod.mk.injEq] at this
    exact this
  have hp : ∀ m z, Rec.put ⟨av, base, [], [(i, mb')], tg, obl⟩ m = some z → m = i ∧ z = mb' := fun m z hz => by
    rcases put_cases hz with h1 | ⟨_, _, h1⟩
    · exact hl m z h1
    · simp at h1
  refine ⟨fun m z hz => ?_, fun cx β a w Q hpre K hK => ?_⟩
  · obtain ⟨rfl, rfl⟩ := hl m z hz
    exact ⟨hi, mb, hm, hrw⟩
  · obtain ⟨v, w', h1, h0, h2, h3⟩ := h cx β a w hpre
    unfold Oper.wp
    rw [h1, Oper.upon_value]
    refine hK v w' β (fun _ _ _ => rfl) (fun _ _ _ => rfl) h0 (fun m z hz => ?_) (fun m z hn hz => ?_) (fun p q x y hpq hx hy => ?_) (h3.mono (fun g _ ⟨n, hg⟩ => ⟨i, mb', n, by simp [lookL], hg⟩))
    · obtain ⟨rfl, rfl⟩ := hp m z hz; exact h2
    · obtain ⟨rfl, rfl⟩ := hp m z hz; simp [lookL] at hn
    · obtain ⟨rfl, _⟩ := hp p x hx; obtain ⟨rfl, _⟩ := hp q y hy; exact (hpq rfl).elim
theorem ok_copy {x y : Operand} {t t' : TypeId} (ho : o.op = .call { callee := .builtin .copy, args := #[x, y], argTypes := #[t, t'] }) (htg : objsOf [opnd E gs x, opnd E gs y] = tg) (h : evCopy E.P t [opnd E gs x, opnd E gs y] (tg.map gm) = some r) (hobl : allP r.obl) : OpOK E o gs gm base { r with base := base, tg := tg } := by
  have hx : x ∈ o.op.operands := by simp [ho, Op.operands, Call.operands]
  have hy : y ∈ o.op.operands := by simp [ho, Op.operands, Call.operands]
  have run : ∀ {ev : Operand → Value} {w w' : World} {k : Nat}, (Builtin.copy_ #[t, t'] o.type #[ev x, ev y]).run E.P w = .ok (goInt k) w' → (execOp ev o).run E.P w = .ok (.value (.int .i64 k)) w' := by
    intro ev w w' k hr
    unfold execOp
    simp only [ho, resolve, Sem.run_bind, Sem.run_pure, Result.andThen_ok, invoke, builtin, List.map_toArray, List.map_cons, List.map_nil, hr]
    rfl
  unfold evCopy at h
  split at h
  · rename_i i b k n s ty sg cts he hcts
    simp only [List.cons.injEq, and_true] at he
    obtain ⟨h1, h2⟩ := he
    have htg' : tg = i :: s.idx := by rw [← htg, h1, h2]; simp [objsOf, C.idx]
    rw [htg'] at hcts
    simp only [List.map_cons, List.cons.injEq] at hcts
    obtain ⟨hgi, hcts⟩ := hcts
    split at h
    · rename_i e hT
      split at h
      · rename_i hsz
        split at h
        · rename_i m l obl hsrc
          split at h
          · rename_i s' o2 hset
            cases h
            rw [allP_append] at hobl
            have hsz' : (E.P.info? e).map (·.size) = some 1 := by
              unfold sizeT at hsz
              cases hi : E.P.info? e with
              | none => rw [hi] at hsz; cases hsz
              | some inf => rw [hi] at hsz; simp only [Option.some.injEq] at hsz; simp [hsz]
            refine okWrV (by rw [htg']; simp) hgi rfl fun cx β a w hp => ?_
            obtain ⟨sp, cap, d1, d2, d3, d4⟩ := (hp.ops x hx _ h1).1
            obtain ⟨sp2, cap2, s1, s2, s3, s4⟩ := srcE_ok hp.upd hsrc hobl.1 (hp.ops y hy _ h2).1 (fun j hj mb hmb => by
              have hjs : s.idx = [j] := by cases s <;> first | (simp only [C.idx, List.mem_singleton] at hj ⊢; rw [hj]) | (simp [C.idx] at hj; done) | (simp [srcE] at hsrc; done)
              rw [← hcts, hjs] at hmb
              exact (hp.obj j (by rw [htg', hjs]; simp) mb hmb).1)
            obtain ⟨g, n', arr, f1, f2, f3, f4, f5⟩ := (hp.obj i (by rw [htg']; simp) _ hgi).1
            have hml : l.len = m := by omega
            have hcl : (l.cut 0 (Nat.min m n)).len = Nat.min m n := L.cut_len _ _ _ (by rw [hml, Nat.zero_add]; exact Nat.min_le_left m n)
            have hone : ∀ u ∈ (l.cut 0 (Nat.min m n)).c, u.oneCell' = true := fun u hu => by
              rw [L.cut_c, List.drop_zero] at hu
              by_cases h0 : m = 0
              · subst h0
                have : (Nat.min 0 n) = 0 := Nat.zero_min n
                rw [this] at hu; simp at hu
              · rcases s3 u (List.mem_of_mem_take hu) with h | h
                · exact h
                · exact absurd h h0
            obtain ⟨p1, p2⟩ := setPart_ok hset hobl.2 (lx := (l.cut 0 (Nat.min m n)).c) ⟨[], by simp, hcl, hone, rfl⟩ f5
            simp only [kz, L.len_c, hcl, Array.length_toList] at p1 p2
            by_cases h0 : Nat.min m n = 0
            · refine ⟨_, w, run (k := Nat.min m n) ?_, rfl, ⟨g, n', arr, f1, f2, f3, f4, ?_⟩, Upd.refl _ w⟩
              · rw [d1, s1, h0]; exact run_copy_none w t t' o.type e sp sp2 n cap m cap2 hT hsz' h0
              · have hc0 : (l.cut 0 (Nat.min m n)).c = [] := List.eq_nil_of_length_eq_zero (by rw [L.len_c, hcl, h0])
                rw [hc0] at p2
                simpa [lay] using p2
            · have hmin : 0 < Nat.min m n := Nat.pos_of_ne_zero h0
              have hm0 : 0 < m := Nat.lt_of_lt_of_le hmin (Nat.min_le_left m n)
              have hn0 : 0 < n := Nat.lt_of_lt_of_le hmin (Nat.min_le_right m n)
              obtain ⟨g2, s5, d5, d6⟩ := d4 hn0
              rw [f1] at d5; cases d5
              obtain ⟨b2, q2, s6, s7⟩ := s4 hm0
              have hrow := copy_row_bk (P := E.P) w t t' o.type e g (b + k) n cap ⟨b2, q2, none⟩ m cap2 arr ty (l.cut 0 (Nat.min m n)).c hT hsz' f3 (by rw [L.len_c, hcl]) (fun j v hj => by
                rw [L.cut_c, List.drop_zero, List.getElem?_take] at hj
                split at hj
                · rw [Addr.add_lit]; exact (s7 j v hj).1
                · cases hj) (by rw [L.len_c, hcl]; omega) hone
              rw [L.len_c, hcl] at hrow
              have hsz : (arr.toList.take (b + k) ++ (l.cut 0 (Nat.min m n)).c ++ arr.toList.drop (b + k + Nat.min m n)).toArray.size = arr.size := by
                simp only [List.size_toArray, List.length_append, List.length_take, List.length_drop, L.len_c, hcl, Array.length_toList]
                omega
              exact ⟨_, _, run (k := Nat.min m n) (by rw [d1, d6, s1, s6]; exact hrow), rfl, ⟨g, n', _, f1, f2, blk_setRow f3 _ hsz, hsz.trans f4, by simpa [lay, L.len_c, hcl] using p2⟩, (Upd.refl _ w).row _ (fun _ => ⟨n', f1⟩)⟩
          · cases h
        · cases h
      · cases h
    · cases h
  · rename_i i b k n he _
    simp only [List.cons.injEq, and_true] at he
    obtain ⟨h1, h2⟩ := he
    split at h
    · rename_i e hT
      split at h
      · rename_i hsz
        obtain rfl := val_eq h
        have hsz' : (E.P.info? e).map (·.size) = some 1 := by
          unfold sizeT at hsz
          cases hi : E.P.info? e with
          | none => rw [hi] at hsz; cases hsz
          | some inf => rw [hi] at hsz; simp only [Option.some.injEq] at hsz; simp [hsz]
        refine okVal fun cx β a w hp => ?_
        obtain ⟨sp, cap, d1, d2, d3, d4⟩ := (hp.ops x hx _ h1).1
        have d5 : a.eval y = .slice none 0 0 := hp.v hy h2
        exact ⟨_, run (k := 0) (by rw [d1, d5]; exact run_copy_none w t t' o.type e sp none n cap 0 0 hT hsz' (Nat.zero_min n)), rfl⟩
      · cases h
    · cases h
  · cases h
theorem capsOf_ok {a : Act} {cx : Cx} {β : Be} {w : World} (hp : Pre E cx β o gs gm base tg a w) : ∀ {xs : List Operand} {l : List (Nat × Nat)}, (∀ x ∈ xs, x ∈ o.op.operands) → capsOf (xs.map (opnd E gs)) = some l → xs.length = l.length ∧ ∀ (j : Nat) (p : Nat × Nat), l[j]? = some p → ∃ g s, β p.1 = some (g, s) ∧ (xs.map a.eval)[j]? = some (.pointer (some ⟨g, p.2, none⟩))
  | [], l, _, h => by cases h; exact ⟨rfl, fun j p h => by simp at h⟩
  | x :: xs, l, hm, h => by
    simp only [List.map_cons] at h
    generalize hx : opnd E gs x = q at h
    match q, hx, h with
    | some (.o (.c (.ptr i b none))), hx, h =>
      simp only [capsOf] at h
      split at h
      · rename_i l' hl'
        cases h
        obtain ⟨h1, h2⟩ := capsOf_ok hp (fun y hy => hm y (by simp [hy])) hl'
        refine ⟨by simp [h1], fun j p hj => ?_⟩
        cases j with
        | zero =>
          simp at hj
          subst hj
          obtain ⟨g, s, e1, e2⟩ := (hp.ops x (hm x (by simp)) _ hx).1
          exact ⟨g, s, e1, by simpa [kz] using e2⟩
        | succ j => simpa using h2 j p (by simpa using hj)
      · cases h
theorem ok_makeM {f : Fn} {x : Operand} (ho : o.op = .makeFunc f #[x] #[]) (h : evMakeM f [opnd E gs x] = some r) : OpOK E o gs gm base { r with base := base, tg := tg } := by
  unfold evMakeM at h
  split at h
  · rename_i f' i b k he
    simp only [List.cons.injEq, and_true] at he
    obtain rfl := val_eq h
    refine okVal fun cx β a w hp => ?_
    obtain ⟨g, s, e1, e2⟩ := (hp.ops x (by simp [ho, Op.operands]) _ he).1
    refine ⟨.func (.func f') #[.pointer (some ⟨g, b + kz k, none⟩)] #[], ?_, g, s, e1, rfl⟩
    unfold execOp
    simp [ho, Instr.makeFunc, e2]
  · cases h
theorem ok_makeF {f : Fn} {fs cs : Array Operand} (ho : o.op = .makeFunc f fs cs) (h : evMakeF f fs.toList (cs.toList.map (opnd E gs)) = some r) : OpOK E o gs gm base { r with base := base, tg := tg } := by
  unfold evMakeF at h
  split at h
  · rename_i avs f' hfs
    split at h
    · rename_i l hl
      obtain rfl := val_eq h
      have hfs' : fs = #[] := by cases fs; simpa using hfs
      subst hfs'
      refine okVal fun cx β a w hp => ?_
      obtain ⟨h1, h2⟩ := capsOf_ok hp (xs := cs.toList) (fun x hx => by simpa [ho, Op.operands] using hx) hl
      refine ⟨.func (.func f') #[] (cs.map a.eval), ?_, ⟨cs.toList.map a.eval, by congr 1; apply Array.ext'; simp, by simpa using h1, h2⟩⟩
      unfold execOp
      simp [ho, Instr.makeFunc]
    · cases h
  · cases h
end
end Go.Proofs.Ythlleheeghiljaa
