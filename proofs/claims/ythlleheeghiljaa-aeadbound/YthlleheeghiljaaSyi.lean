/-
  Operations by evaluation: slices written out, the less of two numbers. For any program.
-/
import Derived.Test.YthlleheeghiljaaSyf
namespace Go.Proofs.Ythlleheeghiljaa
open Go.RowKit

/-- The cells of parts that stand in their order. -/
def seqC : Nat → List (Nat × Operand) → List (Option AV) → Option (List C)
  | _, [], [] => some []
  | k, (i, _) :: r, some (.o (.c c)) :: s => cond (Nat.beq i k) (match seqC (k + 1) r s with | some l => some (c :: l) | none => none) none
  | _, _, _ => none
def intsC (k : IntKind) : List C → Option (List Int)
  | [] => some []
  | .v (.int k' n) :: r => cond (kindB k k') (match intsC k r with | some l => some (n :: l) | none => none) none
  | _ :: _ => none
def onesC : List C → List Seg
  | [] => []
  | c :: r => .one c :: onesC r
def oblC : List C → List Prop
  | [] => []
  | c :: r => oneC c ++ oblC r
def intT (P : Program) (t : TypeId) : Option IntKind := match P.underlying t with | some (.int k) => some k | _ => none
def evBuildSl (P : Program) (T : TypeId) (len : Nat) (ps : Array (Nat × Operand)) (base : Nat) (avs : List (Option AV)) : Option Rec := match elemT P T with
  | some (e, inf, _) => cond (Nat.beq inf.size 1 && Nat.beq ps.toList.length len && Nat.ble len 16777216) (match seqC 0 ps.toList avs with
    | some cs => match intT P e with
      | some k => match intsC k cs with
        | some l => some ⟨.o (.c (.os base 1 len)), 0, [.grow e 1 (.i k l)], [], [], []⟩
        | none => none
      | none => some ⟨.o (.c (.os base 1 len)), 0, [.gs e (onesC cs)], [], [], oblC cs⟩
    | none => none) none
  | none => none
section
variable {cx : Cx} {β : Be}
theorem fill_seq : ∀ (vs : List Value) (k : Nat) (arr : Array Value), k + vs.length ≤ arr.size → (∀ v ∈ vs, v.oneCell' = true) →
    Instr.fill (fun i => some (i * 1, 1)) arr (vs.zipIdx k |>.map fun p => (p.2, p.1)) = some (arr.toList.take k ++ vs ++ arr.toList.drop (k + vs.length)).toArray
  | [], k, arr, h, _ => by simp [Instr.fill]
  | v :: vs, k, arr, h, h1 => by
    have hv := h1 v (by simp)
    have hc : v.cells = #[v] := by cases v <;> first | rfl | cases hv
    simp only [List.length_cons] at h
    rw [List.zipIdx_cons, List.map_cons, fill_agg _ _ k (k * 1) 1 v _ rfl (by rw [hc]; rfl) (by omega), hc]
    have hs : (splice arr (k * 1) [v]).size = arr.size := splice_size _ _ _ (by simp; omega)
    have ih := fill_seq vs (k + 1) (splice arr (k * 1) [v]) (by rw [hs]; omega) (fun u hu => h1 u (by simp [hu]))
    show Instr.fill _ (splice arr (k * 1) [v]) _ = _
    rw [ih]
    congr 2
    unfold splice
    rw [Nat.mul_one]
    have hk : (arr.toList.take k).length = k := by simp; omega
    simp only [List.length_cons, List.length_nil, Nat.zero_add]
    rw [List.take_append_of_le_length (by simp; omega), List.take_of_length_le (by simp; omega), List.drop_append, List.drop_of_length_le (by simp; omega)]
    simp only [List.length_append, hk, List.length_cons, List.length_nil, List.nil_append, List.drop_drop, List.append_assoc, List.cons_append]
    congr 3
    congr 1
    omega
end
def evMin : List (Option AV) → Option Rec
  | [some (.o (.c (.v (.int k x)))), some (.o (.c (.v (.int k' y))))] => cond (kindB k k') (val (vv (.int k (if y < x then y else x))) []) none
  | _ => none
section
variable {E : Ev} {o : Oper} {gs : Nat → Option AV} {gm : Nat → Option MB} {base : Nat} {tg : List Nat} {r : Rec}
theorem ok_min {x y : Operand} {ts : Array TypeId} (ho : o.op = .call { callee := .builtin .min, args := #[x, y], argTypes := ts }) (h : evMin [opnd E gs x, opnd E gs y] = some r) : OpOK E o gs gm base { r with base := base, tg := tg } := by
  have hx : x ∈ o.op.operands := by simp [ho, Op.operands, Call.operands]
  have hy : y ∈ o.op.operands := by simp [ho, Op.operands, Call.operands]
  unfold evMin at h
  split at h
  · rename_i k a k' b he
    simp only [List.cons.injEq, and_true] at he
    obtain ⟨h1, h2⟩ := he
    cases hk : kindB k k' with
    | false => rw [hk] at h; cases h
    | true =>
      rw [hk, cond_true] at h
      obtain rfl := val_eq h
      refine okVal fun cx β ac w hp => ⟨_, ?_, rfl⟩
      have ex := hp.v hx h1
      have ey := hp.v hy h2
      generalize ac.eval = ev at ex ey ⊢
      unfold execOp
      simp [ho, ex, ey, resolve, invoke, builtin, Builtin.min_, Builtin.min2]
  · cases h
theorem seqC_ok {a : Act} {cx : Cx} {β : Be} {w : World} (hp : Pre E cx β o gs gm base tg a w) : ∀ {ps : List (Nat × Operand)} {k : Nat} {cs : List C}, (∀ p ∈ ps, p.2 ∈ o.op.operands) → seqC k ps (ps.map fun p => opnd E gs p.2) = some cs →
    ∃ vs : List Value, vs.length = ps.length ∧ ps.map (fun p => (p.1, a.eval p.2)) = (vs.zipIdx k).map (fun p => (p.2, p.1)) ∧ cs.length = vs.length ∧ ∀ (j : Nat) (c : C), cs[j]? = some c → ∃ v, vs[j]? = some v ∧ DC cx β c v ∧ ∀ i ∈ c.idx, i < base
  | [], k, cs, _, h => by cases h; exact ⟨[], rfl, rfl, rfl, fun j c hj => by simp at hj⟩
  | (i, x) :: r, k, cs, hm, h => by
    simp only [List.map_cons] at h
    cases hx : opnd E gs x with
    | none => rw [hx] at h; cases h
    | some av =>
      rw [hx] at h
      match av, h, hx with
      | .o (.c c), h, hx =>
        simp only [seqC] at h
        cases hb : Nat.beq i k with
        | false => rw [hb] at h; cases h
        | true =>
          rw [hb, cond_true] at h
          have hik := Nat.eq_of_beq_eq_true hb
          split at h
          · rename_i l hl
            cases h
            obtain ⟨vs, h1, h2, h3, h4⟩ := seqC_ok hp (ps := r) (fun p hp' => hm p (by simp [hp'])) hl
            refine ⟨a.eval x :: vs, by simp [h1], ?_, by simp [h3], fun j d hj => ?_⟩
            · rw [List.map_cons, List.zipIdx_cons, List.map_cons, h2, hik]
            · cases j with
              | zero =>
                simp at hj
                subst hj
                have := hp.ops x (hm (i, x) (by simp)) _ hx
                exact ⟨_, rfl, this.1, this.2⟩
              | succ j =>
                simp at hj
                obtain ⟨v, e1, e2⟩ := h4 j d hj
                exact ⟨v, by simpa using e1, e2⟩
          · cases h
theorem intsC_ok {cx : Cx} {β : Be} {k : IntKind} : ∀ {cs : List C} {l : List Int}, intsC k cs = some l → ∀ {vs : List Value}, cs.length = vs.length → (∀ (j : Nat) (c : C), cs[j]? = some c → ∃ v, vs[j]? = some v ∧ DC cx β c v) → vs = l.map (Value.int k)
  | [], l, h, vs, hlen, _ => by cases h; exact List.eq_nil_of_length_eq_zero hlen.symm
  | .v (.int k' n) :: r, l, h, v :: vs, hlen, hd => by
    simp only [intsC] at h
    cases hk : kindB k k' with
    | false => rw [hk] at h; cases h
    | true =>
      rw [hk, cond_true] at h
      split at h
      · rename_i l' hl
        cases h
        obtain ⟨u, h1, h2⟩ := hd 0 _ rfl
        simp at h1
        have h2' : u = .int k' n := h2
        rw [List.map_cons, ← intsC_ok hl (vs := vs) (by simpa using hlen) (fun j c hj => by
          obtain ⟨u', e1, e2⟩ := hd (j + 1) c (by simpa using hj)
          exact ⟨u', by simpa using e1, e2⟩), h1, h2', kindB_eq hk]
      · cases h
  | .v (.int _ _) :: _, _, _, [], hlen, _ => by simp at hlen
theorem onesC_ok {cx : Cx} {β : Be} : ∀ {cs : List C} {vs : List Value}, cs.length = vs.length → allP (oblC cs) → (∀ (j : Nat) (c : C), cs[j]? = some c → ∃ v, vs[j]? = some v ∧ DC cx β c v) → DL cx β (onesC cs) vs
  | [], vs, hlen, _, _ => List.eq_nil_of_length_eq_zero hlen.symm
  | c :: r, v :: vs, hlen, ho, hd => by
    rw [oblC, allP_append] at ho
    obtain ⟨u, h1, h2⟩ := hd 0 c rfl
    simp at h1
    subst h1
    exact ⟨v, vs, rfl, h2, oneC_ok ho.1 h2, onesC_ok (by simpa using hlen) ho.2 (fun j d hj => by
      obtain ⟨u', e1, e2⟩ := hd (j + 1) d (by simpa using hj)
      exact ⟨u', by simpa using e1, e2⟩)⟩
  | _ :: _, [], hlen, _, _ => by simp at hlen
theorem idx_onesC : ∀ {cs : List C} {i : Nat}, i ∈ idxL (onesC cs) → ∃ (j : Nat) (c : C), cs[j]? = some c ∧ i ∈ c.idx
  | [], _, h => by cases h
  | c :: r, i, h => by
    simp only [onesC, idxL, List.mem_append] at h
    rcases h with h | h
    · exact ⟨0, c, rfl, h⟩
    · obtain ⟨j, d, h1, h2⟩ := idx_onesC h
      exact ⟨j + 1, d, by simpa using h1, h2⟩
theorem ok_buildSl {T : TypeId} {len : Nat} {ps : Array (Nat × Operand)} (ho : o.op = .buildSlice T len ps) (h : evBuildSl E.P T len ps base (o.op.operands.toList.map (opnd E gs)) = some r) (hobl : allP r.obl) : OpOK E o gs gm base { r with base := base, tg := tg } := by
  have hops : o.op.operands.toList = ps.toList.map (·.2) := by rw [ho]; simp [Op.operands]
  rw [hops, List.map_map] at h
  unfold evBuildSl at h
  split at h
  · rename_i e inf z hel
    cases hb : (Nat.beq inf.size 1 && Nat.beq ps.toList.length len && Nat.ble len 16777216) with
    | false => rw [hb] at h; cases h
    | true =>
      rw [hb, cond_true] at h
      simp only [Bool.and_eq_true] at hb
      obtain ⟨⟨b1, b2⟩, b3⟩ := hb
      have hs := Nat.eq_of_beq_eq_true b1
      have hl := Nat.eq_of_beq_eq_true b2
      have h24 := Nat.le_of_ble_eq_true b3
      obtain ⟨q1, q2, q3, q4, q5⟩ := elemT_ok hel
      split at h
      · rename_i cs hcs
        have run : ∀ {cx β} {a : Act} {w} (hp : Pre E cx β o gs gm base tg a w), ∃ vs : List Value, vs.length = len ∧ cs.length = vs.length ∧ (∀ (j : Nat) (c : C), cs[j]? = some c → ∃ v, vs[j]? = some v ∧ DC cx β c v ∧ ∀ i ∈ c.idx, i < base) ∧
            ((∀ v ∈ vs, v.oneCell' = true) → (execOp a.eval o).run E.P w = .ok (.value (.slice (some ⟨w.heap.size, 0, none⟩) len len)) (w.alloc (.cells vs.toArray e))) := by
          intro cx β a w hp
          obtain ⟨vs, h1, h2, h3, h4⟩ := seqC_ok hp (ps := ps.toList) (k := 0) (fun p hp' => by
            have : p.2 ∈ o.op.operands.toList := by rw [hops]; exact List.mem_map.2 ⟨p, hp', rfl⟩
            simpa using this) hcs
          refine ⟨vs, by omega, h3, h4, fun hone => ?_⟩
          have hfill : ∀ arr : Array Value, arr.size = len → Instr.fill (fun i => some (i * 1, 1)) arr ((ps.map fun x => (x.fst, a.eval x.snd)).toList) = some vs.toArray := by
            intro arr ha
            rw [Array.toList_map]
            rw [h2, fill_seq vs 0 arr (by omega) hone]
            congr 2
            rw [List.take_zero, List.nil_append, List.drop_of_length_le (by simp; omega), List.append_nil]
          have hb24 : ¬ (len * 1 > 2 ^ 24) := by omega
          unfold execOp
          simp only [ho, Instr.buildSlice, Sem.run_bind, run_underlying q1, Result.andThen_ok, run_size (show sizeT E.P e = some 1 by simp [sizeT, q2, hs]), hb24, if_false, Sem.run_pure]
          by_cases h0 : len * 1 = 0
          · have := hfill ((Array.range 0).map fun x => (#[] : Array Value)[x % (#[] : Array Value).size]!) (by simp; omega)
            simp only [h0, if_true]
            rw [Sem.run_bind, Sem.run_pure, Result.andThen_ok, this]
            simp [newRow, go_sem]
          · have hz : ∀ w, (zeroValue e).run E.P w = .ok z w := fun w => by simp [zeroValue, typeInfo, q2, q3]
            have := hfill ((Array.range (len * 1)).map fun x => z.cells[x % z.cells.size]!) (by simp)
            simp only [h0, if_false, Sem.run_bind, hz, Result.andThen_ok, Sem.run_pure]
            rw [this]
            simp [newRow, go_sem]
        split at h
        · rename_i k hk
          split at h
          · rename_i l hli
            cases h
            refine okNew fun cx β a w hp => ?_
            obtain ⟨vs, h1, h2, h3, h4⟩ := run hp
            have hvs := intsC_ok hli h2 (fun j c hj => let ⟨v, e1, e2, _⟩ := h3 j c hj; ⟨v, e1, e2⟩)
            have hone : ∀ v ∈ vs, v.oneCell' = true := fun v hv => by
              rw [hvs] at hv
              obtain ⟨y, _, rfl⟩ := List.mem_map.1 hv
              rfl
            have hll : l.length = len := by have := congrArg List.length hvs; simp at this; omega
            refine ⟨_, _, some (w.heap.size, len), h4 hone, (fun g n hg => by cases hg; exact Nat.le_refl _), .inr ⟨_, _, _, upB_self _ _ _, rfl, Nat.le_refl _, by unfold mx; omega, by rw [Nat.mul_one]⟩, .inr ⟨_, _, _, upB_self _ _ _, .inl hp.upd.size, Bk.new w _ e, by simpa using h1, by show l.length ≤ len; omega, ?_, ?_⟩, (Upd.refl _ w).alloc _⟩
            · show vs.take l.length = l.map (Value.int k)
              rw [hvs, List.take_of_length_le (by simp)]
            · intro u hu
              obtain ⟨y, _, rfl⟩ := List.mem_map.1 hu
              rfl
          · cases h
        · cases h
          refine okNew fun cx β a w hp => ?_
          obtain ⟨vs, h1, h2, h3, h4⟩ := run hp
          have hD := onesC_ok h2 hobl (fun j c hj => let ⟨v, e1, e2, _⟩ := h3 j c hj; ⟨v, e1, e2⟩)
          refine ⟨_, _, some (w.heap.size, len), h4 (DL_one hD), (fun g n hg => by cases hg; exact Nat.le_refl _), .inr ⟨_, _, _, upB_self _ _ _, rfl, Nat.le_refl _, by unfold mx; omega, by rw [Nat.mul_one]⟩, .inr ⟨_, _, _, len, upB_self _ _ _, .inl hp.upd.size, Bk.new w _ e, by simpa using h1, Nat.le_refl _, ?_⟩, (Upd.refl _ w).alloc _⟩
          rw [List.take_of_length_le (by simpa using Nat.le_of_eq h1)]
          refine hD.congr (fun i hi => upB_low ?_)
          obtain ⟨j, c, e1, e2⟩ := idx_onesC hi
          obtain ⟨v, _, _, e3⟩ := h3 j c e1
          exact e3 i e2
      · cases h
  · cases h
end
end Go.Proofs.Ythlleheeghiljaa
