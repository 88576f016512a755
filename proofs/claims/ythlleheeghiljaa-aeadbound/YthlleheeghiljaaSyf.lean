/-
  Operations by evaluation: make, literals, indexing of values, bytes as texts. For any program.
-/
import Derived.Test.YthlleheeghiljaaSyo
namespace Go.Proofs.Ythlleheeghiljaa
open Go.RowKit

def intsOf (k : IntKind) : List Value → Option (List Int)
  | [] => some []
  | .int k' n :: r => cond (kindB k k') (match intsOf k r with | some l => some (n :: l) | none => none) none
  | _ :: _ => none
def cutV : List Sh → List Value → Option (List Seg)
  | [], [] => some []
  | .one :: r, v :: l => cond v.oneCell' (match cutV r l with | some s => some (.one (.v v) :: s) | none => none) none
  | .ints k n :: r, l => match intsOf k (l.take n) with
    | some x => cond (Nat.beq x.length n) (match cutV r (l.drop n) with | some s => some (.many n (.i k x) :: s) | none => none) none
    | none => none
  | _, _ => none
theorem intsOf_eq {k : IntKind} : ∀ {l : List Value} {x : List Int}, intsOf k l = some x → l = x.map (Value.int k)
  | [], x, h => by cases h; rfl
  | .int k' n :: r, x, h => by
    unfold intsOf at h
    cases hk : kindB k k' with
    | false => rw [hk] at h; cases h
    | true =>
      rw [hk, cond_true] at h
      split at h
      · rename_i l' hl
        cases h
        rw [List.map_cons, ← intsOf_eq hl, kindB_eq hk]
      · cases h
theorem cutV_ok {cx : Cx} {β : Be} : ∀ {sh : List Sh} {l : List Value} {s : List Seg}, cutV sh l = some s → DL cx β s l
  | [], [], s, h => by cases h; rfl
  | .one :: r, v :: l, s, h => by
    unfold cutV at h
    cases hv : v.oneCell' with
    | false => rw [hv] at h; cases h
    | true =>
      rw [hv, cond_true] at h
      split at h
      · rename_i t ht
        cases h
        exact ⟨v, l, rfl, rfl, hv, cutV_ok ht⟩
      · cases h
  | .ints k n :: r, l, s, h => by
    unfold cutV at h
    split at h
    · rename_i x hx
      cases hb : Nat.beq x.length n with
      | false => rw [hb] at h; cases h
      | true =>
        rw [hb, cond_true] at h
        split at h
        · rename_i t ht
          cases h
          refine ⟨l.drop n, ?_, Nat.eq_of_beq_eq_true hb, fun y hy => ?_, cutV_ok ht⟩
          · show l = x.map (Value.int k) ++ l.drop n
            rw [← intsOf_eq hx, List.take_append_drop]
          · simp only [L.c, List.mem_map] at hy
            obtain ⟨z, _, rfl⟩ := hy
            rfl
        · cases h
    · cases h
  | [], _ :: _, s, h => by cases h
  | .one :: _, [], s, h => by cases h
/-- Parts that are plain values. -/
def partsV : List (Nat × Operand) → List (Option AV) → Option (List (Nat × Value))
  | [], [] => some []
  | (i, _) :: r, some (.o (.c (.v x))) :: s => match partsV r s with | some l => some ((i, x) :: l) | none => none
  | _, _ => none
def evBuild (P : Program) (T : TypeId) (ps : Array (Nat × Operand)) (avs : List (Option AV)) : Option Rec := match partsV ps.toList avs with
  | some l => match P.built T l with
    | some cells => match cutV (shp P 8 T) cells.toList with
      | some s => val (.o (.g s)) []
      | none => none
    | none => none
  | none => none
def sGet (s : ByteArray) (i : Nat) : Int := ((s.data[i]?.map (·.toNat)).getD 0 : Nat)
def evIndex (P : Program) (T : TypeId) : List (Option AV) → Option Rec
  | [some (.o (.g [.many n l])), some (.o (.c (.v (.int _ j))))] => match arrT P T with
    | some (m, _, _) => cond (Nat.beq m n) (val (vv (l.get j.toNat)) [0 ≤ j, j < n]) none
    | none => none
  | [some (.o (.c (.v (.string s)))), some (.o (.c (.v (.int _ j))))] => match P.underlying T with
    | some .string => val (vv (.int .u8 (sGet s j.toNat))) [0 ≤ j, j < s.size]
    | _ => none
  | _ => none
/-- Bytes as a text. -/
def bstr (l : List Int) : ByteArray := ⟨(l.map fun n => UInt8.ofNat n.toNat).toArray⟩
theorem foldl_bstr (l : List Int) : l.foldl (fun r n => r.push (UInt8.ofNat n.toNat)) ByteArray.empty = bstr l := by
  have key : ∀ (l : List Int) (r : ByteArray), l.foldl (fun r n => r.push (UInt8.ofNat n.toNat)) r = ⟨(r.data.toList ++ l.map fun n => UInt8.ofNat n.toNat).toArray⟩ := by
    intro l
    induction l with
    | nil => intro r; simp
    | cons n l ih => intro r; rw [List.foldl_cons, ih]; simp [ByteArray.push]
  rw [key]; simp [bstr]
def evConvS (P : Program) (src dst : TypeId) : List (Option AV) → List (Option MB) → Option Rec
  | [some (.o (.c c))], cts => match P.underlying src, P.underlying dst with
    | some (.slice e), some .string => match P.underlying e with
      | some (.int .u8) => match srcE 1 c (match cts with | x :: _ => x | [] => none) with
        | some (_, .i .u8 l, obl) => val (vv (.string (bstr l))) obl
        | _ => none
      | _ => none
    | _, _ => none
  | _, _ => none
section
variable {E : Ev} {o : Oper} {gs : Nat → Option AV} {gm : Nat → Option MB} {base : Nat} {tg : List Nat} {r : Rec}
theorem ok_make {t : TypeId} {x y : Operand} (ho : o.op = .makeSlice t x y) (h : evMake E.P t base [opnd E gs x, opnd E gs y] = some r) (hobl : allP r.obl) : OpOK E o gs gm base { r with base := base, tg := tg } := by
  have hx : x ∈ o.op.operands := by simp [ho, Op.operands]
  have hy : y ∈ o.op.operands := by simp [ho, Op.operands]
  unfold evMake at h
  split at h
  · rename_i kl l kc c he
    simp only [List.cons.injEq, and_true] at he
    obtain ⟨h1, h2⟩ := he
    split at h
    · rename_i e inf z hel
      split at h
      · rename_i k
        cases hb : Nat.beq inf.size 1 with
        | false => rw [hb] at h; cases h
        | true =>
          rw [hb] at h; cases h
          have hs := Nat.eq_of_beq_eq_true hb
          obtain ⟨h0, hlc, hby, h63⟩ := hobl
          have h63' : c ≤ 9223372036854775807 := h63
          obtain ⟨q1, q2, q3, q4, q5⟩ := elemT_ok hel
          refine okNew fun cx β a w hp => ?_
          have hr := run_make (P := E.P) w t e inf _ q1 q2 q3 kl kc l c h0 hlc hby h63
          have hlc' : l ≤ c := hlc
          have h0' : 0 ≤ l := h0
          have hn : l.toNat ≤ c.toNat := by omega
          have hcells : madeCells (Value.cells (.int k 0)) (c.toNat * inf.size) = Array.replicate c.toNat (.int k 0) := by
            rw [hs, Nat.mul_one]; exact madeCells_one _ _
          rw [hcells] at hr
          have hrun : (execOp a.eval o).run E.P w = .ok (.value (.slice (some ⟨w.heap.size, 0, none⟩) l.toNat c.toNat)) (w.alloc (.cells (Array.replicate c.toNat (.int k 0)) e)) := by
            have ex := hp.v hx h1
            have ey := hp.v hy h2
            generalize a.eval = ev at ex ey ⊢
            unfold execOp
            simp only [ho, ex, ey, Sem.run_bind, hr, Result.andThen_ok]
            rfl
          refine ⟨_, _, some (w.heap.size, c.toNat), hrun, (fun g n hg => by cases hg; exact Nat.le_refl _), .inr ⟨_, _, _, upB_self _ _ _, rfl, hn, by unfold mx; omega, by rw [Nat.mul_one]⟩, .inr ⟨_, _, _, upB_self _ _ _, .inl hp.upd.size, Bk.new w _ e, by simp, by show (List.replicate l.toNat (0 : Int)).length ≤ c.toNat; rw [List.length_replicate]; exact hn, ?_, ?_⟩, (Upd.refl _ w).alloc _⟩
          · simp [L.len, L.c]; omega
          · intro u hu
            simp only [L.c, List.mem_map] at hu
            obtain ⟨y, _, rfl⟩ := hu
            rfl
      · cases h
    · cases h
  · cases h
theorem partsV_map {a : Act} {cx : Cx} {β : Be} {w : World} (hp : Pre E cx β o gs gm base tg a w) : ∀ {ps : List (Nat × Operand)} {l : List (Nat × Value)}, (∀ p ∈ ps, p.2 ∈ o.op.operands) → partsV ps (ps.map fun p => opnd E gs p.2) = some l → ps.map (fun p => (p.1, a.eval p.2)) = l
  | [], l, _, h => by cases h; rfl
  | (i, x) :: r, l, hm, h => by
    simp only [List.map_cons] at h
    cases hx : opnd E gs x with
    | none => rw [hx] at h; cases h
    | some av =>
      rw [hx] at h
      match av, h, hx with
      | .o (.c (.v u)), h, hx =>
        simp only [partsV] at h
        split at h
        · rename_i l' hl
          cases h
          rw [List.map_cons, partsV_map hp (fun p hp' => hm p (by simp [hp'])) hl, hp.v (hm (i, x) (by simp)) hx]
        · cases h
theorem ok_build {T : TypeId} {ps : Array (Nat × Operand)} (ho : o.op = .build T ps) (h : evBuild E.P T ps (o.op.operands.toList.map (opnd E gs)) = some r) : OpOK E o gs gm base { r with base := base, tg := tg } := by
  have hops : o.op.operands.toList = ps.toList.map (·.2) := by rw [ho]; simp [Op.operands]
  rw [hops, List.map_map] at h
  unfold evBuild at h
  split at h
  · rename_i l hl
    split at h
    · rename_i cells hc
      split at h
      · rename_i s hs
        obtain rfl := val_eq h
        refine okVal fun cx β a w hp => ?_
        have hmap := partsV_map hp (ps := ps.toList) (fun p hp' => by
          have : p.2 ∈ o.op.operands.toList := by rw [hops]; exact List.mem_map.2 ⟨p, hp', rfl⟩
          simpa using this) hl
        refine ⟨.agg cells, ?_, ⟨cells, rfl, cutV_ok hs⟩⟩
        have hrun := run_build (P := E.P) w T (ps.map fun (i, x) => (i, a.eval x)) cells (by rw [Array.toList_map]; rw [← hmap] at hc; exact hc)
        unfold execOp
        simp only [ho, Sem.run_bind, hrun, Result.andThen_ok]
        rfl
      · cases h
    · cases h
  · cases h
theorem ok_index {T : TypeId} {x y : Operand} (ho : o.op = .index T x y) (h : evIndex E.P T [opnd E gs x, opnd E gs y] = some r) (hobl : allP r.obl) : OpOK E o gs gm base { r with base := base, tg := tg } := by
  have hx : x ∈ o.op.operands := by simp [ho, Op.operands]
  have hy : y ∈ o.op.operands := by simp [ho, Op.operands]
  unfold evIndex at h
  split at h
  · rename_i n l k j he
    simp only [List.cons.injEq, and_true] at he
    obtain ⟨h1, h2⟩ := he
    split at h
    · rename_i m e kk hA
      cases hb : Nat.beq m n with
      | false => rw [hb] at h; cases h
      | true =>
        rw [hb, cond_true] at h
        obtain rfl := val_eq h
        have hmn := Nat.eq_of_beq_eq_true hb
        obtain ⟨h0, hn⟩ := hobl
        have h0' : 0 ≤ j := h0
        have hn' : j < (n : Int) := hn
        refine okVal fun cx β a w hp => ?_
        obtain ⟨arr, e1, l', e2, e3, _, e4⟩ := (hp.ops x hx _ h1).1
        have e4' : l' = [] := e4
        rw [e4', List.append_nil] at e2
        have hget : arr[j.toNat]? = some (l.get j.toNat) := by
          rw [← Array.getElem?_toList, e2]; exact L.get_c l _ (by omega)
        have ey := hp.v hy h2
        refine ⟨_, ?_, rfl⟩
        unfold arrT at hA
        split at hA
        · rename_i n' e' ht
          split at hA
          · rename_i k' he
            split at hA
            · rename_i i hi
              cases hs1 : Nat.beq i.size 1 with
              | false => rw [hs1] at hA; cases hA
              | true =>
                rw [hs1, cond_true] at hA
                cases hA
                have hidx := run_index_agg (P := E.P) w T e m arr k j.toNat (l.get j.toNat) ht (by simp [hi, Nat.eq_of_beq_eq_true hs1]) (fun d hd => by rw [he] at hd; cases hd; rfl) (by rw [he]; rfl) (by omega) hget
                rw [show ((j.toNat : Nat) : Int) = j by omega] at hidx
                unfold execOp
                simp only [ho, e1, ey, Sem.run_bind, hidx, Result.andThen_ok]
                rfl
            · cases hA
          · cases hA
        · cases hA
    · cases h
  · rename_i s k j he
    simp only [List.cons.injEq, and_true] at he
    obtain ⟨h1, h2⟩ := he
    split at h
    · rename_i hT
      obtain rfl := val_eq h
      obtain ⟨h0, hn⟩ := hobl
      have h0' : 0 ≤ j := h0
      have hn' : j < (s.size : Int) := hn
      refine okVal fun cx β a w hp => ⟨_, ?_, rfl⟩
      have ex := hp.v hx h1
      have ey := hp.v hy h2
      have hlt : j.toNat < s.size := by omega
      have hg : s[j.toNat]? = some s[j.toNat] := ByteArray.getElem?_lt' s _ hlt
      have hsg : sGet s j.toNat = (s[j.toNat].toNat : Int) := by
        unfold sGet
        have : s.data[j.toNat]? = some s[j.toNat] := by
          have hlt' : j.toNat < s.data.size := hlt
          rw [Array.getElem?_eq_getElem hlt']; rfl
        rw [this]; rfl
      generalize a.eval = ev at ex ey ⊢
      unfold execOp
      simp only [ho, ex, ey, Instr.index, asIntOf, Sem.run_bind, Sem.run_pure, Result.andThen_ok, run_underlying hT, h0', if_true, hg, hsg]
    · cases h
  · cases h
theorem ok_convS {src dst : TypeId} {x : Operand} (ho : o.op = .convert src dst x) (htg : objsOf [opnd E gs x] = tg) (h : evConvS E.P src dst [opnd E gs x] (tg.map gm) = some r) (hobl : allP r.obl) : OpOK E o gs gm base { r with base := base, tg := tg } := by
  have hx : x ∈ o.op.operands := by simp [ho, Op.operands]
  unfold evConvS at h
  split at h
  · rename_i cts c he
    simp only [List.cons.injEq, and_true] at he
    have htg' : tg = c.idx := by rw [← htg, he]; simp [objsOf]
    split at h
    · rename_i e hS hD
      split at h
      · rename_i hE
        split at h
        · rename_i m l obl hsrc
          obtain rfl := val_eq h
          refine okVal fun cx β a w hp => ?_
          have d := (hp.ops x hx _ he).1
          obtain ⟨sp, cap, s1, s2, s3, s4⟩ := srcE_ok hp.upd hsrc hobl d (fun j hj mb hmb => by
            have hjs : c.idx = [j] := by cases c <;> first | (simp only [C.idx, List.mem_singleton] at hj ⊢; rw [hj]) | (simp [C.idx] at hj; done) | (simp [srcE] at hsrc; done)
            rw [htg', hjs] at hmb
            exact (hp.obj j (by rw [htg', hjs]; simp) mb hmb).1)
          refine ⟨_, ?_, rfl⟩
          have hll : l.length = m := by have : l.length = 1 * m := s2; omega
          have hconv : (convert src dst (.slice sp m cap)).run E.P w = .ok (.string (bstr l)) w := by
            rw [run_convert_bytes_string w src dst e sp m cap hS hE hD]
            by_cases hm : m = 0
            · subst hm
              have hl0 : l = [] := List.eq_nil_of_length_eq_zero hll
              subst hl0
              cases sp with
              | none => simp [Conv.bytesToString, bstr]; rfl
              | some ad => rw [run_bytesToString w ad 0 cap [] rfl]; rfl
            · obtain ⟨b, q, rfl, s6⟩ := s4 (by omega)
              have hload := run_loadCells_list (P := E.P) w ⟨b, q, none⟩ (l.map (Value.int .u8)) (fun j v hj => by
                rw [Addr.add_lit]
                exact (s6 j v hj).1)
              rw [List.length_map, hll] at hload
              rw [run_bytesToString w ⟨b, q, none⟩ m cap l hload, foldl_bstr]
          generalize a.eval = ev at s1 ⊢
          unfold execOp
          simp only [ho, s1, Sem.run_bind, hconv, Result.andThen_ok]
          rfl
        · cases h
      · cases h
    · cases h
  · cases h
end
end Go.Proofs.Ythlleheeghiljaa
