/-
  Operations by evaluation: a pointer beside nil, nil[:0:0]. For any program.
-/
import Derived.Test.YthlleheeghiljaaSyr
namespace Go.Proofs.Ythlleheeghiljaa
open Go.RowKit

/-- A pointer to something is not nil. -/
def evBinP (P : Program) (op : BinOp) (T : TypeId) : List (Option AV) → Option Rec
  | [some (.o (.c (.ptr _ _ _))), some (.o (.c (.v (.pointer none))))] => match P.underlying T with
    | some (.pointer _) => match op with
      | .eql => val (vv (.bool false)) []
      | .neq => val (vv (.bool true)) []
      | _ => none
    | _ => none
  | _ => none
/-- nil[:0:0]. -/
def evSliceM (P : Program) (T : TypeId) (lo hi mo : Option Operand) : List (Option AV) → Option Rec
  | [some (.o (.c (.v (.slice none 0 0)))), some (.o (.c (.v (.int k h)))), some (.o (.c (.v (.int k' m))))] => match lo, hi, mo with
    | none, some _, some _ => match P.underlying T with
      | some (.slice e) => match sizeT P e with
        | some _ => val (vv (.slice none 0 0)) [Value.int k h = .int k 0, Value.int k' m = .int k' 0]
        | none => none
      | _ => none
    | _, _, _ => none
  | _ => none
/-- A text of nil. -/
def evConvN (P : Program) (src dst : TypeId) : List (Option AV) → Option Rec
  | [some (.o (.c (.v (.slice none 0 0))))] => match P.underlying src, P.underlying dst with
    | some (.slice e), some .string => match P.underlying e with
      | some (.int .u8) => val (vv (.string ⟨#[]⟩)) []
      | _ => none
    | _, _ => none
  | _ => none
section
variable {E : Ev} {o : Oper} {gs : Nat → Option AV} {gm : Nat → Option MB} {base : Nat} {tg : List Nat} {r : Rec}
theorem ok_binP {op : BinOp} {T T' : TypeId} {x y : Operand} (ho : o.op = .binOp op T x y T') (h : evBinP E.P op T [opnd E gs x, opnd E gs y] = some r) : OpOK E o gs gm base { r with base := base, tg := tg } := by
  have hx : x ∈ o.op.operands := by simp [ho, Op.operands]
  have hy : y ∈ o.op.operands := by simp [ho, Op.operands]
  unfold evBinP at h
  split at h
  · rename_i i b k he
    simp only [List.cons.injEq, and_true] at he
    obtain ⟨h1, h2⟩ := he
    split at h
    · rename_i e hT
      have run : ∀ {ev : Operand → Value} {w : World} {ad : Addr} {bb : Bool} {oo : BinOp}, ev x = .pointer (some ad) → ev y = .pointer none → o.op = .binOp oo T x y T' → (oo = .eql ∧ bb = false ∨ oo = .neq ∧ bb = true) → (execOp ev o).run E.P w = .ok (.value (.bool bb)) w := by
        intro ev w ad bb oo ex ey ho' hc
        have he : (Op.equalIn (9999 + 1) T (.pointer (some ad)) (.pointer none)).run E.P w = .ok false w := by
          rw [Op.equalIn]
          simp [run_underlying hT]
        unfold execOp
        simp only [ho']
        rcases hc with ⟨rfl, rfl⟩ | ⟨rfl, rfl⟩ <;> simp [ex, ey, eqGuard, binOp, Op.equal, Op.maxDepth, he, go_sem]
      split at h
      · obtain rfl := val_eq h
        refine okVal fun cx β a w hp => ?_
        obtain ⟨g, s, _, ev⟩ := (hp.ops x hx _ h1).1
        exact ⟨_, run ev (hp.v hy h2) ho (.inl ⟨rfl, rfl⟩), rfl⟩
      · obtain rfl := val_eq h
        refine okVal fun cx β a w hp => ?_
        obtain ⟨g, s, _, ev⟩ := (hp.ops x hx _ h1).1
        exact ⟨_, run ev (hp.v hy h2) ho (.inr ⟨rfl, rfl⟩), rfl⟩
      · cases h
    · cases h
  · cases h
theorem ok_convN {src dst : TypeId} {x : Operand} (ho : o.op = .convert src dst x) (h : evConvN E.P src dst [opnd E gs x] = some r) : OpOK E o gs gm base { r with base := base, tg := tg } := by
  have hx : x ∈ o.op.operands := by simp [ho, Op.operands]
  unfold evConvN at h
  split at h
  · rename_i he
    simp only [List.cons.injEq, and_true] at he
    split at h
    · rename_i e hS hD
      split at h
      · rename_i hE
        obtain rfl := val_eq h
        refine okVal fun cx β a w hp => ⟨_, ?_, rfl⟩
        have s1 := hp.v hx he
        have hconv : (convert src dst (.slice none 0 0)).run E.P w = .ok (.string ⟨#[]⟩) w := by
          rw [run_convert_bytes_string w src dst e none 0 0 hS hE hD]
          simp [Conv.bytesToString]; rfl
        generalize a.eval = ev at s1 ⊢
        unfold execOp
        simp only [ho, s1, Sem.run_bind, hconv, Result.andThen_ok]
        rfl
      · cases h
    · cases h
  · cases h
theorem ok_sliceM {T : TypeId} {x : Operand} {lo hi mo : Option Operand} (ho : o.op = .slice T x lo hi mo) (h : evSliceM E.P T lo hi mo (o.op.operands.toList.map (opnd E gs)) = some r) (hobl : allP r.obl) : OpOK E o gs gm base { r with base := base, tg := tg } := by
  unfold evSliceM at h
  split at h
  · rename_i k h' k' m' he
    split at h
    · rename_i y z
      rw [ho] at he
      have he' : [opnd E gs x, opnd E gs y, opnd E gs z] = [some (.o (.c (.v (.slice none 0 0)))), some (.o (.c (.v (.int k h')))), some (.o (.c (.v (.int k' m'))))] := by simpa [Op.operands] using he
      simp only [List.cons.injEq, and_true] at he'
      obtain ⟨h1, h2, h3⟩ := he'
      have hx : x ∈ o.op.operands := by simp [ho, Op.operands]
      have hy : y ∈ o.op.operands := by simp [ho, Op.operands]
      have hz : z ∈ o.op.operands := by simp [ho, Op.operands]
      split at h
      · rename_i e hT
        split at h
        · rename_i es hs
          obtain rfl := val_eq h
          obtain ⟨hh, hm⟩ : Value.int k h' = .int k 0 ∧ Value.int k' m' = .int k' 0 := hobl
          refine okVal fun cx β a w hp => ⟨_, ?_, rfl⟩
          have e1 := hp.v hx h1
          have e2 := hp.v hy h2
          have e3 := hp.v hz h3
          rw [hh] at e2
          rw [hm] at e3
          have hB := run_bounds (P := E.P) (w := w) (isS := true) (len := 0) (cap := 0) (lo := none) (hi := some (.int k 0)) (mx := some (.int k' 0)) (l := 0) (h := 0) (m := 0) (.inr ⟨k', rfl, Nat.le_refl _⟩) (.inr ⟨k, rfl, Nat.le_refl _⟩) (.inl ⟨rfl, rfl⟩)
          unfold execOp
          simp only [ho, e1, e2, e3, Option.map_none, Option.map_some, Instr.sliceAt, Sem.run_bind, run_underlying hT, Result.andThen_ok, Instr.slice, hB, run_size hs, Sem.run_pure, if_true]
        · cases h
      · cases h
    · cases h
  · cases h
end
end Go.Proofs.Ythlleheeghiljaa
