/-
  Operations by evaluation: values and places. For any program.
-/
import Derived.Test.YthlleheeghiljaaSy7
namespace Go.Proofs.Ythlleheeghiljaa
open Go.RowKit

/-- Of so many cells each. -/
def idxS (es : Nat) (j : Int) : Nat := match es with
  | 1 => j.toNat
  | e => j.toNat * e
theorem idxS_eq (es : Nat) (j : Int) : idxS es j = j.toNat * es := by
  unfold idxS
  split
  · rw [Nat.mul_one]
  · rfl
def sizeT (P : Program) (T : TypeId) : Option Nat := match P.info? T with | some i => some i.size | none => none
theorem run_size {P : Program} {T : TypeId} {n : Nat} (h : sizeT P T = some n) (w : World) : (sizeOf T).run P w = .ok n w := by
  unfold sizeT at h
  cases hi : P.info? T with
  | none => rw [hi] at h; cases h
  | some i => rw [hi] at h; cases h; simp [sizeOf, typeInfo, hi]
def pickA (t : Bool) (x y : AV) : AV := match x, y with
  | .o (.c (.v p)), .o (.c (.v q)) => vv (cond t p q)
  | x, y => cond t x y
def evMove : List (Option AV) → Option Rec
  | [some av] => val av []
  | _ => none
def evPick : List (Option AV) → Option Rec
  | [some (.o (.c (.v (.bool t)))), some x, some y] => val (pickA t x y) []
  | _ => none
def evUn (op : UnOp) : List (Option AV) → Option Rec
  | [some (.o (.c (.v (.bool b))))] => match op with
    | .not => val (vv (.bool (!b))) []
    | _ => none
  | [some (.o (.c (.v (.int k n))))] => match op with
    | .neg => val (vv (.int k (k.wrap (0 - n)))) []
    | .xor => val (vv (.int k (bits .xor k (cond k.signed (-1) k.max) n))) []
    | _ => none
  | _ => none
def evConvI (P : Program) (src dst : TypeId) : List (Option AV) → Option Rec
  | [some (.o (.c (.v (.int _ x))))] => match P.underlying src, P.underlying dst with
    | some _, some (.int k) => val (vv (.int k (k.wrap x))) []
    | _, _ => none
  | _ => none
def evExtract (i : Nat) : List (Option AV) → Option Rec
  | [some (.t l)] => match getL l i with
    | some x => val (.o x) []
    | none => none
  | _ => none
def evNil : List (Option AV) → Option Rec
  | [some (.o (.c (.ptr i b k)))] => val (.o (.c (.ptr i b k))) []
  | [some (.o (.c (.rp l k)))] => val (.o (.c (.rp l k))) []
  | _ => none
def evFieldAddr (P : Program) (T : TypeId) (f : Nat) : List (Option AV) → Option Rec
  | [some (.o (.c (.ptr i b k)))] => match P.underlying T with
    | some (.struct fs) => match getL fs.toList f with
      | some fd => match sizeT P fd.type with
        | some n => cond (Nat.ble 1 n) (val (.o (.c (.ptr i (Nat.add b fd.offset) k))) []) none
        | none => none
      | none => none
    | _ => none
  | _ => none
def addrC (es n : Nat) (j : Int) : C → Option (C × List Prop)
  | .ptr i b none => some (cond (Nat.beq es 1) (.ptr i b (some (idxS es j))) (.ptr i (Nat.add b (idxS es j)) none), [0 ≤ j, j < n])
  | .ptr i b (some k) => some (.ptr i b (some (k + idxS es j)), [0 ≤ j, j < n])
  | .rp l k => some (.rp l (k + idxS es j), [0 ≤ j, j < n])
  | _ => none
def addrS (es : Nat) (j : Int) : C → Option (C × List Prop)
  | .os i es' n => cond (Nat.beq es es') (some (.ptr i 0 (some (idxS es j)), [0 ≤ j, j < n])) none
  | .sub i b k n => some (.ptr i b (some (k + idxS es j)), [0 ≤ j, j < n])
  | .rs es' n l => cond (Nat.beq es es') (some (.rp l (idxS es j), [0 ≤ j, j < n])) none
  | .rss ls => cond (Nat.beq es 1) (some (.rsp (ls.getD j.toNat []), [0 ≤ j, j < ls.length])) none
  | _ => none
def cOf : Option (C × List Prop) → Option Rec
  | some (c, obl) => val (.o (.c c)) obl
  | none => none
def evIndexAddr (P : Program) (T : TypeId) : List (Option AV) → Option Rec
  | [some (.o (.c c)), some (.o (.c (.v (.int _ j))))] => match P.underlying T with
    | some (.array n e) => match sizeT P e with
      | some es => cOf (addrC es n j c)
      | none => none
    | some (.slice e) => match sizeT P e with
      | some es => cOf (addrS es j c)
      | none => none
    | _ => none
  | _ => none
section
variable {P : Program} {ev : Operand → Value} {o : Oper} {x y c : Operand} {w : World}
theorem run_pick {t : Bool} (ho : o.op = .pick c x y) (hc : ev c = .bool t) : (execOp ev o).run P w = .ok (.value (if t then ev x else ev y)) w := by
  unfold execOp; simp [ho, hc, go_sem]
theorem run_notB {T : TypeId} {b : Bool} (ho : o.op = .unOp .not T x) (hx : ev x = .bool b) : (execOp ev o).run P w = .ok (.value (.bool (!b))) w := by
  unfold execOp; simp [ho, hx, go_sem]
theorem run_negI {T : TypeId} {k : IntKind} {n : Int} (ho : o.op = .unOp .neg T x) (hx : ev x = .int k n) : (execOp ev o).run P w = .ok (.value (.int k (k.wrap (0 - n)))) w := by
  unfold execOp; simp [ho, hx, Op.unary, Op.intArith]
theorem run_xorI {T : TypeId} {k : IntKind} {n : Int} (ho : o.op = .unOp .xor T x) (hx : ev x = .int k n) : (execOp ev o).run P w = .ok (.value (.int k (bits .xor k (cond k.signed (-1) k.max) n))) w := by
  unfold execOp
  cases hs : k.signed <;> simp [ho, hx, Op.unary, Op.intBits, bits, hs]
theorem run_convI {src dst : TypeId} {d : TypeDesc} {k k' : IntKind} {n : Int} (ho : o.op = .convert src dst x) (h1 : P.underlying src = some d) (h2 : P.underlying dst = some (.int k')) (hx : ev x = .int k n) : (execOp ev o).run P w = .ok (.value (.int k' (k'.wrap n))) w := by
  unfold execOp; simp [ho, hx, convert, run_underlying h1, run_underlying h2, Conv.intToInt]
theorem run_extractV {vs : Array Value} {i : Nat} {v : Value} (ho : o.op = .extract x i) (hx : ev x = .tuple vs) (h : vs[i]? = some v) : (execOp ev o).run P w = .ok (.value v) w := by
  unfold execOp; simp [ho, hx, Instr.extract, h]
theorem run_nilP {ad : Addr} (ho : o.op = .nilCheck x) (hx : ev x = .pointer (some ad)) : (execOp ev o).run P w = .ok (.value (.pointer (some ad))) w := by
  unfold execOp; simp [ho, hx]
end
section
variable {E : Ev} {o : Oper} {gs : Nat → Option AV} {gm : Nat → Option MB} {base : Nat} {tg : List Nat} {r : Rec}
theorem val_eq {av : AV} {obl : List Prop} (h : val av obl = some r) : r = ⟨av, 0, [], [], [], obl⟩ := by cases h; rfl
theorem ok_move {x : Operand} (ho : o.op = .move x ∨ o.op = .assign x) (h : evMove [opnd E gs x] = some r) : OpOK E o gs gm base { r with base := base, tg := tg } := by
  unfold evMove at h
  split at h
  · rename_i av he
    simp only [List.cons.injEq, and_true] at he
    obtain rfl := val_eq h
    refine okVal fun cx β a w hp => ⟨a.eval x, ?_, (hp.ops x ?_ av he).1⟩
    · rcases ho with ho | ho <;> simp [execOp, ho]
    · rcases ho with ho | ho <;> simp [ho, Op.operands]
  · cases h
theorem ok_pick {c x y : Operand} (ho : o.op = .pick c x y) (h : evPick [opnd E gs c, opnd E gs x, opnd E gs y] = some r) : OpOK E o gs gm base { r with base := base, tg := tg } := by
  unfold evPick at h
  split at h
  · rename_i t ax ay he
    simp only [List.cons.injEq, and_true] at he
    obtain ⟨h1, h2, h3⟩ := he
    obtain rfl := val_eq h
    refine okVal fun cx β a w hp => ⟨if t then a.eval x else a.eval y, ?_, ?_⟩
    · exact run_pick ho (hp.v (by simp [ho, Op.operands]) h1)
    · have d1 := (hp.ops x (by simp [ho, Op.operands]) ax h2).1
      have d2 := (hp.ops y (by simp [ho, Op.operands]) ay h3).1
      unfold pickA
      split
      · have e1 : a.eval x = _ := d1
        have e2 : a.eval y = _ := d2
        rw [e1, e2]
        cases t <;> exact rfl
      · cases t
        · exact d2
        · exact d1
  · cases h
theorem ok_bin {op : BinOp} {T T' : TypeId} {x y : Operand} (ho : o.op = .binOp op T x y T') (h : evBin E.P op T [opnd E gs x, opnd E gs y] = some r) (hobl : allP r.obl)
    (harr : ∀ (n : Nat) (e : TypeId) (k : IntKind) (l l' : List Int), arrT E.P T = some (n, e, k) → E.P.eqGuardType E.P.depth T = false → l.length = n → l'.length = n → ∀ w, (Op.equal T (.agg (l.map (Value.int k)).toArray) (.agg (l'.map (Value.int k)).toArray)).run E.P w = .ok (decide (l = l')) w) :
    OpOK E o gs gm base { r with base := base, tg := tg } := by
  have hx : x ∈ o.op.operands := by simp [ho, Op.operands]
  have hy : y ∈ o.op.operands := by simp [ho, Op.operands]
  unfold evBin at h
  split at h
  · rename_i k a k' b he
    simp only [List.cons.injEq, and_true] at he
    obtain ⟨h1, h2⟩ := he
    split at h
    · rename_i rr hS
      obtain ⟨v, obl⟩ := rr
      obtain rfl := val_eq h
      exact okVal fun cx β ac w hp => ⟨v, run_binS ho (hp.v hx h1) (hp.v hy h2) hS hobl w, rfl⟩
    · cases hk : kindB k k' with
      | false => rw [hk] at h; cases h
      | true =>
        rw [hk, cond_true] at h
        obtain rfl := kindB_eq hk
        cases hI : binI op k a b with
        | none => rw [hI] at h; cases h
        | some rr =>
          rw [hI] at h
          obtain ⟨v, obl⟩ := rr
          obtain rfl := val_eq h
          exact okVal fun cx β ac w hp => ⟨v, run_binI ho (hp.v hx h1) (hp.v hy h2) hI hobl w, rfl⟩
  · rename_i a b he
    simp only [List.cons.injEq, and_true] at he
    obtain ⟨h1, h2⟩ := he
    cases hI : binT op a b with
    | none => rw [hI] at h; cases h
    | some rr =>
      rw [hI] at h
      obtain ⟨v, obl⟩ := rr
      obtain rfl := val_eq h
      exact okVal fun cx β ac w hp => ⟨v, run_binT ho (hp.v hx h1) (hp.v hy h2) hI hobl w, rfl⟩
  · rename_i a b he
    simp only [List.cons.injEq, and_true] at he
    obtain ⟨h1, h2⟩ := he
    cases hb : boolT E.P T with
    | false => rw [hb] at h; cases h
    | true =>
      rw [hb, cond_true] at h
      cases hI : binB op a b with
      | none => rw [hI] at h; cases h
      | some rr =>
        rw [hI] at h
        obtain ⟨v, obl⟩ := rr
        obtain rfl := val_eq h
        exact okVal fun cx β ac w hp => ⟨v, run_binB hb ho (hp.v hx h1) (hp.v hy h2) hI w, rfl⟩
  · rename_i n k a m k' b he
    simp only [List.cons.injEq, and_true] at he
    obtain ⟨h1, h2⟩ := he
    split at h
    · rename_i l e kk hA
      cases hc : (Nat.beq n l && Nat.beq m l && kindB k kk && kindB k' kk && !E.P.eqGuardType E.P.depth T) with
      | false => rw [hc] at h; cases h
      | true =>
        rw [hc, cond_true] at h
        simp only [Bool.and_eq_true, Bool.not_eq_true'] at hc
        obtain ⟨⟨⟨⟨c1, c2⟩, c3⟩, c4⟩, c5⟩ := hc
        rw [Nat.eq_of_beq_eq_true c1, kindB_eq c3] at h1
        rw [Nat.eq_of_beq_eq_true c2, kindB_eq c4] at h2
        have get : ∀ {cx β} {ac : Act} {w} (_ : Pre E cx β o gs gm base tg ac w) {z : Operand} (_ : z ∈ o.op.operands) {q : List Int}, opnd E gs z = some (.o (.g [.many l (.i kk q)])) → ac.eval z = .agg (q.map (Value.int kk)).toArray ∧ q.length = l := by
          intro cx β ac w hp z hz q hq
          obtain ⟨arr, e1, l', e2, e3, _, e4⟩ := (hp.ops z hz _ hq).1
          have e4' : l' = [] := e4
          rw [e4', List.append_nil] at e2
          have : arr = (q.map (Value.int kk)).toArray := by rw [← Array.toArray_toList (xs := arr), e2]; rfl
          exact ⟨by rw [e1, this], e3⟩
        have run : ∀ {cx β} {ac : Act} {w} (_ : Pre E cx β o gs gm base tg ac w) (neg : Bool), op = (if neg then .neq else .eql) → (execOp ac.eval o).run E.P w = .ok (.value (.bool (if neg then !decide (a = b) else decide (a = b)))) w := by
          intro cx β ac w hp neg hop
          obtain ⟨g1, g2⟩ := get hp hx h1
          obtain ⟨g3, g4⟩ := get hp hy h2
          have hE := harr l e kk a b hA c5 g2 g4 w
          unfold execOp
          simp only [ho, g1, g3]
          cases neg <;> simp only [Bool.false_eq_true, if_false, if_true] at hop ⊢ <;> subst hop <;> simp [eqGuard, program, c5, binOp, hE, Sem.run, go_sem]
        split at h
        · obtain rfl := val_eq h
          exact okVal fun cx β ac w hp => ⟨_, run hp false rfl, rfl⟩
        · obtain rfl := val_eq h
          exact okVal fun cx β ac w hp => ⟨_, run hp true rfl, rfl⟩
        · cases h
    · cases h
  · cases h
theorem ok_un {op : UnOp} {T : TypeId} {x : Operand} (ho : o.op = .unOp op T x) (h : evUn op [opnd E gs x] = some r) : OpOK E o gs gm base { r with base := base, tg := tg } := by
  have hx : x ∈ o.op.operands := by simp [ho, Op.operands]
  unfold evUn at h
  split at h
  · rename_i b he
    simp only [List.cons.injEq, and_true] at he
    split at h
    · obtain rfl := val_eq h
      exact okVal fun cx β a w hp => ⟨_, run_notB ho (hp.v hx he), rfl⟩
    · cases h
  · rename_i k n he
    simp only [List.cons.injEq, and_true] at he
    split at h
    · obtain rfl := val_eq h
      exact okVal fun cx β a w hp => ⟨_, run_negI ho (hp.v hx he), rfl⟩
    · obtain rfl := val_eq h
      exact okVal fun cx β a w hp => ⟨_, run_xorI ho (hp.v hx he), rfl⟩
    · cases h
  · cases h
theorem ok_convI {src dst : TypeId} {x : Operand} (ho : o.op = .convert src dst x) (h : evConvI E.P src dst [opnd E gs x] = some r) : OpOK E o gs gm base { r with base := base, tg := tg } := by
  have hx : x ∈ o.op.operands := by simp [ho, Op.operands]
  unfold evConvI at h
  split at h
  · rename_i k n he
    simp only [List.cons.injEq, and_true] at he
    split at h
    · rename_i d k' h1 h2
      obtain rfl := val_eq h
      exact okVal fun cx β a w hp => ⟨_, run_convI ho h1 h2 (hp.v hx he), rfl⟩
    · cases h
  · cases h
theorem DT_get {cx : Cx} {β : Be} : ∀ {l : List T1} {vs : List Value}, DT cx β l vs → ∀ {i : Nat} {x : T1}, getL l i = some x → ∃ v, vs[i]? = some v ∧ D1 cx β x v
  | [], _, _, _, _, h => by cases h
  | _ :: _, _, ⟨v, l', rfl, h2, h3⟩, 0, x, h => by cases h; exact ⟨v, rfl, h2⟩
  | _ :: _, _, ⟨v, l', rfl, h2, h3⟩, i + 1, x, h => by
    obtain ⟨u, h4, h5⟩ := DT_get h3 (i := i) h
    exact ⟨u, by simpa using h4, h5⟩
theorem ok_extract {x : Operand} {i : Nat} (ho : o.op = .extract x i) (h : evExtract i [opnd E gs x] = some r) : OpOK E o gs gm base { r with base := base, tg := tg } := by
  have hx : x ∈ o.op.operands := by simp [ho, Op.operands]
  unfold evExtract at h
  split at h
  · rename_i l he
    simp only [List.cons.injEq, and_true] at he
    split at h
    · rename_i y hy
      obtain rfl := val_eq h
      refine okVal fun cx β a w hp => ?_
      obtain ⟨vs, e1, e2⟩ := (hp.ops x hx _ he).1
      obtain ⟨v, e3, e4⟩ := DT_get e2 hy
      rw [Array.getElem?_toList] at e3
      exact ⟨v, run_extractV ho e1 e3, e4⟩
    · cases h
  · cases h
theorem ok_nil {x : Operand} (ho : o.op = .nilCheck x) (h : evNil [opnd E gs x] = some r) : OpOK E o gs gm base { r with base := base, tg := tg } := by
  have hx : x ∈ o.op.operands := by simp [ho, Op.operands]
  unfold evNil at h
  split at h
  · rename_i i b k he
    simp only [List.cons.injEq, and_true] at he
    obtain rfl := val_eq h
    refine okVal fun cx β a w hp => ?_
    have d := (hp.ops x hx _ he).1
    obtain ⟨g, s, e1, e2⟩ := d
    exact ⟨_, run_nilP ho e2, ⟨g, s, e1, rfl⟩⟩
  · rename_i l k he
    simp only [List.cons.injEq, and_true] at he
    obtain rfl := val_eq h
    refine okVal fun cx β a w hp => ?_
    have d := (hp.ops x hx _ he).1
    obtain ⟨b, q, e1, e2⟩ := d
    exact ⟨_, run_nilP ho e1, ⟨b, q, rfl, e2⟩⟩
  · cases h
theorem ok_fieldAddr {T : TypeId} {x : Operand} {f : Nat} (ho : o.op = .fieldAddr T x f) (h : evFieldAddr E.P T f [opnd E gs x] = some r) : OpOK E o gs gm base { r with base := base, tg := tg } := by
  have hx : x ∈ o.op.operands := by simp [ho, Op.operands]
  unfold evFieldAddr at h
  split at h
  · rename_i i b k he
    simp only [List.cons.injEq, and_true] at he
    split at h
    · rename_i fs hT
      split at h
      · rename_i fd hf
        split at h
        · rename_i n hn
          cases hb : Nat.ble 1 n with
          | false => rw [hb] at h; cases h
          | true =>
            rw [hb, cond_true] at h
            obtain rfl := val_eq h
            have hf' : fs[f]? = some fd := by rw [getL_eq, Array.getElem?_toList] at hf; exact hf
            refine okVal fun cx β a w hp => ?_
            obtain ⟨g, s, e1, e2⟩ := (hp.ops x hx _ he).1
            refine ⟨.pointer (some ⟨g, (b + fd.offset) + kz k, none⟩), ?_, ⟨g, s, e1, rfl⟩⟩
            have hpos : 1 ≤ n := Nat.le_of_ble_eq_true hb
            obtain ⟨m, rfl⟩ : ∃ m, n = m + 1 := ⟨n - 1, by omega⟩
            have hsz := fun w => run_size hn w
            have e2' : a.eval x = .pointer (some ⟨g, b + kz k, none⟩) := e2
            have hoff : b + kz k + fd.offset = b + fd.offset + kz k := by omega
            unfold execOp
            simp only [ho]
            generalize a.eval = ev at e2' ⊢
            simp [e2', go_sem, run_underlying hT, hf', hsz, hoff]
        · cases h
      · cases h
    · cases h
  · cases h
end
end Go.Proofs.Ythlleheeghiljaa
