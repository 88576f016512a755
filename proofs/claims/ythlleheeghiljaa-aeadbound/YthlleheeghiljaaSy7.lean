/-
  Operations by evaluation: those that yield a value and leave memory alone. For any program.
-/
import Derived.Test.YthlleheeghiljaaSy6
namespace Go.Proofs.Ythlleheeghiljaa
open Go.RowKit

structure Pre (E : Ev) (cx : Cx) (β : Be) (o : Oper) (gs : Nat → Option AV) (gm : Nat → Option MB) (base : Nat) (tg : List Nat) (a : Act) (w : World) : Prop where
  upd : Upd cx.W cx.w0 w
  glob : ∀ g l, (g, l) ∈ E.gl → Lies cx g 0 l
  ops : ∀ x ∈ o.op.operands, ∀ av, opnd E gs x = some av → DA cx β av (a.eval x) ∧ ∀ j ∈ av.idx, j < base
  obj : ∀ m ∈ tg, ∀ mb, gm m = some mb → ObjAt cx β w m mb ∧ m < base ∧ ∀ j ∈ mb.idx, j < base
  ap : ∀ i ∈ tg, ∀ j ∈ tg, ∀ x y, i ≠ j → gm i = some x → gm j = some y → x.rw = true → y.live = true → ∀ g n g' n', β i = some (g, n) → β j = some (g', n') → g ≠ g'
def OpOK (E : Ev) (o : Oper) (gs : Nat → Option AV) (gm : Nat → Option MB) (base : Nat) (r : Rec) : Prop :=
  (∀ m x, lookL m r.wr = some x → m ∈ r.tg ∧ ∃ y, gm m = some y ∧ y.rw = true) ∧ ∀ (cx : Cx) (β : Be) (a : Act) (w : World) (Q : Exit → Act → World → Prop), Pre E cx β o gs gm base r.tg a w → Does E.P cx β o r a w Q
/-- What yields a value. -/
def val (av : AV) (obl : List Prop) : Option Rec := some ⟨av, 0, [], [], [], obl⟩
def vv (x : Value) : AV := .o (.c (.v x))
section
variable {E : Ev} {o : Oper} {gs : Nat → Option AV} {gm : Nat → Option MB} {base : Nat} {tg : List Nat}
theorem put_none {av : AV} {base : Nat} {tg : List Nat} {obl : List Prop} (m : Nat) : Rec.put ⟨av, base, [], [], tg, obl⟩ m = none := by
  unfold Rec.put
  simp only [lookL]
  cases Nat.ble base m <;> rfl
theorem okVal {av : AV} {obl : List Prop} (h : ∀ cx β a w, Pre E cx β o gs gm base tg a w → ∃ v, (execOp a.eval o).run E.P w = .ok (.value v) w ∧ DA cx β av v) : OpOK E o gs gm base ⟨av, base, [], [], tg, obl⟩ := by
  refine ⟨fun m x hm => (by cases hm), fun cx β a w Q hp K hK => ?_⟩
  obtain ⟨v, h1, h2⟩ := h cx β a w hp
  unfold Oper.wp
  rw [h1, Oper.upon_value]
  exact hK v w β (fun _ _ _ => rfl) (fun _ _ _ => rfl) h2 (fun m mb hm => by rw [put_none] at hm; cases hm) (fun m mb _ hm => by rw [put_none] at hm; cases hm) (fun i j x y _ hx => by rw [put_none] at hx; cases hx) (Upd.refl _ w)
/-- An operand that is known to be this value. -/
theorem Pre.v {cx : Cx} {β : Be} {a : Act} {w : World} (hp : Pre E cx β o gs gm base tg a w) {x : Operand} (hx : x ∈ o.op.operands) {u : Value} (h : opnd E gs x = some (.o (.c (.v u)))) : a.eval x = u := (hp.ops x hx _ h).1
end
/-- Arithmetic, as it comes out. -/
def sShl (k : IntKind) (x y : Int) : Int := k.wrap (x * 2 ^ min y.toNat k.bits)
def sShr (k : IntKind) (x y : Int) : Int := x.fdiv (2 ^ min y.toNat k.bits)
def binI (op : BinOp) (k : IntKind) (x y : Int) : Option (Value × List Prop) := match op with
  | .add => some (.int k (k.wrap (x + y)), [])
  | .sub => some (.int k (k.wrap (x - y)), [])
  | .mul => some (.int k (k.wrap (x * y)), [])
  | .quo => some (.int k (k.wrap (x.tdiv y)), [y ≠ 0])
  | .rem => some (.int k (x.tmod y), [y ≠ 0])
  | .and => some (.int k (bits .and k x y), [])
  | .or => some (.int k (bits .or k x y), [])
  | .xor => some (.int k (bits .xor k x y), [])
  | .andNot => some (.int k (bits .andNot k x y), [])
  | .eql => some (.bool (decide (x = y)), [])
  | .neq => some (.bool (!decide (x = y)), [])
  | .lss => some (.bool (decide (x < y)), [])
  | .leq => some (.bool (decide (x ≤ y)), [])
  | .gtr => some (.bool (decide (y < x)), [])
  | .geq => some (.bool (decide (y ≤ x)), [])
  | _ => none
def binS (op : BinOp) (k : IntKind) (x y : Int) : Option (Value × List Prop) := match op with
  | .shl => some (.int k (sShl k x y), [0 ≤ y])
  | .shr => some (.int k (sShr k x y), [0 ≤ y])
  | _ => none
def strAdd (x y : ByteArray) : ByteArray := x ++ y
def strEq (x y : ByteArray) : Bool := x.toList == y.toList
def strLt (x y : ByteArray) : Bool := Op.bytesLess x.toList y.toList
def binT (op : BinOp) (x y : ByteArray) : Option (Value × List Prop) := match op with
  | .add => some (.string (strAdd x y), [x.size + y.size ≤ 9223372036854775807])
  | .eql => some (.bool (strEq x y), [])
  | .neq => some (.bool (!strEq x y), [])
  | .lss => some (.bool (strLt x y), [])
  | _ => none
def binB (op : BinOp) (x y : Bool) : Option (Value × List Prop) := match op with
  | .eql => some (.bool (x == y), [])
  | .neq => some (.bool (!(x == y)), [])
  | _ => none
def vOf : Option (Value × List Prop) → Option Rec
  | some (v, obl) => val (vv v) obl
  | none => none
def boolT (P : Program) (T : TypeId) : Bool := match P.underlying T with | some .bool => true | _ => false
/-- An array of numbers: how many, of which kind. -/
def arrT (P : Program) (T : TypeId) : Option (Nat × TypeId × IntKind) := match P.underlying T with
  | some (.array n e) => match P.underlying e with
    | some (.int k) => match P.info? e with
      | some i => cond (Nat.beq i.size 1) (some (n, e, k)) none
      | none => none
    | _ => none
  | _ => none
def evBin (P : Program) (op : BinOp) (T : TypeId) : List (Option AV) → Option Rec
  | [some (.o (.c (.v (.int k x)))), some (.o (.c (.v (.int k' y))))] => match binS op k x y with
    | some r => vOf (some r)
    | none => cond (kindB k k') (vOf (binI op k x y)) none
  | [some (.o (.c (.v (.string x)))), some (.o (.c (.v (.string y))))] => vOf (binT op x y)
  | [some (.o (.c (.v (.bool x)))), some (.o (.c (.v (.bool y))))] => cond (boolT P T) (vOf (binB op x y)) none
  | [some (.o (.g [.many n (.i k x)])), some (.o (.g [.many m (.i k' y)]))] => match arrT P T with
    | some (l, _, kk) => cond (Nat.beq n l && Nat.beq m l && kindB k kk && kindB k' kk && !P.eqGuardType P.depth T) (match op with
      | .eql => val (vv (.bool (decide (x = y)))) []
      | .neq => val (vv (.bool (!decide (x = y)))) []
      | _ => none) none
    | none => none
  | _ => none
theorem run_binI {P : Program} {ev : Operand → Value} {o : Oper} {op : BinOp} {T T' : TypeId} {p q : Operand} {k : IntKind} {x y : Int} {v : Value} {obl : List Prop} (ho : o.op = .binOp op T p q T') (hp : ev p = .int k x) (hq : ev q = .int k y) (h : binI op k x y = some (v, obl)) (hobl : allP obl) (w : World) :
    (execOp ev o).run P w = .ok (.value v) w := by
  unfold execOp
  simp only [ho]
  cases op <;> simp only [binI, reduceCtorEq, Option.some.injEq, Prod.mk.injEq] at h <;> obtain ⟨rfl, rfl⟩ := h
  all_goals first
    | (have h0 : y ≠ 0 := hobl
       simp [hp, hq, go_sem, h0]; done)
    | (simp [hp, hq, go_sem]; done)
    | (by_cases e : x = y <;> simp [hp, hq, go_sem, e])
theorem run_binS {P : Program} {ev : Operand → Value} {o : Oper} {op : BinOp} {T T' : TypeId} {p q : Operand} {k k' : IntKind} {x y : Int} {v : Value} {obl : List Prop} (ho : o.op = .binOp op T p q T') (hp : ev p = .int k x) (hq : ev q = .int k' y) (h : binS op k x y = some (v, obl)) (hobl : allP obl) (w : World) :
    (execOp ev o).run P w = .ok (.value v) w := by
  unfold execOp
  simp only [ho]
  cases op <;> simp only [binS, reduceCtorEq, Option.some.injEq, Prod.mk.injEq] at h <;> obtain ⟨rfl, rfl⟩ := h
  all_goals
    have h0 : 0 ≤ y := hobl
    have h1 : ¬ y < 0 := by omega
    simp [hp, hq, go_sem, eqGuard, binOp, Op.shift, h1, sShl, sShr]
theorem run_binT {P : Program} {ev : Operand → Value} {o : Oper} {op : BinOp} {T T' : TypeId} {p q : Operand} {x y : ByteArray} {v : Value} {obl : List Prop} (ho : o.op = .binOp op T p q T') (hp : ev p = .string x) (hq : ev q = .string y) (h : binT op x y = some (v, obl)) (hobl : allP obl) (w : World) :
    (execOp ev o).run P w = .ok (.value v) w := by
  unfold execOp
  simp only [ho]
  cases op <;> simp only [binT, reduceCtorEq, Option.some.injEq, Prod.mk.injEq] at h <;> obtain ⟨rfl, rfl⟩ := h
  · have h0 : x.size + y.size ≤ 9223372036854775807 := hobl
    have h1 : ¬ (((x.size + y.size : Nat) : Int) > IntKind.i64.max) := by
      have : IntKind.i64.max = 9223372036854775807 := by decide
      omega
    simp only [hp, hq, eqGuard, binOp, Op.stringOp, h1, if_false, strAdd]
    simp [go_sem]
  all_goals simp [hp, hq, eqGuard, binOp, Op.stringOp, strEq, strLt, go_sem]
theorem run_binB {P : Program} {ev : Operand → Value} {o : Oper} {op : BinOp} {T T' : TypeId} {p q : Operand} {x y : Bool} {v : Value} {obl : List Prop} (hT : boolT P T = true) (ho : o.op = .binOp op T p q T') (hp : ev p = .bool x) (hq : ev q = .bool y) (h : binB op x y = some (v, obl)) (w : World) :
    (execOp ev o).run P w = .ok (.value v) w := by
  have hu : P.underlying T = some .bool := by
    unfold boolT at hT
    split at hT
    · assumption
    · cases hT
  have he : (Op.equalIn (9999 + 1) T (.bool x) (.bool y)).run P w = .ok (x == y) w := by
    rw [Op.equalIn]
    simp [run_underlying hu]
  unfold execOp
  simp only [ho]
  cases op <;> simp only [binB, reduceCtorEq, Option.some.injEq, Prod.mk.injEq] at h <;> obtain ⟨rfl, rfl⟩ := h
  all_goals simp [hp, hq, eqGuard, binOp, Op.equal, Op.maxDepth, he, go_sem]
end Go.Proofs.Ythlleheeghiljaa
