/-
  Operations by evaluation: places in memory, what lies there, what is laid there. For any program.
-/
import Derived.Test.YthlleheeghiljaaSy8
namespace Go.Proofs.Ythlleheeghiljaa
open Go.RowKit

section
variable {P : Program}
theorem listD_ext {p q : List Int} (hl : p.length = q.length) (h : ∀ j, j < p.length → p.getD j 0 = q.getD j 0) : p = q := by
  apply List.ext_getElem hl
  intro j h1 h2
  have := h j h1
  simpa [List.getD_eq_getElem?_getD, h1, h2] using this
theorem intsA_get (k : IntKind) (l : List Int) (i : Nat) (h : i < l.length) : ((l.map (Value.int k)).toArray)[i]? = some (.int k (l.getD i 0)) := by
  simp [List.getD_eq_getElem?_getD, h]
theorem run_equalArr (w : World) (d : Nat) (t e : TypeId) (k : IntKind) (n : Nat) (A B : List Int) (ht : P.underlying t = some (.array n e)) (he : P.underlying e = some (.int k)) (hs : sizeT P e = some 1) (hA : A.length = n) (hB : B.length = n) :
    (Op.equalIn (d + 2) t (.agg (A.map (Value.int k)).toArray) (.agg (B.map (Value.int k)).toArray)).run P w = .ok (decide (A = B)) w := by
  have hsz : ∀ w, (sizeOf e).run P w = .ok 1 w := run_size hs
  have key : decide (A = B) = decide (∀ i ∈ List.range' 0 n 1, A.getD i 0 = B.getD i 0) := by
    rw [decide_eq_decide]
    constructor
    · intro h i _; rw [h]
    · intro h
      exact listD_ext (by omega) (fun j hj => h j (by rw [List.mem_range'_1]; omega))
  rw [key]
  rw [Op.equalIn]
  simp only [Sem.run_bind, run_underlying ht, Result.andThen_ok, hsz, Std.Legacy.Range.forIn_eq_forIn_range', Std.Legacy.Range.size, Nat.sub_zero, Nat.add_sub_cancel, Nat.div_one]
  have hl : ∀ i ∈ List.range' 0 n 1, i < n := fun i hi => by simpa using (List.mem_range'_1.1 hi).2
  generalize List.range' 0 n 1 = l at hl ⊢
  clear key
  induction l with
  | nil => simp
  | cons i l ih =>
    have hi : i < n := hl i (by simp)
    have px : (part e (A.map (Value.int k)).toArray (i * 1)).run P w = .ok (.int k (A.getD i 0)) w := by
      have := intsA_get k A i (by omega)
      rw [Nat.mul_one]
      unfold part
      rw [Sem.run_bind, show (isAgg e).run P w = .ok false w by simp [isAgg, run_underlying he], Result.andThen_ok]
      simp only [Bool.false_eq_true, if_false, this]
      rfl
    have py : (part e (B.map (Value.int k)).toArray (i * 1)).run P w = .ok (.int k (B.getD i 0)) w := by
      have := intsA_get k B i (by omega)
      rw [Nat.mul_one]
      unfold part
      rw [Sem.run_bind, show (isAgg e).run P w = .ok false w by simp [isAgg, run_underlying he], Result.andThen_ok]
      simp only [Bool.false_eq_true, if_false, this]
      rfl
    have pe : (Op.equalIn (d + 1) e (.int k (A.getD i 0)) (.int k (B.getD i 0))).run P w = .ok (A.getD i 0 == B.getD i 0) w := by
      rw [run_equalIn_int w d e k k _ _ he]
    simp only [List.forIn_cons, Sem.run_bind, px, py, pe, Result.andThen_ok]
    by_cases hq : A.getD i 0 = B.getD i 0
    · have hq' : (A.getD i 0 == B.getD i 0) = true := beq_iff_eq.2 hq
      simp only [hq', Bool.not_true, Bool.false_eq_true, if_false, Sem.run_pure, Result.andThen_ok]
      rw [ih fun j hj => hl j (by simp [hj])]
      congr 1
      rw [decide_eq_decide]
      constructor
      · intro h j hj
        rcases List.mem_cons.1 hj with rfl | hj
        · exact hq
        · exact h j hj
      · intro h j hj
        exact h j (by simp [hj])
    · have hq' : (A.getD i 0 == B.getD i 0) = false := beq_eq_false_iff_ne.2 hq
      simp only [hq', Bool.not_false, if_true, Sem.run_pure, Result.andThen_ok]
      congr 1
      symm
      rw [decide_eq_false_iff_not]
      intro h
      exact hq (h i (by simp))
theorem arr_equal (T : TypeId) (n : Nat) (e : TypeId) (k : IntKind) (l l' : List Int) (h : arrT P T = some (n, e, k)) (h1 : l.length = n) (h2 : l'.length = n) (w : World) :
    (Op.equal T (.agg (l.map (Value.int k)).toArray) (.agg (l'.map (Value.int k)).toArray)).run P w = .ok (decide (l = l')) w := by
  unfold arrT at h
  split at h
  · rename_i n' e' ht
    split at h
    · rename_i k' he
      split at h
      · rename_i i hi
        cases hb : Nat.beq i.size 1 with
        | false => rw [hb] at h; cases h
        | true =>
          rw [hb, cond_true] at h
          cases h
          exact run_equalArr w 9998 T e k n l l' ht he (by simp [sizeT, hi, Nat.eq_of_beq_eq_true hb]) h1 h2
      · cases h
    · cases h
  · cases h
theorem run_idxArr {ev : Operand → Value} {o : Oper} {T e : TypeId} {x y : Operand} {n es g off : Nat} {k : IntKind} {j : Int} (ho : o.op = .indexAddr T x y) (hT : P.underlying T = some (.array n e)) (hs : sizeT P e = some es) (hx : ev x = .pointer (some ⟨g, off, none⟩)) (hy : ev y = .int k j) (h0 : 0 ≤ j) (h1 : j < n) (w : World) :
    (execOp ev o).run P w = .ok (.value (.pointer (some ⟨g, off + j.toNat * es, none⟩))) w := by
  have hsz := fun w => run_size hs w
  unfold execOp
  simp only [ho]
  simp [hx, hy, go_sem, Instr.indexAt, run_underlying hT, hsz, h0, h1]
theorem run_idxSl {ev : Operand → Value} {o : Oper} {T e : TypeId} {x y : Operand} {n cap es g off : Nat} {k : IntKind} {j : Int} (ho : o.op = .indexAddr T x y) (hT : P.underlying T = some (.slice e)) (hs : sizeT P e = some es) (hx : ev x = .slice (some ⟨g, off, none⟩) n cap) (hy : ev y = .int k j) (h0 : 0 ≤ j) (h1 : j < n) (w : World) :
    (execOp ev o).run P w = .ok (.value (.pointer (some ⟨g, off + j.toNat * es, none⟩))) w := by
  have hsz := fun w => run_size hs w
  unfold execOp
  simp only [ho]
  simp [hx, hy, go_sem, Instr.indexAt, run_underlying hT, hsz, h0, h1]
end
section
variable {E : Ev} {o : Oper} {gs : Nat → Option AV} {gm : Nat → Option MB} {base : Nat} {tg : List Nat} {r : Rec}
theorem ok_indexAddr {T : TypeId} {x y : Operand} (ho : o.op = .indexAddr T x y) (h : evIndexAddr E.P T [opnd E gs x, opnd E gs y] = some r) (hobl : allP r.obl) : OpOK E o gs gm base { r with base := base, tg := tg } := by
  have hx : x ∈ o.op.operands := by simp [ho, Op.operands]
  have hy : y ∈ o.op.operands := by simp [ho, Op.operands]
  unfold evIndexAddr at h
  split at h
  · rename_i c kk j he
    simp only [List.cons.injEq, and_true] at he
    obtain ⟨h1, h2⟩ := he
    split at h
    · rename_i n e hT
      split at h
      · rename_i es hs
        cases hc : addrC es n j c with
        | none => rw [hc] at h; cases h
        | some p =>
          rw [hc] at h
          obtain ⟨d, obl⟩ := p
          obtain rfl := val_eq h
          cases c with
          | ptr i b k =>
            cases k with
            | none =>
              cases hc
              obtain ⟨h0, (hn : j < (n : Int))⟩ := hobl
              refine okVal fun cx β a w hp => ?_
              obtain ⟨g, s, e1, e2⟩ := (hp.ops x hx _ h1).1
              refine ⟨_, run_idxArr ho hT hs e2 (hp.v hy h2) h0 hn w, ?_⟩
              cases Nat.beq es 1
              · exact ⟨g, s, e1, by simp [kz, idxS_eq]⟩
              · exact ⟨g, s, e1, by simp [kz, idxS_eq]⟩
            | some k =>
              cases hc
              obtain ⟨h0, (hn : j < (n : Int))⟩ := hobl
              refine okVal fun cx β a w hp => ?_
              obtain ⟨g, s, e1, e2⟩ := (hp.ops x hx _ h1).1
              exact ⟨_, run_idxArr ho hT hs e2 (hp.v hy h2) h0 hn w, ⟨g, s, e1, by simp [kz, idxS_eq, Nat.add_assoc]⟩⟩
          | rp l k =>
            cases hc
            obtain ⟨h0, (hn : j < (n : Int))⟩ := hobl
            refine okVal fun cx β a w hp => ?_
            obtain ⟨g, s, e1, e2⟩ := (hp.ops x hx _ h1).1
            exact ⟨_, run_idxArr ho hT hs e1 (hp.v hy h2) h0 hn w, ⟨g, s, by simp [idxS_eq, Nat.add_assoc], e2⟩⟩
          | _ => cases hc
      · cases h
    · rename_i e hT
      split at h
      · rename_i es hs
        cases hc : addrS es j c with
        | none => rw [hc] at h; cases h
        | some p =>
          rw [hc] at h
          obtain ⟨d, obl⟩ := p
          obtain rfl := val_eq h
          cases c with
          | os i es' n =>
            simp only [addrS] at hc
            cases hb : Nat.beq es es' with
            | false => rw [hb] at hc; cases hc
            | true =>
              rw [hb, cond_true] at hc
              cases hc
              obtain rfl := Nat.eq_of_beq_eq_true hb
              obtain ⟨h0, (hn : j < (n : Int))⟩ := hobl
              refine okVal fun cx β a w hp => ?_
              rcases (hp.ops x hx _ h1).1 with ⟨_, e2, _⟩ | ⟨g, s, cap, e1, e2, _⟩
              · omega
              · exact ⟨_, run_idxSl ho hT hs e2 (hp.v hy h2) h0 hn w, ⟨g, s, e1, by simp [kz, idxS_eq]⟩⟩
          | sub i b k n =>
            cases hc
            obtain ⟨h0, (hn : j < (n : Int))⟩ := hobl
            refine okVal fun cx β a w hp => ?_
            obtain ⟨sp, cap, e1, e2, e3, e4⟩ := (hp.ops x hx _ h1).1
            obtain ⟨g, s, e5, rfl⟩ := e4 (by omega)
            exact ⟨_, run_idxSl ho hT hs e1 (hp.v hy h2) h0 hn w, ⟨g, s, e5, by simp [kz, idxS_eq, Nat.add_assoc]⟩⟩
          | rs es' n l =>
            simp only [addrS] at hc
            cases hb : Nat.beq es es' with
            | false => rw [hb] at hc; cases hc
            | true =>
              rw [hb, cond_true] at hc
              cases hc
              obtain rfl := Nat.eq_of_beq_eq_true hb
              obtain ⟨h0, (hn : j < (n : Int))⟩ := hobl
              refine okVal fun cx β a w hp => ?_
              obtain ⟨sp, cap, e1, e2, e3, e4, e5⟩ := (hp.ops x hx _ h1).1
              obtain ⟨b, q, rfl, hL⟩ := e5 (by omega)
              exact ⟨_, run_idxSl ho hT hs e1 (hp.v hy h2) h0 hn w, ⟨b, q, by simp [idxS_eq], hL⟩⟩
          | rss ls =>
            simp only [addrS] at hc
            cases hb : Nat.beq es 1 with
            | false => rw [hb] at hc; cases hc
            | true =>
              rw [hb, cond_true] at hc
              cases hc
              obtain rfl := Nat.eq_of_beq_eq_true hb
              obtain ⟨h0, (hn : j < (ls.length : Int))⟩ := hobl
              refine okVal fun cx β a w hp => ?_
              obtain ⟨sp, cap, e1, e2, e3, e4⟩ := (hp.ops x hx _ h1).1
              obtain ⟨b, q, rfl, hL⟩ := e4 (by omega)
              refine ⟨_, run_idxSl ho hT hs e1 (hp.v hy h2) h0 hn w, ⟨b, q + j.toNat, by simp, hL.1, hL.2.1, fun i l hi => ?_⟩⟩
              cases i with
              | zero =>
                cases hi
                have hlt : j.toNat < ls.length := by omega
                exact hL.2.2 j.toNat _ (by rw [List.getElem?_eq_getElem hlt, List.getD_eq_getElem?_getD, List.getElem?_eq_getElem hlt]; rfl)
              | succ i => cases hi
          | _ => cases hc
      · cases h
    · cases h
  · cases h
end

theorem bleT {k m : Nat} (h : k ≤ m) : Nat.ble k m = true := by rw [Nat.ble_eq]; exact h
/-- Lists of cells: one of them; one replaced; a part; a part replaced. -/
def L.get : L → Nat → Value
  | .i k l, q => .int k (l.getD q 0)
  | .v l, q => l.getD q undef
def L.set : L → Nat → Value → Option L
  | .i k l, q, .int k' n => cond (kindB k k') (some (.i k (l.set q n))) none
  | .v l, q, x => some (.v (l.set q x))
  | _, _, _ => none
def L.cut : L → Nat → Nat → L
  | .i k l, a, m => .i k ((l.drop a).take m)
  | .v l, a, m => .v ((l.drop a).take m)
/-- With other cells laid over it from a on. -/
def lay {α : Type} (l : List α) (a : Nat) (x : List α) : List α := l.take a ++ x ++ l.drop (a + x.length)
def L.lay : L → Nat → L → Option L
  | .i k l, a, .i k' x => cond (kindB k k') (some (.i k (Go.Proofs.Ythlleheeghiljaa.lay l a x))) none
  | .v l, a, .v x => some (.v (Go.Proofs.Ythlleheeghiljaa.lay l a x))
  | _, _, _ => none
theorem L.get_c (l : L) (i : Nat) (h : i < l.len) : l.c[i]? = some (l.get i) := by
  cases l with
  | i k l =>
    have h' : i < l.length := h
    simp [L.c, L.get, h']
  | v l =>
    have h' : i < l.length := h
    simp [L.c, L.get, h']
theorem L.cut_c (l : L) (a m : Nat) : (l.cut a m).c = (l.c.drop a).take m := by cases l <;> simp [L.c, L.cut, List.map_take, List.map_drop]
theorem L.cut_len (l : L) (a m : Nat) (h : a + m ≤ l.len) : (l.cut a m).len = m := by cases l <;> simp [L.len, L.cut] at * <;> omega
theorem L.set_c {l l' : L} {i : Nat} {x : Value} (h : l.set i x = some l') : l'.c = l.c.set i x ∧ l'.len = l.len := by
  cases l with
  | i k l =>
    cases x with
    | int k' n =>
      simp only [L.set] at h
      cases hk : kindB k k' with
      | false => rw [hk] at h; cases h
      | true => rw [hk] at h; cases h; rw [← kindB_eq hk]; simp [L.c, L.len, List.map_set]
    | _ => cases h
  | v l => cases h; simp [L.c, L.len]
theorem L.lay_c {l l' x : L} {a : Nat} (h : l.lay a x = some l') : l'.c = Go.Proofs.Ythlleheeghiljaa.lay l.c a x.c ∧ (a + x.len ≤ l.len → l'.len = l.len) := by
  cases l <;> cases x <;> simp only [L.lay, reduceCtorEq] at h
  · rename_i k l k' x
    cases hk : kindB k k' with
    | false => rw [hk] at h; cases h
    | true =>
      rw [hk] at h; cases h; rw [← kindB_eq hk]
      simp only [L.c, L.len, Go.Proofs.Ythlleheeghiljaa.lay, List.map_append, List.map_take, List.map_drop, List.length_map, List.length_append, List.length_take, List.length_drop, true_and]
      omega
  · cases h
    simp only [L.c, L.len, Go.Proofs.Ythlleheeghiljaa.lay, List.length_append, List.length_take, List.length_drop, true_and]
    omega
def getCell : List Seg → Nat → Option Nat → Option (C × List Prop)
  | [], _, _ => none
  | .rsv _ :: _, _, _ => none
  | .one c :: _, 0, none => some (c, [])
  | .one c :: _, 0, some 0 => some (c, [])
  | .one _ :: r, 0, some (k + 1) => getCell r 0 (some k)
  | .one _ :: r, b + 1, k => getCell r b k
  | .many n l :: _, 0, none => some (.v (l.get 0), [0 < n])
  | .many n l :: _, 0, some k => some (.v (l.get k), [k < n])
  | .many n l :: r, b + 1, k => cond (Nat.blt (b + 1) n) (some (.v (l.get (Nat.add (b + 1) (kz k))), [Nat.add (b + 1) (kz k) < n])) (getCell r (b + 1 - n) k)
def setCell : List Seg → Nat → Option Nat → C → Option (List Seg × List Prop)
  | [], _, _, _ => none
  | .rsv _ :: _, _, _, _ => none
  | .one _ :: r, 0, none, c => some (.one c :: r, [])
  | .one _ :: _, 0, some _, _ => none
  | .one d :: r, b + 1, k, c => match setCell r b k c with | some (s, o) => some (.one d :: s, o) | none => none
  | .many n l :: r, 0, k, .v x => match l.set (kz k) x with | some l' => some (.many n l' :: r, [kz k < n]) | none => none
  | .many n l :: r, b + 1, k, c => cond (Nat.blt (b + 1) n) (match c with
      | .v x => match l.set (Nat.add (b + 1) (kz k)) x with | some l' => some (.many n l' :: r, [Nat.add (b + 1) (kz k) < n]) | none => none
      | _ => none) (match setCell r (b + 1 - n) k c with | some (s, o) => some (.many n l :: s, o) | none => none)
  | .many _ _ :: _, 0, _, _ => none
/-- The first n cells. -/
def takeS : List Seg → Nat → Option (List Seg)
  | _, 0 => some []
  | [], _ + 1 => none
  | .rsv _ :: _, _ + 1 => none
  | .one c :: r, n + 1 => match takeS r n with | some s => some (.one c :: s) | none => none
  | .many m l :: r, n + 1 => cond (Nat.ble m (n + 1)) (match takeS r (n + 1 - m) with | some s => some (.many m l :: s) | none => none) (some [.many (n + 1) (l.cut 0 (n + 1))])
def getPart : List Seg → Nat → Option Nat → Nat → Option (List Seg × List Prop)
  | s, 0, none, n => match takeS s n with | some t => some (t, []) | none => none
  | .many m l :: _, 0, some k, n => some ([.many n (l.cut k n)], [k + n ≤ m])
  | .many m l :: r, b + 1, k, n => cond (Nat.blt (b + 1) m) (some ([.many n (l.cut (Nat.add (b + 1) (kz k)) n)], [Nat.add (b + 1) (kz k) + n ≤ m])) (getPart r (b + 1 - m) k n)
  | .one _ :: r, b + 1, k, n => getPart r b k n
  | _, _, _, _ => none
/-- Segs of so many cells. -/
def segsLen : List Seg → Nat
  | [] => 0
  | .one _ :: r => Nat.add 1 (segsLen r)
  | .many n _ :: r => Nat.add n (segsLen r)
  | .rsv l :: r => Nat.add l.length (segsLen r)
def dropS : List Seg → Nat → Option (List Seg)
  | s, 0 => some s
  | [], _ + 1 => none
  | .rsv _ :: _, _ + 1 => none
  | .one _ :: r, n + 1 => dropS r n
  | .many m l :: r, n + 1 => cond (Nat.ble m (n + 1)) (dropS r (n + 1 - m)) (some (.many (m - (n + 1)) (l.cut (n + 1) (m - (n + 1))) :: r))
def setPart : List Seg → Nat → Option Nat → List Seg → Option (List Seg × List Prop)
  | s, 0, none, x => match dropS s (segsLen x) with | some t => some (x ++ t, []) | none => none
  | .many m l :: r, 0, some k, [.many n x] => match l.lay k x with | some l' => some (.many m l' :: r, [k + n ≤ m]) | none => none
  | .many m l :: r, b + 1, k, x => cond (Nat.blt (b + 1) m) (match x with
      | [.many n x] => match l.lay (Nat.add (b + 1) (kz k)) x with | some l' => some (.many m l' :: r, [Nat.add (b + 1) (kz k) + n ≤ m]) | none => none
      | _ => none) (match setPart r (b + 1 - m) k x with | some (s, o) => some (.many m l :: s, o) | none => none)
  | .one c :: r, b + 1, k, x => match setPart r b k x with | some (s, o) => some (.one c :: s, o) | none => none
  | _, _, _, _ => none
section
variable {cx : Cx} {β : Be}
theorem getCell_ok : ∀ {s : List Seg} {b : Nat} {k : Option Nat} {c : C} {obl : List Prop}, getCell s b k = some (c, obl) → allP obl → ∀ {l : List Value}, DL cx β s l → ∃ v, l[b + kz k]? = some v ∧ DC cx β c v ∧ v.oneCell' = true
  | .one d :: r, 0, none, c, obl, h, _, l, ⟨v, l', h1, h2, h3, h4⟩ => by cases h; exact ⟨v, by simp [h1, kz], h2, h3⟩
  | .one d :: r, 0, some 0, c, obl, h, _, l, ⟨v, l', h1, h2, h3, h4⟩ => by cases h; exact ⟨v, by simp [h1, kz], h2, h3⟩
  | .one d :: r, 0, some (k + 1), c, obl, h, ho, l, ⟨v, l', h1, h2, h3, h4⟩ => by
    obtain ⟨u, e1, e2⟩ := getCell_ok (s := r) (b := 0) (k := some k) h ho h4
    refine ⟨u, ?_, e2⟩
    rw [h1, show 0 + kz (some (k + 1)) = (0 + kz (some k)) + 1 by simp [kz], List.getElem?_cons_succ]; exact e1
  | .one d :: r, b + 1, k, c, obl, h, ho, l, ⟨v, l', h1, h2, h3, h4⟩ => by
    obtain ⟨u, e1, e2⟩ := getCell_ok (s := r) (b := b) h ho h4
    refine ⟨u, ?_, e2⟩
    rw [h1, show b + 1 + kz k = (b + kz k) + 1 by omega, List.getElem?_cons_succ]; exact e1
  | .many n x :: r, 0, none, c, obl, h, ho, l, ⟨l', h1, h2, h3, h4⟩ => by
    cases h
    have hn : 0 < n := ho
    have hg := L.get_c x 0 (by omega)
    refine ⟨_, ?_, rfl, h3 _ (List.mem_of_getElem? hg)⟩
    rw [h1, List.getElem?_append_left (by rw [L.len_c]; simp [kz]; omega)]
    exact hg
  | .many n x :: r, 0, some k, c, obl, h, ho, l, ⟨l', h1, h2, h3, h4⟩ => by
    cases h
    have hn : k < n := ho
    have hg := L.get_c x k (by omega)
    refine ⟨_, ?_, rfl, h3 _ (List.mem_of_getElem? hg)⟩
    rw [h1, List.getElem?_append_left (by rw [L.len_c]; simp [kz]; omega)]
    simpa [kz] using hg
  | .many n x :: r, b + 1, k, c, obl, h, ho, l, ⟨l', h1, h2, h3, h4⟩ => by
    unfold getCell at h
    cases hb : Nat.blt (b + 1) n with
    | true =>
      rw [hb] at h; cases h
      have hn : b + 1 + kz k < n := ho
      have hg := L.get_c x (b + 1 + kz k) (by omega)
      refine ⟨_, ?_, rfl, h3 _ (List.mem_of_getElem? hg)⟩
      rw [h1, List.getElem?_append_left (by rw [L.len_c]; omega)]
      exact hg
    | false =>
      rw [hb] at h
      have hle : ¬ b + 1 < n := fun e => by rw [blt_iff.2 e] at hb; cases hb
      obtain ⟨u, e1, e2⟩ := getCell_ok (s := r) (b := b + 1 - n) h ho h4
      refine ⟨u, ?_, e2⟩
      rw [h1, List.getElem?_append_right (by rw [L.len_c]; omega), L.len_c, h2, show b + 1 + kz k - n = b + 1 - n + kz k by omega]
      exact e1
theorem setCell_ok : ∀ {s : List Seg} {b : Nat} {k : Option Nat} {c : C} {s' : List Seg} {obl : List Prop}, setCell s b k c = some (s', obl) → allP obl → ∀ {v : Value}, DC cx β c v → v.oneCell' = true → ∀ {l : List Value}, DL cx β s l → b + kz k < l.length ∧ DL cx β s' (l.set (b + kz k) v)
  | .one d :: r, 0, none, c, s', obl, h, _, v, hc, h1c, l, ⟨u, l', h1, h2, h3, h4⟩ => by
    cases h; subst h1; exact ⟨by simp [kz], v, l', by simp [kz], hc, h1c, h4⟩
  | .one d :: r, b + 1, k, c, s', obl, h, ho, v, hc, h1c, l, ⟨u, l', h1, h2, h3, h4⟩ => by
    unfold setCell at h
    split at h
    · rename_i s o hs
      cases h
      obtain ⟨e1, e2⟩ := setCell_ok (s := r) (b := b) hs ho hc h1c h4
      subst h1
      refine ⟨by simp; omega, u, _, ?_, h2, h3, e2⟩
      rw [show b + 1 + kz k = (b + kz k) + 1 by omega, List.set_cons_succ]
    · cases h
  | .many n x :: r, 0, k, .v y, s', obl, h, ho, v, hc, h1c, l, ⟨l', h1, h2, h3, h4⟩ => by
    unfold setCell at h
    split at h
    · rename_i x' hx
      cases h
      have hn : kz k < n := ho
      obtain ⟨e1, e2⟩ := L.set_c hx
      have hv : v = y := hc
      subst hv
      subst h1
      refine ⟨by rw [List.length_append, L.len_c]; omega, l', ?_, by omega, ?_, h4⟩
      · rw [Nat.zero_add, List.set_append_left _ _ (by rw [L.len_c]; omega), e1]
      · intro z hz
        rw [e1] at hz
        rcases List.mem_or_eq_of_mem_set hz with hz | rfl
        · exact h3 z hz
        · exact h1c
    · cases h
  | .many n x :: r, b + 1, k, c, s', obl, h, ho, v, hc, h1c, l, ⟨l', h1, h2, h3, h4⟩ => by
    unfold setCell at h
    cases hb : Nat.blt (b + 1) n with
    | true =>
      rw [hb, cond_true] at h
      split at h
      · split at h
        · rename_i y x' hx
          cases h
          have hn : b + 1 + kz k < n := ho
          obtain ⟨e1, e2⟩ := L.set_c hx
          have hv : v = _ := hc
          subst hv
          subst h1
          refine ⟨by rw [List.length_append, L.len_c]; omega, l', ?_, by omega, ?_, h4⟩
          · rw [List.set_append_left _ _ (by rw [L.len_c]; omega), e1]; rfl
          · intro z hz
            rw [e1] at hz
            rcases List.mem_or_eq_of_mem_set hz with hz | rfl
            · exact h3 z hz
            · exact h1c
        · cases h
      · cases h
    | false =>
      rw [hb, cond_false] at h
      have hle : ¬ b + 1 < n := fun e => by rw [blt_iff.2 e] at hb; cases hb
      split at h
      · rename_i s o hs
        cases h
        obtain ⟨e1, e2⟩ := setCell_ok (s := r) (b := b + 1 - n) hs ho hc h1c h4
        subst h1
        refine ⟨by rw [List.length_append, L.len_c]; omega, l'.set (b + 1 - n + kz k) v, ?_, h2, h3, e2⟩
        rw [List.set_append_right _ _ (by rw [L.len_c]; omega), L.len_c, h2, show b + 1 + kz k - n = b + 1 - n + kz k by omega]
      · cases h
theorem takeS_ok : ∀ {s : List Seg} {n : Nat} {t : List Seg}, takeS s n = some t → ∀ {l : List Value}, DL cx β s l → n ≤ l.length ∧ DL cx β t (l.take n)
  | s, 0, t, h, l, d => by cases s <;> (cases h; exact ⟨by omega, by simp [DL]⟩)
  | .one c :: r, n + 1, t, h, l, ⟨v, l', h1, h2, h3, h4⟩ => by
    unfold takeS at h
    split at h
    · rename_i s hs
      cases h
      obtain ⟨e1, e2⟩ := takeS_ok (s := r) hs h4
      subst h1
      exact ⟨by simp; omega, v, l'.take n, by simp, h2, h3, e2⟩
    · cases h
  | .many m x :: r, n + 1, t, h, l, ⟨l', h1, h2, h3, h4⟩ => by
    unfold takeS at h
    have hxl := L.len_c x
    cases hb : Nat.ble m (n + 1) with
    | true =>
      rw [hb, cond_true] at h
      have hle := Nat.le_of_ble_eq_true hb
      split at h
      · rename_i s hs
        cases h
        obtain ⟨e1, e2⟩ := takeS_ok (s := r) hs h4
        subst h1
        refine ⟨by rw [List.length_append]; omega, l'.take (n + 1 - m), ?_, h2, h3, e2⟩
        rw [List.take_append, List.take_of_length_le (by omega), hxl, h2]
      · cases h
    | false =>
      rw [hb, cond_false] at h
      cases h
      have hlt : ¬ m ≤ n + 1 := fun e => by rw [bleT e] at hb; cases hb
      subst h1
      refine ⟨by rw [List.length_append]; omega, [], ?_, L.cut_len _ _ _ (by omega), ?_, rfl⟩
      · rw [List.append_nil, L.cut_c, List.drop_zero, List.take_append_of_le_length (by omega)]
      · intro z hz
        rw [L.cut_c] at hz
        exact h3 z (List.mem_of_mem_drop (List.mem_of_mem_take hz))
theorem getPart_ok : ∀ {s : List Seg} {b : Nat} {k : Option Nat} {n : Nat} {t : List Seg} {obl : List Prop}, getPart s b k n = some (t, obl) → allP obl → ∀ {l : List Value}, DL cx β s l → b + kz k + n ≤ l.length ∧ DL cx β t ((l.drop (b + kz k)).take n)
  | s, 0, none, n, t, obl, h, ho, l, d => by
    unfold getPart at h
    split at h
    · rename_i u hu
      cases h
      have := takeS_ok hu d
      exact ⟨by simpa [kz] using this.1, by simpa [kz] using this.2⟩
    · cases h
  | .many m x :: r, 0, some k, n, t, obl, h, ho, l, ⟨l', h1, h2, h3, h4⟩ => by
    cases h
    have hn : k + n ≤ m := ho
    have hxl := L.len_c x
    subst h1
    refine ⟨by rw [List.length_append]; simp only [kz]; omega, [], ?_, L.cut_len _ _ _ (by omega), ?_, rfl⟩
    · rw [List.append_nil, L.cut_c, List.drop_append_of_le_length (by simp only [kz]; omega), List.take_append_of_le_length (by simp only [kz, List.length_drop]; omega)]
      simp [kz]
    · intro z hz
      rw [L.cut_c] at hz
      exact h3 z (List.mem_of_mem_drop (List.mem_of_mem_take hz))
  | .many m x :: r, b + 1, k, n, t, obl, h, ho, l, ⟨l', h1, h2, h3, h4⟩ => by
    unfold getPart at h
    have hxl := L.len_c x
    cases hb : Nat.blt (b + 1) m with
    | true =>
      rw [hb] at h; cases h
      have hn : b + 1 + kz k + n ≤ m := ho
      subst h1
      refine ⟨by rw [List.length_append]; omega, [], ?_, L.cut_len _ _ _ (by show b + 1 + kz k + n ≤ _; omega), ?_, rfl⟩
      · rw [List.append_nil, L.cut_c, List.drop_append_of_le_length (by omega), List.take_append_of_le_length (by rw [List.length_drop]; omega)]; rfl
      · intro z hz
        rw [L.cut_c] at hz
        exact h3 z (List.mem_of_mem_drop (List.mem_of_mem_take hz))
    | false =>
      rw [hb, cond_false] at h
      have hle : ¬ b + 1 < m := fun e => by rw [blt_iff.2 e] at hb; cases hb
      obtain ⟨e1, e2⟩ := getPart_ok (s := r) (b := b + 1 - m) h ho h4
      subst h1
      refine ⟨by rw [List.length_append]; omega, ?_⟩
      rw [List.drop_append, List.drop_of_length_le (by omega), List.nil_append, hxl, h2, show b + 1 + kz k - m = b + 1 - m + kz k by omega]
      exact e2
  | .one c :: r, b + 1, k, n, t, obl, h, ho, l, ⟨v, l', h1, h2, h3, h4⟩ => by
    unfold getPart at h
    obtain ⟨e1, e2⟩ := getPart_ok (s := r) (b := b) h ho h4
    subst h1
    refine ⟨by simp; omega, ?_⟩
    rw [show b + 1 + kz k = (b + kz k) + 1 by omega, List.drop_succ_cons]
    exact e2
theorem DL_len : ∀ {s : List Seg} {l : List Value}, DL cx β s l → l.length = segsLen s
  | [], l, h => by cases h; rfl
  | .one c :: r, l, ⟨v, l', h1, h2, h3, h4⟩ => by
    subst h1
    have := DL_len h4
    simp only [segsLen, List.length_cons]
    rw [this]; exact Nat.add_comm _ _
  | .many n x :: r, l, ⟨l', h1, h2, h3, h4⟩ => by
    subst h1
    have := DL_len h4
    rw [segsLen, List.length_append, L.len_c, h2, this]; rfl
  | .rsv x :: r, l, ⟨vs, l', h1, h2, h3⟩ => by
    subst h1
    have := DL_len h3
    rw [segsLen, List.length_append, h2.len, this]; rfl
theorem DL_one : ∀ {s : List Seg} {l : List Value}, DL cx β s l → ∀ v ∈ l, v.oneCell' = true
  | [], l, h => by cases h; intro v hv; cases hv
  | .one c :: r, l, ⟨v, l', h1, h2, h3, h4⟩ => by
    subst h1
    intro u hu
    rcases List.mem_cons.1 hu with rfl | hu
    · exact h3
    · exact DL_one h4 u hu
  | .many n x :: r, l, ⟨l', h1, h2, h3, h4⟩ => by
    subst h1
    intro u hu
    rcases List.mem_append.1 hu with hu | hu
    · exact h3 u hu
    · exact DL_one h4 u hu
  | .rsv x :: r, l, ⟨vs, l', h1, h2, h3⟩ => by
    subst h1
    intro u hu
    rcases List.mem_append.1 hu with hu | hu
    · exact h2.one u hu
    · exact DL_one h3 u hu
theorem DL_append : ∀ {s : List Seg} {l : List Value}, DL cx β s l → ∀ {s' : List Seg} {l' : List Value}, DL cx β s' l' → DL cx β (s ++ s') (l ++ l')
  | [], l, h, s', l', h' => by cases h; exact h'
  | .one c :: r, l, ⟨v, l1, h1, h2, h3, h4⟩, s', l', h' => by subst h1; exact ⟨v, l1 ++ l', rfl, h2, h3, DL_append h4 h'⟩
  | .many n x :: r, l, ⟨l1, h1, h2, h3, h4⟩, s', l', h' => by subst h1; exact ⟨l1 ++ l', by rw [List.append_assoc], h2, h3, DL_append h4 h'⟩
  | .rsv x :: r, l, ⟨vs, l1, h1, h2, h3⟩, s', l', h' => by subst h1; exact ⟨vs, l1 ++ l', by rw [List.append_assoc], h2, DL_append h3 h'⟩
theorem dropS_ok : ∀ {s : List Seg} {n : Nat} {t : List Seg}, dropS s n = some t → ∀ {l : List Value}, DL cx β s l → n ≤ l.length ∧ DL cx β t (l.drop n)
  | s, 0, t, h, l, d => by cases s <;> (cases h; exact ⟨by omega, by simpa using d⟩)
  | .one c :: r, n + 1, t, h, l, ⟨v, l', h1, h2, h3, h4⟩ => by
    unfold dropS at h
    obtain ⟨e1, e2⟩ := dropS_ok (s := r) h h4
    subst h1
    exact ⟨by simp; omega, by simpa using e2⟩
  | .many m x :: r, n + 1, t, h, l, ⟨l', h1, h2, h3, h4⟩ => by
    unfold dropS at h
    have hxl := L.len_c x
    cases hb : Nat.ble m (n + 1) with
    | true =>
      rw [hb, cond_true] at h
      have hle := Nat.le_of_ble_eq_true hb
      obtain ⟨e1, e2⟩ := dropS_ok (s := r) h h4
      subst h1
      refine ⟨by rw [List.length_append]; omega, ?_⟩
      rw [List.drop_append, List.drop_of_length_le (by omega), List.nil_append, hxl, h2]
      exact e2
    | false =>
      rw [hb, cond_false] at h
      cases h
      have hlt : ¬ m ≤ n + 1 := fun e => by rw [bleT e] at hb; cases hb
      subst h1
      refine ⟨by rw [List.length_append]; omega, l', ?_, L.cut_len _ _ _ (by omega), ?_, h4⟩
      · rw [List.drop_append_of_le_length (by omega), L.cut_c, List.take_of_length_le (by rw [List.length_drop]; omega)]
      · intro z hz
        rw [L.cut_c] at hz
        exact h3 z (List.mem_of_mem_drop (List.mem_of_mem_take hz))
end
end Go.Proofs.Ythlleheeghiljaa
