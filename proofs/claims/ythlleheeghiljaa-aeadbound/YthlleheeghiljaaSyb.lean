/-
  Operations by evaluation: new variables, parts of slices, lengths. For any program.
-/
import Derived.Test.YthlleheeghiljaaSya
namespace Go.Proofs.Ythlleheeghiljaa
open Go.RowKit

def upB (β : Be) (m : Nat) (x : Option (Nat × Nat)) : Be := fun j => if j = m then x else β j
theorem upB_self (β : Be) (m : Nat) (x : Option (Nat × Nat)) : upB β m x m = x := by simp [upB]
theorem upB_low {β : Be} {m : Nat} {x : Option (Nat × Nat)} {j : Nat} (h : j < m) : upB β m x j = β j := by simp [upB]; omega
section
variable {E : Ev} {o : Oper} {gs : Nat → Option AV} {gm : Nat → Option MB} {base : Nat} {tg : List Nat} {r : Rec}
/-- One object is new. -/
theorem okNew {av : AV} {mb : MB} {obl : List Prop} (h : ∀ cx β a w, Pre E cx β o gs gm base tg a w → ∃ v w' x, (execOp a.eval o).run E.P w = .ok (.value v) w' ∧ (∀ g n, x = some (g, n) → w.heap.size ≤ g) ∧ DA cx (upB β base x) av v ∧ ObjAt cx (upB β base x) w' base mb ∧ Upd (fun _ => False) w w') :
    OpOK E o gs gm base ⟨av, base, [mb], [], tg, obl⟩ := by
  have hp : ∀ m z, Rec.put ⟨av, base, [mb], [], tg, obl⟩ m = some z → m = base ∧ z = mb := fun m z hz => by
    rcases put_cases hz with h1 | ⟨_, h2, h1⟩
    · cases h1
    · simp [Rec.made] at h2
      have : m = base := by omega
      subst this
      simp at h1
      exact ⟨rfl, h1.symm⟩
  refine ⟨fun m x hm => (by cases hm), fun cx β a w Q hpre K hK => ?_⟩
  obtain ⟨v, w', x, h1, h2, h3, h4, h5⟩ := h cx β a w hpre
  unfold Oper.wp
  rw [h1, Oper.upon_value]
  refine hK v w' (upB β base x) (fun m _ hm => ?_) (fun _ _ hz => (by cases hz)) h3 (fun m z hz => ?_) (fun m z _ hz g n hg => ?_) (fun p q y z hpq hy hz => ?_) (h5.mono (fun _ _ hf => hf.elim))
  · unfold upB
    rw [if_neg ?_]
    intro e
    subst e
    have hb : Nat.ble m m = true := bleT (Nat.le_refl _)
    simp [Rec.put, lookL, getL, hb] at hm
  · obtain ⟨rfl, rfl⟩ := hp m z hz; exact h4
  · obtain ⟨rfl, rfl⟩ := hp m z hz
    rw [upB_self] at hg
    exact .inl (h2 g n hg)
  · obtain ⟨rfl, _⟩ := hp p y hy; obtain ⟨rfl, _⟩ := hp q z hz; exact (hpq rfl).elim
end
def segsT : T1 → List Seg
  | .c c => [.one c]
  | .g s => s
def oneT : T1 → List Prop
  | .c c => oneC c
  | .g _ => []
def evBox (T : TypeId) (base : Nat) : List (Option AV) → Option Rec
  | [some (.o x)] => some ⟨.o (.c (.ptr base 0 none)), 0, [.fix T (segsT x)], [], [], oneT x⟩
  | _ => none
/-- How a type's cells lie: alone, or so many numbers of one kind. -/
inductive Sh where
  | one
  | ints (k : IntKind) (n : Nat)
def shp (P : Program) : Nat → TypeId → List Sh
  | 0, _ => []
  | d + 1, T => match P.underlying T with
    | some (.array n e) => match P.underlying e with
      | some (.int k) => [.ints k n]
      | _ => (List.replicate n (shp P d e)).flatten
    | some (.struct fs) => (fs.toList.map fun f => shp P d f.type).flatten
    | _ => [.one]
def zerosB (k : IntKind) : List Value → Bool
  | [] => true
  | .int k' n :: r => kindB k k' && (n == 0) && zerosB k r
  | _ :: _ => false
def zcut : List Sh → List Value → Option (List Seg)
  | [], [] => some []
  | .one :: r, v :: l => cond v.oneCell' (match zcut r l with | some s => some (.one (.v v) :: s) | none => none) none
  | .ints k n :: r, l => cond (zerosB k (l.take n) && Nat.beq (l.take n).length n) (match zcut r (l.drop n) with | some s => some (.many n (.i k (List.replicate n 0)) :: s) | none => none) none
  | _, _ => none
def zsegs (P : Program) (T : TypeId) : Option (List Seg) := match P.info? T with
  | some i => match i.zero with
    | some z => zcut (shp P 8 T) z.cells.toList
    | none => none
  | none => none
def evAlloc (P : Program) (T : TypeId) (base : Nat) : Option Rec := match zsegs P T with
  | some s => some ⟨.o (.c (.ptr base 0 none)), 0, [.fix T s], [], [], []⟩
  | none => none
section
variable {cx : Cx} {β : Be}
theorem zerosB_eq {k : IntKind} : ∀ {l : List Value}, zerosB k l = true → l = (List.replicate l.length (0 : Int)).map (Value.int k)
  | [], _ => rfl
  | .int k' n :: r, h => by
    rw [zerosB, Bool.and_eq_true, Bool.and_eq_true] at h
    obtain ⟨⟨h1, h2⟩, h3⟩ := h
    have ih := zerosB_eq h3
    rw [List.length_cons, List.replicate_succ, List.map_cons, ← ih, kindB_eq h1, show n = 0 by simpa using h2]
theorem zcut_ok : ∀ {sh : List Sh} {l : List Value} {s : List Seg}, zcut sh l = some s → DL cx β s l
  | [], [], s, h => by cases h; rfl
  | .one :: r, v :: l, s, h => by
    unfold zcut at h
    cases hv : v.oneCell' with
    | false => rw [hv] at h; cases h
    | true =>
      rw [hv, cond_true] at h
      split at h
      · rename_i t ht
        cases h
        exact ⟨v, l, rfl, rfl, hv, zcut_ok ht⟩
      · cases h
  | .ints k n :: r, l, s, h => by
    unfold zcut at h
    cases hb : (zerosB k (l.take n) && Nat.beq (l.take n).length n) with
    | false => rw [hb] at h; cases h
    | true =>
      rw [hb, cond_true] at h
      rw [Bool.and_eq_true] at hb
      have h1 := zerosB_eq hb.1
      rw [Nat.eq_of_beq_eq_true hb.2] at h1
      split at h
      · rename_i t ht
        cases h
        refine ⟨l.drop n, ?_, by simp [L.len], fun x hx => ?_, zcut_ok ht⟩
        · show l = (List.replicate n (0 : Int)).map (Value.int k) ++ l.drop n
          rw [← h1, List.take_append_drop]
        · simp only [L.c, List.mem_map] at hx
          obtain ⟨y, _, rfl⟩ := hx
          rfl
      · cases h
  | [], _ :: _, s, h => by cases h
  | .one :: _, [], s, h => by cases h
theorem segsT_ok {x : T1} (h : allP (oneT x)) {v : Value} (d : D1 cx β x v) : DL cx β (segsT x) v.cells.toList := by
  cases x with
  | c c =>
    have h1 := oneC_ok h d
    rw [cells_one h1]
    exact ⟨v, [], rfl, d, h1, rfl⟩
  | g s => obtain ⟨arr, rfl, h2⟩ := d; exact h2
theorem idx_segsT {x : T1} : idxL (segsT x) = x.idx := by cases x <;> simp [segsT, idxL, T1.idx]
end
section
variable {P : Program} {ev : Operand → Value} {o : Oper} {x : Operand} {w : World}
theorem run_boxV {T : TypeId} (ho : o.op = .box T x) : (execOp ev o).run P w = .ok (.value (.pointer (some ⟨w.heap.size, 0, none⟩))) (w.alloc (.cells (ev x).cells T)) := by
  unfold execOp
  simp only [ho]
  simp [go_sem, Instr.box, newVar, newRow, Value.cells]
theorem run_allocV {T : TypeId} {i : TypeInfo} {z : Value} (ho : o.op = .alloc T) (hi : P.info? T = some i) (hz : i.zero = some z) : (execOp ev o).run P w = .ok (.value (.pointer (some ⟨w.heap.size, 0, none⟩))) (w.alloc (.cells z.cells T)) := by
  have hzv : ∀ w, (zeroValue T).run P w = .ok z w := fun w => by simp [zeroValue, typeInfo, hi, hz]
  unfold execOp
  simp only [ho]
  simp [hzv, go_sem, Value.cells]
end
section
variable {E : Ev} {o : Oper} {gs : Nat → Option AV} {gm : Nat → Option MB} {base : Nat} {tg : List Nat} {r : Rec}
theorem ok_box {T : TypeId} {x : Operand} (ho : o.op = .box T x) (h : evBox T base [opnd E gs x] = some r) (hobl : allP r.obl) : OpOK E o gs gm base { r with base := base, tg := tg } := by
  have hx : x ∈ o.op.operands := by simp [ho, Op.operands]
  unfold evBox at h
  split at h
  · rename_i y he
    simp only [List.cons.injEq, and_true] at he
    cases h
    refine okNew fun cx β a w hp => ?_
    obtain ⟨d, hlt⟩ := hp.ops x hx _ he
    refine ⟨_, _, some (w.heap.size, (a.eval x).cells.size), run_boxV ho, fun g n e => by cases e; exact Nat.le_refl _, ⟨_, _, upB_self _ _ _, rfl⟩, ⟨_, _, _, upB_self _ _ _, .inl hp.upd.size, Bk.new w _ T, rfl, ?_⟩, (Upd.refl _ w).alloc _⟩
    exact (segsT_ok hobl d).congr (fun i hi => upB_low (hlt i (by rw [idx_segsT] at hi; exact hi)))
  · cases h
theorem ok_alloc {T : TypeId} (ho : o.op = .alloc T) (h : evAlloc E.P T base = some r) : OpOK E o gs gm base { r with base := base, tg := tg } := by
  unfold evAlloc at h
  split at h
  · rename_i s hs
    cases h
    unfold zsegs at hs
    split at hs
    · rename_i i hi
      split at hs
      · rename_i z hz
        refine okNew fun cx β a w hp => ?_
        exact ⟨_, _, some (w.heap.size, z.cells.size), run_allocV ho hi hz, fun g n e => by cases e; exact Nat.le_refl _, ⟨_, _, upB_self _ _ _, rfl⟩, ⟨_, _, _, upB_self _ _ _, .inl hp.upd.size, Bk.new w _ T, rfl, zcut_ok hs⟩, (Upd.refl _ w).alloc _⟩
      · cases hs
    · cases hs
  · cases h
end
/-- Bounds of a part. -/
def bndE : Option Operand → List (Option AV) → Option (Option (IntKind × Int) × List (Option AV))
  | none, r => some (none, r)
  | some _, some (.o (.c (.v (.int k j)))) :: r => some (some (k, j), r)
  | some _, _ => none
def loN : Option (IntKind × Int) → Nat
  | none => 0
  | some (_, j) => j.toNat
def hiN (n : Nat) : Option (IntKind × Int) → Nat
  | none => n
  | some (_, j) => j.toNat
def lenN (n : Nat) (lo hi : Option (IntKind × Int)) : Nat := match lo with
  | none => hiN n hi
  | some (_, j) => hiN n hi - j.toNat
def bndO (n : Nat) (lo hi mx : Option (IntKind × Int)) : List Prop :=
  (match hi with | none => [] | some (_, h) => [0 ≤ h, h.toNat ≤ n]) ++ (match lo with | none => [] | some (_, l) => [0 ≤ l, l.toNat ≤ hiN n hi]) ++ (match mx with | none => [] | some (_, m) => [0 ≤ m, hiN n hi ≤ m.toNat, m.toNat ≤ n, hi ≠ none])
def mulN (es n : Nat) : Nat := match es with
  | 1 => n
  | e => e * n
theorem mulN_eq (es n : Nat) : mulN es n = es * n := by
  unfold mulN
  split
  · rw [Nat.one_mul]
  · rfl
def idxN (es n : Nat) : Nat := match es with
  | 1 => n
  | e => n * e
theorem idxN_eq (es n : Nat) : idxN es n = n * es := by
  unfold idxN
  split
  · rw [Nat.mul_one]
  · rfl
def cutC (es n : Nat) (lo hi : Option (IntKind × Int)) : C → Option C
  | .os i es' _ => cond (Nat.beq es es') (some (.sub i 0 (idxN es (loN lo)) (lenN n lo hi))) none
  | .sub i b k _ => some (.sub i b (k + idxN es (loN lo)) (lenN n lo hi))
  | .rs es' _ l => cond (Nat.beq es es') (match lo, hi with
      | none, none => some (.rs es n l)
      | lo, hi => some (.rs es (lenN n lo hi) (l.cut (idxN es (loN lo)) (mulN es (lenN n lo hi))))) none
  | _ => none
def lenC : C → Option Nat
  | .os _ _ n => some n
  | .sub _ _ _ n => some n
  | .rs _ n _ => some n
  | .rss ls => some ls.length
  | _ => none
def evSlice (P : Program) (T : TypeId) (lo hi mo : Option Operand) : List (Option AV) → Option Rec
  | some (.o (.c c)) :: r => match bndE lo r with
    | some (l, r1) => match bndE hi r1 with
      | some (h, r2) => match bndE mo r2 with
        | some (m, []) => match P.underlying T, c with
          | some (.array n e), .ptr i b k => match sizeT P e with
            | some es => val (.o (.c (.sub i b (kz k + idxN es (loN l)) (lenN n l h)))) (bndO n l h m ++ [n ≤ mx])
            | none => none
          | some (.slice e), c => match sizeT P e, lenC c with
            | some es, some n => match cutC es n l h c with
              | some d => val (.o (.c d)) (bndO n l h m)
              | none => none
            | _, _ => none
          | some .string, .v (.string s) => match m with
            | none => val (vv (.string (s.extract (loN l) (hiN s.size h)))) (bndO s.size l h none)
            | some _ => none
          | _, _ => none
        | _ => none
      | none => none
    | none => none
  | _ => none
def evLen (P : Program) (T : TypeId) : List (Option AV) → Option Rec
  | [some (.o (.c c))] => match P.underlying T, c with
    | some .string, .v (.string s) => val (vv (.int .i64 s.size)) []
    | some (.slice _), .v (.slice _ n _) => val (vv (.int .i64 n)) []
    | some (.slice _), c => match lenC c with
      | some n => val (vv (.int .i64 n)) []
      | none => none
    | _, _ => none
  | _ => none
section
variable {P : Program} {w : World}
theorem run_bounds {isS : Bool} {len cap : Nat} {lo hi mx : Option Value} {l h m : Nat} (hm : (mx = none ∧ m = cap) ∨ ∃ k, mx = some (.int k (m : Int)) ∧ m ≤ cap) (hh : (hi = none ∧ mx = none ∧ h = len) ∨ ∃ k, hi = some (.int k (h : Int)) ∧ h ≤ m) (hl : (lo = none ∧ l = 0) ∨ ∃ k, lo = some (.int k (l : Int)) ∧ l ≤ h) :
    (Instr.sliceBounds isS len cap lo hi mx).run P w = .ok (l, h, m) w := by
  unfold Instr.sliceBounds
  rcases hm with ⟨rfl, rfl⟩ | ⟨km, rfl, hm⟩ <;> rcases hh with ⟨rfl, h1, rfl⟩ | ⟨kh, rfl, hh⟩ <;> rcases hl with ⟨rfl, rfl⟩ | ⟨kl, rfl, hl⟩ <;> first
    | (cases h1; done)
    | simp [Instr.sliceBound, asIntOf, *]
theorem bnd_nat {n : Nat} {lo hi mx : Option (IntKind × Int)} (h : allP (bndO n lo hi mx)) : hiN n hi ≤ n ∧ loN lo ≤ hiN n hi ∧ (∀ k j, lo = some (k, j) → j = (loN lo : Int)) ∧ (∀ k j, hi = some (k, j) → j = (hiN n hi : Int)) ∧ (∀ k j, mx = some (k, j) → j = (j.toNat : Int) ∧ hiN n hi ≤ j.toNat ∧ j.toNat ≤ n ∧ hi ≠ none) ∧ lenN n lo hi = hiN n hi - loN lo := by
  unfold bndO at h
  rw [allP_append, allP_append] at h
  obtain ⟨⟨h1, h2⟩, h3⟩ := h
  refine ⟨?_, ?_, ?_, ?_, ?_, ?_⟩
  · cases hi with
    | none => exact Nat.le_refl _
    | some p => exact h1.2
  · cases lo with
    | none => exact Nat.zero_le _
    | some p => exact h2.2
  · rintro k j rfl
    have : 0 ≤ j := h2.1
    simp only [loN]; omega
  · rintro k j rfl
    have : 0 ≤ j := h1.1
    simp only [hiN]; omega
  · rintro k j rfl
    obtain ⟨g1, g2, g3, g4⟩ := h3
    have : 0 ≤ j := g1
    exact ⟨by omega, g2, g3, g4⟩
  · cases lo with
    | none => simp [lenN, loN]
    | some p => rfl
end
section
variable {E : Ev} {o : Oper} {gs : Nat → Option AV} {gm : Nat → Option MB} {base : Nat} {tg : List Nat} {r : Rec}
theorem bndE_some {lo : Option Operand} {av : List (Option AV)} {l : Option (IntKind × Int)} {r1 : List (Option AV)} {rest : List Operand} (hav : av = (lo.toList ++ rest).map (opnd E gs)) (h : bndE lo av = some (l, r1)) :
    r1 = rest.map (opnd E gs) ∧ ((lo = none ∧ l = none) ∨ ∃ x k j, lo = some x ∧ l = some (k, j) ∧ opnd E gs x = some (.o (.c (.v (.int k j))))) := by
  cases lo with
  | none => cases h; exact ⟨by simpa using hav, .inl ⟨rfl, rfl⟩⟩
  | some x =>
    have hav' : av = opnd E gs x :: rest.map (opnd E gs) := by simpa using hav
    subst hav'
    simp only [bndE] at h
    split at h
    · rename_i heq
      cases heq
    · rename_i k j r' heq1 heq2
      simp only [List.cons.injEq] at heq2
      cases h
      exact ⟨heq2.2.symm, .inr ⟨x, k, j, rfl, rfl, heq2.1⟩⟩
    · cases h
theorem ok_slice {T : TypeId} {x : Operand} {lo hi mo : Option Operand} (ho : o.op = .slice T x lo hi mo) (h : evSlice E.P T lo hi mo (o.op.operands.toList.map (opnd E gs)) = some r) (hobl : allP r.obl) : OpOK E o gs gm base { r with base := base, tg := tg } := by
  have hops : o.op.operands.toList = x :: (lo.toList ++ (hi.toList ++ (mo.toList ++ []))) := by
    rw [ho]
    simp only [Op.operands]
    cases lo <;> cases hi <;> cases mo <;> rfl
  have mem : ∀ y, y ∈ o.op.operands.toList → y ∈ o.op.operands := fun y hy => by simpa using hy
  have hx : x ∈ o.op.operands := mem x (by rw [hops]; simp)
  rw [hops] at h
  simp only [List.map_cons] at h
  unfold evSlice at h
  split at h
  · rename_i c r0 he
    simp only [List.cons.injEq] at he
    obtain ⟨hc, rfl⟩ := he
    split at h
    · rename_i l r1 hl
      obtain ⟨rfl, cl⟩ := bndE_some rfl hl
      split at h
      · rename_i q r2 hq
        obtain ⟨rfl, cq⟩ := bndE_some rfl hq
        split at h
        · rename_i m hm
          obtain ⟨-, cm⟩ := bndE_some (rest := []) rfl hm
          have evs : ∀ {cx β} {a : Act} {w} (_ : Pre E cx β o gs gm base tg a w), lo.map a.eval = l.map (fun p => Value.int p.1 p.2) ∧ hi.map a.eval = q.map (fun p => Value.int p.1 p.2) ∧ mo.map a.eval = m.map (fun p => Value.int p.1 p.2) := by
            intro cx β a w hp
            refine ⟨?_, ?_, ?_⟩
            · rcases cl with ⟨rfl, rfl⟩ | ⟨y, k, j, rfl, rfl, hy⟩
              · rfl
              · simp [hp.v (mem y (by rw [hops]; simp)) hy]
            · rcases cq with ⟨rfl, rfl⟩ | ⟨y, k, j, rfl, rfl, hy⟩
              · rfl
              · simp [hp.v (mem y (by rw [hops]; simp)) hy]
            · rcases cm with ⟨rfl, rfl⟩ | ⟨y, k, j, rfl, rfl, hy⟩
              · rfl
              · simp [hp.v (mem y (by rw [hops]; simp)) hy]
          have bnds : ∀ {n cap : Nat} {isS : Bool} {w : World}, allP (bndO n l q m) → n ≤ cap → ∃ M, (Instr.sliceBounds isS n cap (l.map (fun p => Value.int p.1 p.2)) (q.map (fun p => Value.int p.1 p.2)) (m.map (fun p => Value.int p.1 p.2))).run E.P w = .ok (loN l, hiN n q, M) w ∧ hiN n q ≤ M ∧ M ≤ cap := by
            intro n cap isS w hb hcap
            obtain ⟨b1, b2, b3, b4, b5, _⟩ := bnd_nat hb
            refine ⟨hiN cap m, run_bounds ?_ ?_ ?_, ?_, ?_⟩
            · cases m with
              | none => exact .inl ⟨rfl, rfl⟩
              | some p => exact .inr ⟨p.1, by simp only [Option.map_some, hiN]; rw [← (b5 p.1 p.2 rfl).1], by have := (b5 p.1 p.2 rfl).2.2.1; simp only [hiN]; omega⟩
            · cases q with
              | none =>
                cases m with
                | none => exact .inl ⟨rfl, rfl, rfl⟩
                | some p => exact absurd rfl (b5 p.1 p.2 rfl).2.2.2
              | some p =>
                refine .inr ⟨p.1, by simp only [Option.map_some]; rw [← b4 p.1 p.2 rfl], ?_⟩
                cases m with
                | none => simp only [hiN] at b1 ⊢; omega
                | some p' => exact (b5 p'.1 p'.2 rfl).2.1
            · cases l with
              | none => exact .inl ⟨rfl, rfl⟩
              | some p => exact .inr ⟨p.1, by simp only [Option.map_some]; rw [← b3 p.1 p.2 rfl], b2⟩
            · cases m with
              | none => simp only [hiN]; exact Nat.le_trans b1 hcap
              | some p => exact (b5 p.1 p.2 rfl).2.1
            · cases m with
              | none => exact Nat.le_refl _
              | some p => have := (b5 p.1 p.2 rfl).2.2.1; simp only [hiN]; omega
          have runS : ∀ {cx β} {a : Act} {w} (_ : Pre E cx β o gs gm base tg a w) {e : TypeId} {es n cap : Nat} {sp : Option Addr}, E.P.underlying T = some (.slice e) → sizeT E.P e = some es → a.eval x = .slice sp n cap → n ≤ cap → cap ≤ mx → allP (bndO n l q m) →
              ∃ M, (execOp a.eval o).run E.P w = .ok (.value (.slice (if M = loN l then sp else sp.map (·.add (loN l * es))) (hiN n q - loN l) (M - loN l))) w ∧ hiN n q ≤ M ∧ M ≤ cap := by
            intro cx β a w hp e es n cap sp hT hs hev hcap _ hb
            obtain ⟨M, hB, h1, h2⟩ := bnds (isS := true) (w := w) hb hcap
            obtain ⟨g1, g2, g3⟩ := evs hp
            refine ⟨M, ?_, h1, h2⟩
            unfold execOp
            simp only [ho, hev, g1, g2, g3, Instr.sliceAt, Sem.run_bind, run_underlying hT, Result.andThen_ok, Instr.slice, hB, run_size hs, Sem.run_pure]
          split at h
          · rename_i n e i b k hT
            split at h
            · rename_i es hs
              obtain rfl := val_eq h
              rw [allP_append] at hobl
              obtain ⟨hb, hnm⟩ := hobl
              have hnm' : n ≤ mx := hnm
              obtain ⟨b1, b2, b3, b4, b5, b6⟩ := bnd_nat hb
              refine okVal fun cx β a w hp => ?_
              obtain ⟨g, s, e1, e2⟩ := (hp.ops x hx _ hc).1
              obtain ⟨M, hB, m1, m2⟩ := bnds (isS := false) (w := w) hb (Nat.le_refl n)
              obtain ⟨g1, g2, g3⟩ := evs hp
              have e2' : a.eval x = .pointer (some ⟨g, b + kz k, none⟩) := e2
              refine ⟨.slice (some (if M = loN l then ⟨g, b + kz k, none⟩ else ⟨g, b + kz k + loN l * es, none⟩)) (hiN n q - loN l) (M - loN l), ?_, ⟨_, _, by rw [b6], by omega, by omega, fun hpos => ⟨g, s, e1, ?_⟩⟩⟩
              · unfold execOp
                simp only [ho, e2', g1, g2, g3, Instr.sliceAt, Sem.run_bind, run_underlying hT, Result.andThen_ok, Instr.sureAddr, Sem.run_pure, hB, run_size hs, Addr.add_lit]
              · rw [if_neg (by omega), idxN_eq, Nat.add_assoc]
            · cases h
          · rename_i c x0 c0 e hT
            split at h
            · rename_i es n hs hn
              split at h
              · rename_i d hd
                obtain rfl := val_eq h
                obtain ⟨b1, b2, b3, b4, b5, b6⟩ := bnd_nat hobl
                refine okVal fun cx β a w hp => ?_
                have dd := (hp.ops x hx _ hc).1
                cases c with
                | os i es' n' =>
                  cases hn
                  simp only [cutC] at hd
                  cases hbe : Nat.beq es es' with
                  | false => rw [hbe] at hd; cases hd
                  | true =>
                    rw [hbe] at hd; cases hd
                    rcases dd with ⟨_, d2, d3⟩ | ⟨g, s, cap, d1, d2, d3, d4, d5⟩
                    · subst d2
                      obtain ⟨M, hr, m1, m2⟩ := runS hp hT hs d3 (Nat.le_refl _) (Nat.zero_le _) hobl
                      exact ⟨_, hr, _, _, by rw [b6], by omega, by unfold mx; omega, fun hpos => by omega⟩
                    · obtain ⟨M, hr, m1, m2⟩ := runS hp hT hs d2 d3 d4 hobl
                      refine ⟨_, hr, _, _, by rw [b6], by omega, by omega, fun hpos => ⟨g, s, d1, ?_⟩⟩
                      rw [if_neg (by omega), Option.map_some, Addr.add_lit, idxN_eq]
                | sub i bb k n' =>
                  cases hn
                  cases hd
                  obtain ⟨sp, cap, d1, d2, d3, d4⟩ := dd
                  obtain ⟨M, hr, m1, m2⟩ := runS hp hT hs d1 d2 d3 hobl
                  refine ⟨_, hr, _, _, by rw [b6], by omega, by omega, fun hpos => ?_⟩
                  obtain ⟨g, s, d5, rfl⟩ := d4 (by omega)
                  exact ⟨g, s, d5, by rw [if_neg (by omega), Option.map_some, Addr.add_lit, idxN_eq, Nat.add_assoc]⟩
                | rs es' n' l0 =>
                  cases hn
                  simp only [cutC] at hd
                  cases hbe : Nat.beq es es' with
                  | false => rw [hbe] at hd; cases hd
                  | true =>
                    rw [hbe, cond_true] at hd
                    obtain rfl := Nat.eq_of_beq_eq_true hbe
                    obtain ⟨sp, cap, d1, d2, d3, d4, d5⟩ := dd
                    obtain ⟨M, hr, m1, m2⟩ := runS hp hT hs d1 d2 d3 hobl
                    have gen : DC cx β (.rs es (lenN n l q) (l0.cut (idxN es (loN l)) (mulN es (lenN n l q)))) (.slice (if M = loN l then sp else sp.map (·.add (loN l * es))) (hiN n q - loN l) (M - loN l)) := by
                      have hle : loN l * es + es * lenN n l q ≤ l0.len := by
                        rw [d4, b6, Nat.mul_comm (loN l) es, ← Nat.mul_add]
                        exact Nat.mul_le_mul_left es (by omega)
                      refine ⟨_, _, by rw [b6], by omega, by omega, by rw [mulN_eq, idxN_eq, L.cut_len _ _ _ hle], fun hpos => ?_⟩
                      obtain ⟨b0, q0, rfl, hL⟩ := d5 (by omega)
                      refine ⟨b0, q0 + loN l * es, by rw [if_neg (by omega), Option.map_some, Addr.add_lit], hL.1, hL.2.1, fun z hz => ?_, fun j hj => ?_⟩
                      · rw [L.cut_c] at hz
                        exact hL.2.2.1 z (List.mem_of_mem_drop (List.mem_of_mem_take hz))
                      · rw [mulN_eq, idxN_eq, L.cut_len _ _ _ hle] at hj
                        rw [L.cut_c, List.getElem?_take, if_pos (by rw [mulN_eq]; exact hj), List.getElem?_drop, idxN_eq, Nat.add_assoc]
                        exact hL.2.2.2 _ (by omega)
                    split at hd
                    · cases hd
                      refine ⟨_, hr, ?_⟩
                      have m1' : n ≤ M := m1
                      refine ⟨_, _, rfl, by simp only [loN]; omega, by simp only [loN]; omega, d4, fun hpos => ?_⟩
                      obtain ⟨b0, q0, rfl, hL⟩ := d5 (by simpa [hiN, loN] using hpos)
                      exact ⟨b0, q0, by simp [loN, Addr.add], hL⟩
                    · cases hd
                      exact ⟨_, hr, gen⟩
                | rss ls => cases hd
                | _ => cases hn
              · cases h
            · cases h
          · rename_i s hT
            split at h
            · obtain rfl := val_eq h
              have hb : allP (bndO s.size l q none) := hobl
              obtain ⟨b1, b2, b3, b4, b5, b6⟩ := bnd_nat hb
              have hmx : mo = none := by
                rcases cm with ⟨rfl, _⟩ | ⟨y, k, j, _, hcon, _⟩
                · rfl
                · cases hcon
              refine okVal fun cx β a w hp => ?_
              obtain ⟨M, hB, m1, m2⟩ := bnds (isS := false) (w := w) hb (Nat.le_refl s.size)
              obtain ⟨g1, g2, g3⟩ := evs hp
              have ex := hp.v hx hc
              refine ⟨_, ?_, rfl⟩
              unfold execOp
              simp only [Option.map_none] at hB
              simp only [ho, ex, g1, g2, hmx, Option.map_none, Instr.sliceAt, Sem.run_bind, run_underlying hT, Result.andThen_ok, Instr.slice, Option.isSome_none, Bool.false_eq_true, if_false, hB, Sem.run_pure]
            · cases h
          · cases h
        · cases h
      · cases h
    · cases h
  · cases h
end
end Go.Proofs.Ythlleheeghiljaa
