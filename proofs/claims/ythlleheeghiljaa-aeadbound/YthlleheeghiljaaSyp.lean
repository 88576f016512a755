/-
  Operations by evaluation: a slice as an array, the room of nil, noughts appended to nil, a slice that is cut off at its front's end. For any program.
-/
import Derived.Test.YthlleheeghiljaaSym
import Derived.Lib.AppendZeros
namespace Go.Proofs.Ythlleheeghiljaa
open Go.RowKit

/-- A slice's first cells as an array. -/
def evS2A (P : Program) (T : TypeId) : List (Option AV) → Option Rec
  | [some (.o (.c c))] => match P.underlying T with
    | some (.array n e) => match sizeT P e with
      | some es => cond (Nat.blt 0 n) (match c with
        | .sub i b k m => val (.o (.c (.ptr i b (some k)))) [n ≤ m]
        | .os i es' m => cond (Nat.beq es es') (val (.o (.c (.ptr i 0 (some 0)))) [n ≤ m]) none
        | .rs es' m l => cond (Nat.beq es es') (val (.o (.c (.rp l 0))) [n ≤ m]) none
        | _ => none) none
      | none => none
    | _ => none
  | _ => none
def evCap (P : Program) (T : TypeId) : List (Option AV) → Option Rec
  | [some (.o (.c (.v (.slice none 0 0))))] => match P.underlying T with
    | some (.slice _) => val (vv (.int .i64 ((0 : Nat) : Int))) []
    | _ => none
  | _ => none
/-- nil[:0]. -/
def evSlice0 (P : Program) (T : TypeId) (lo hi mo : Option Operand) : List (Option AV) → Option Rec
  | [some (.o (.c (.v (.slice none 0 0)))), some (.o (.c (.v (.int k h))))] => match lo, hi, mo with
    | none, some _, none => match P.underlying T with
      | some (.slice e) => match sizeT P e with
        | some _ => val (vv (.slice none 0 0)) [Value.int k h = .int k 0]
        | none => none
      | _ => none
    | _, _, _ => none
  | _ => none
/-- Noughts appended to nil. -/
def evAppZ (P : Program) (t tn : TypeId) (base : Nat) : List (Option AV) → Option Rec
  | [some (.o (.c (.v (.slice none 0 0)))), some (.o (.c (.v (.int _ n))))] => match P.underlying tn with
    | some (.int _) => match elemT P t with
      | some (e, inf, z) => cond (Nat.beq inf.size 1) (some ⟨.o (.c (.os base 1 n.toNat)), 0, [.grow e 1 (.v (List.replicate n.toNat z))], [], [], [0 < n, n * (inf.bytes : Int) ≤ 281474976710656, n ≤ 9223372036854775807, z.cells = #[z], z.oneCell' = true]⟩) none
      | none => none
    | _ => none
  | _ => none
/-- s[:h], where s is no more. -/
def evSliceZ (P : Program) (T : TypeId) (lo hi mo : Option Operand) (base : Nat) : List (Option AV) → List (Option MB) → Option Rec
  | [some (.o (.c (.os i es n))), some (.o (.c (.v (.int _ h))))], [some (.grow ty es' l)] => match lo, hi, mo with
    | none, some _, none => match P.underlying T with
      | some (.slice e) => match sizeT P e with
        | some es2 => cond (Nat.beq es2 es && Nat.beq es' es) (some ⟨.o (.c (.os base es h.toNat)), 0, [.grow ty es (l.cut 0 (mulN es h.toNat))], [(i, .dead)], [], [0 ≤ h, h ≤ (n : Int), l.len = mulN es n]⟩) none
        | none => none
      | _ => none
    | _, _, _ => none
  | _, _ => none
section
variable {E : Ev} {o : Oper} {gs : Nat → Option AV} {gm : Nat → Option MB} {base : Nat} {tg : List Nat} {r : Rec}
theorem run_s2a {P : Program} {ev : Operand → Value} {T e : TypeId} {n m cap : Nat} {sp : Option Addr} {x : Operand} {w : World} (ho : o.op = .sliceToArrayPointer T x) (hT : P.underlying T = some (.array n e)) (hx : ev x = .slice sp m cap) (hm : n ≤ m) : (execOp ev o).run P w = .ok (.value (.pointer sp)) w := by
  unfold execOp
  simp [ho, hx, go_sem, Instr.arrayAt, run_underlying hT, Nat.not_lt.2 hm]
theorem ok_s2a {T : TypeId} {x : Operand} (ho : o.op = .sliceToArrayPointer T x) (h : evS2A E.P T [opnd E gs x] = some r) (hobl : allP r.obl) : OpOK E o gs gm base { r with base := base, tg := tg } := by
  have hx : x ∈ o.op.operands := by simp [ho, Op.operands]
  unfold evS2A at h
  split at h
  · rename_i c he
    simp only [List.cons.injEq, and_true] at he
    split at h
    · rename_i n e hT
      split at h
      · rename_i es hs
        cases hb : Nat.blt 0 n with
        | false => rw [hb] at h; cases h
        | true =>
          rw [hb, cond_true] at h
          have hpos := blt_iff.1 hb
          split at h
          · rename_i i b k m
            obtain rfl := val_eq h
            have hn : n ≤ m := hobl
            refine okVal fun cx β a w hp => ?_
            obtain ⟨sp, cap, e1, e2, e3, e4⟩ := (hp.ops x hx _ he).1
            obtain ⟨g, s, e5, e6⟩ := e4 (by omega)
            exact ⟨_, run_s2a ho hT e1 hn, ⟨g, s, e5, by rw [e6]; rfl⟩⟩
          · rename_i i es' m
            cases hb2 : Nat.beq es es' with
            | false => rw [hb2] at h; cases h
            | true =>
              rw [hb2, cond_true] at h
              obtain rfl := val_eq h
              have hn : n ≤ m := hobl
              refine okVal fun cx β a w hp => ?_
              rcases (hp.ops x hx _ he).1 with ⟨_, e2, _⟩ | ⟨g, s, cap, e1, e2, _⟩
              · omega
              · exact ⟨_, run_s2a ho hT e2 hn, ⟨g, s, e1, rfl⟩⟩
          · rename_i es' m l
            cases hb2 : Nat.beq es es' with
            | false => rw [hb2] at h; cases h
            | true =>
              rw [hb2, cond_true] at h
              obtain rfl := val_eq h
              have hn : n ≤ m := hobl
              refine okVal fun cx β a w hp => ?_
              obtain ⟨sp, cap, e1, e2, e3, e4, e5⟩ := (hp.ops x hx _ he).1
              obtain ⟨b, q, e6, hL⟩ := e5 (by omega)
              exact ⟨_, run_s2a ho hT e1 hn, ⟨b, q, by rw [e6]; rfl, hL⟩⟩
          · cases h
      · cases h
    · cases h
  · cases h
theorem ok_cap {T : TypeId} {x : Operand} (ho : o.op = .call { callee := .builtin .cap, args := #[x], argTypes := #[T] }) (h : evCap E.P T [opnd E gs x] = some r) : OpOK E o gs gm base { r with base := base, tg := tg } := by
  have hx : x ∈ o.op.operands := by simp [ho, Op.operands, Call.operands]
  unfold evCap at h
  split at h
  · rename_i he
    simp only [List.cons.injEq, and_true] at he
    split at h
    · rename_i e hT
      obtain rfl := val_eq h
      refine okVal fun cx β a w hp => ⟨_, ?_, rfl⟩
      unfold execOp
      simp [ho, hp.v hx he, resolve, invoke, builtin, Builtin.cap_, run_underlying hT, goInt]
    · cases h
  · cases h
theorem ok_slice0 {T : TypeId} {x : Operand} {lo hi mo : Option Operand} (ho : o.op = .slice T x lo hi mo) (h : evSlice0 E.P T lo hi mo (o.op.operands.toList.map (opnd E gs)) = some r) (hobl : allP r.obl) : OpOK E o gs gm base { r with base := base, tg := tg } := by
  unfold evSlice0 at h
  split at h
  · rename_i k h' he
    split at h
    · rename_i y
      rw [ho] at he
      have he' : [opnd E gs x, opnd E gs y] = [some (.o (.c (.v (.slice none 0 0)))), some (.o (.c (.v (.int k h'))))] := by simpa [Op.operands] using he
      simp only [List.cons.injEq, and_true] at he'
      obtain ⟨h1, h2⟩ := he'
      have hx : x ∈ o.op.operands := by simp [ho, Op.operands]
      have hy : y ∈ o.op.operands := by simp [ho, Op.operands]
      split at h
      · rename_i e hT
        split at h
        · rename_i es hs
          obtain rfl := val_eq h
          have hh : Value.int k h' = .int k 0 := hobl
          refine okVal fun cx β a w hp => ⟨_, ?_, rfl⟩
          have e1 := hp.v hx h1
          have e2 := hp.v hy h2
          rw [hh] at e2
          have hB := run_bounds (P := E.P) (w := w) (isS := true) (len := 0) (cap := 0) (lo := none) (hi := some (.int k 0)) (mx := none) (l := 0) (h := 0) (m := 0) (.inl ⟨rfl, rfl⟩) (.inr ⟨k, rfl, Nat.le_refl _⟩) (.inl ⟨rfl, rfl⟩)
          unfold execOp
          simp only [ho, e1, e2, Option.map_none, Option.map_some, Instr.sliceAt, Sem.run_bind, run_underlying hT, Result.andThen_ok, Instr.slice, hB, run_size hs, Sem.run_pure, if_true]
        · cases h
      · cases h
    · cases h
  · cases h
theorem ok_appZ {t tn : TypeId} {x y : Operand} (ho : o.op = .call { callee := .builtin .append, args := #[x, y], argTypes := #[t, tn] }) (h : evAppZ E.P t tn base [opnd E gs x, opnd E gs y] = some r) (hobl : allP r.obl) : OpOK E o gs gm base { r with base := base, tg := tg } := by
  have hx : x ∈ o.op.operands := by simp [ho, Op.operands, Call.operands]
  have hy : y ∈ o.op.operands := by simp [ho, Op.operands, Call.operands]
  unfold evAppZ at h
  split at h
  · rename_i k n he
    simp only [List.cons.injEq, and_true] at he
    obtain ⟨h1, h2⟩ := he
    split at h
    · rename_i kn htn
      split at h
      · rename_i e inf z hel
        cases hb : Nat.beq inf.size 1 with
        | false => rw [hb] at h; cases h
        | true =>
          rw [hb, cond_true] at h
          have hs := Nat.eq_of_beq_eq_true hb
          cases h
          obtain ⟨o1, o2, o3, o4, o5⟩ := hobl
          obtain ⟨q1, q2, q3, q4, q5⟩ := elemT_ok hel
          obtain ⟨m, rfl⟩ := Int.eq_ofNat_of_zero_le (Int.le_of_lt o1)
          have o2' : m * inf.bytes ≤ 281474976710656 := by
            have : ((m * inf.bytes : Nat) : Int) ≤ 281474976710656 := by rw [Int.natCast_mul]; exact o2
            omega
          refine okNew fun cx β a w hp => ?_
          have e1 := hp.v hx h1
          have e2 := hp.v hy h2
          have hr := Lib.run_append_nil_zeros (P := E.P) w t tn o.type e inf z k kn q1 htn q2 q3 m (by omega) (by omega) o3 o2'
          have hge := grownCap_ge w m 0 e
          have hcm := grownCap_le_maxLen w m 0 e (by unfold maxLen; omega)
          have hzc : (Builtin.zeroCells z.cells m).toList = List.replicate m z := by
            rw [o4]
            apply List.ext_getElem?
            intro j
            by_cases hj : j < m
            · simp [Builtin.zeroCells, hj, Nat.mod_one]
            · rw [List.getElem?_eq_none (by rw [Array.length_toList, size_zeroCells]; simp; omega), List.getElem?_eq_none (by simp; omega)]
          refine ⟨_, w.drew.alloc (.cells (Builtin.zeroCells z.cells m ++ Builtin.zeroCells z.cells (grownCap w m 0 e - m)) e), some (w.heap.size, grownCap w m 0 e), ?_, (fun g n hg => by cases hg; exact Nat.le_refl _), .inr ⟨_, _, _, upB_self _ _ _, rfl, ?_, ?_, by rw [Nat.mul_one]⟩, .inr ⟨_, _, _, upB_self _ _ _, .inl hp.upd.size, Bk.new w.drew _ e, ?_, ?_, ?_, ?_⟩, ((Upd.refl _ w).drew).alloc _⟩
          · unfold execOp
            simp [ho, e1, e2, resolve, invoke, builtin, hr]
          · simpa using hge
          · unfold maxLen at hcm; unfold mx; omega
          · rw [Array.size_append, size_zeroCells, size_zeroCells, o4]; simp; omega
          · show (List.replicate _ z).length ≤ _; simp; omega
          · show List.take (List.replicate _ z).length _ = List.replicate _ z
            rw [Array.toList_append, hzc]
            simp
          · intro u hu
            rw [show u = z from List.eq_of_mem_replicate hu]; exact o5
      · cases h
    · cases h
  · cases h
theorem ok_sliceZ {T : TypeId} {x : Operand} {lo hi mo : Option Operand} (ho : o.op = .slice T x lo hi mo) (htg : objsOf (o.op.operands.toList.map (opnd E gs)) = tg) (h : evSliceZ E.P T lo hi mo base (o.op.operands.toList.map (opnd E gs)) (tg.map gm) = some r) (hobl : allP r.obl) : OpOK E o gs gm base { r with base := base, tg := tg } := by
  unfold evSliceZ at h
  split at h
  · rename_i i es n k h' ty es' l he hcts
    split at h
    · rename_i y
      rw [ho] at he
      have he' : [opnd E gs x, opnd E gs y] = [some (.o (.c (.os i es n))), some (.o (.c (.v (.int k h'))))] := by simpa [Op.operands] using he
      simp only [List.cons.injEq, and_true] at he'
      obtain ⟨h1, h2⟩ := he'
      have hx : x ∈ o.op.operands := by simp [ho, Op.operands]
      have hy : y ∈ o.op.operands := by simp [ho, Op.operands]
      have htg' : tg = [i] := by
        rw [← htg, ho]
        have : (Op.slice T x none (some y) none).operands.toList.map (opnd E gs) = [opnd E gs x, opnd E gs y] := by simp [Op.operands]
        rw [this, h1, h2]; simp [objsOf, C.idx]
      split at h
      · rename_i e hT
        split at h
        · rename_i es2 hs
          cases hb : (Nat.beq es2 es && Nat.beq es' es) with
          | false => rw [hb] at h; cases h
          | true =>
            rw [hb, cond_true] at h
            simp only [Bool.and_eq_true] at hb
            obtain rfl := Nat.eq_of_beq_eq_true hb.1
            obtain rfl := Nat.eq_of_beq_eq_true hb.2
            cases h
            obtain ⟨o1, o2, o3⟩ := hobl
            obtain ⟨m, rfl⟩ := Int.eq_ofNat_of_zero_le o1
            have hmn : m ≤ n := by omega
            have o3' : l.len = mulN es' n := o3
            rw [mulN_eq] at o3'
            have hgi : gm i = some (.grow ty es' l) := by rw [htg'] at hcts; simp at hcts; exact hcts
            have hle : es' * m ≤ l.len := by rw [o3']; exact Nat.mul_le_mul_left _ hmn
            refine okApp (i := i) (mb0 := .grow ty es' l) (by rw [htg']; simp) hgi rfl fun cx β a w hp => ?_
            have dD := (hp.ops x hx _ h1).1
            have e2 := hp.v hy h2
            have hO := (hp.obj i (by rw [htg']; simp) _ hgi).1
            have run : ∀ {sp : Option Addr} {cap : Nat}, a.eval x = .slice sp n cap → sp.map (·.add (0 * es')) = sp → n ≤ cap → ∃ M, (execOp a.eval o).run E.P w = .ok (.value (.slice sp m M)) w ∧ M = cap := by
              intro sp cap e1 hsp hc
              have hB := run_bounds (P := E.P) (w := w) (isS := true) (len := n) (cap := cap) (lo := none) (hi := some (.int k (m : Int))) (mx := none) (l := 0) (h := m) (m := cap) (.inl ⟨rfl, rfl⟩) (.inr ⟨k, rfl, by omega⟩) (.inl ⟨rfl, rfl⟩)
              refine ⟨cap, ?_, rfl⟩
              unfold execOp
              simp only [ho, e1, e2, Option.map_none, Option.map_some, Instr.sliceAt, Sem.run_bind, run_underlying hT, Result.andThen_ok, Instr.slice, hB, run_size hs, Sem.run_pure]
              by_cases h0 : cap = 0
              · simp [h0]
              · rw [if_neg h0, hsp]
                rfl
            rcases dD with ⟨d1, d2, d3⟩ | ⟨g, kk, cp, d1, d2, d3, d4, d5⟩
            · subst d2
              obtain ⟨M, hr, rfl⟩ := run d3 rfl (Nat.le_refl _)
              have hm0 : m = 0 := by omega
              subst hm0
              rcases hO with ⟨p1, p2⟩ | ⟨g, q, arr, p1, _⟩
              · exact ⟨_, w, none, hr, (fun g n hg => by cases hg), .inl ⟨upB_self _ _ _, rfl, rfl⟩, .inl ⟨upB_self _ _ _, by rw [mulN_eq]; exact L.cut_len _ _ _ (by simp)⟩, Upd.refl _ w⟩
              · rw [d1] at p1; cases p1
            · obtain ⟨M, hr, rfl⟩ := run d2 (by simp [Addr.add_lit]) d3
              rcases hO with ⟨p1, _⟩ | ⟨g', q, arr, p1, p2, p3, p4, p5, p6, p7⟩
              · rw [d1] at p1; cases p1
              · rw [d1] at p1; cases p1
                refine ⟨_, w, some (g, kk), hr, (fun g' n' hg => by cases hg; exact .inr ⟨kk, d1⟩), .inr ⟨g, kk, M, upB_self _ _ _, rfl, by simp; omega, d4, d5⟩, .inr ⟨g, kk, arr, upB_self _ _ _, p2, p3, p4, ?_, ?_, ?_⟩, Upd.refl _ w⟩
                · rw [mulN_eq, L.cut_len _ _ _ (by simpa using hle)]; simp; omega
                · rw [mulN_eq, L.cut_len _ _ _ (by simpa using hle), L.cut_c, List.drop_zero, ← p6, List.take_take]
                  simp only [Int.toNat_natCast]
                  rw [Nat.min_eq_left (by omega)]
                · intro u hu
                  rw [L.cut_c] at hu
                  exact p7 u (List.mem_of_mem_drop (List.mem_of_mem_take hu))
        · cases h
      · cases h
    · cases h
  · cases h
end
end Go.Proofs.Ythlleheeghiljaa
