/-
  Operations by evaluation: append, make, literals, texts. For any program.
-/
import Derived.Test.YthlleheeghiljaaSyb
namespace Go.Proofs.Ythlleheeghiljaa
open Go.RowKit

def L.app : L → L → Option L
  | .i k l, .i k' x => cond (kindB k k') (some (.i k (l ++ x))) none
  | .v l, .v x => some (.v (l ++ x))
  | _, _ => none
theorem L.app_c {l x y : L} (h : l.app x = some y) : y.c = l.c ++ x.c ∧ y.len = l.len + x.len := by
  cases l <;> cases x <;> simp only [L.app, reduceCtorEq] at h
  · rename_i k l k' x
    cases hk : kindB k k' with
    | false => rw [hk] at h; cases h
    | true => rw [hk] at h; cases h; rw [← kindB_eq hk]; simp [L.c, L.len]
  · cases h; simp [L.c, L.len]
section
variable {E : Ev} {o : Oper} {gs : Nat → Option AV} {gm : Nat → Option MB} {base : Nat} {tg : List Nat} {r : Rec}
/-- One object is no more, and one is in its place. -/
theorem okApp {av : AV} {mb mb0 : MB} {obl : List Prop} {i : Nat} (hi : i ∈ tg) (hm : gm i = some mb0) (hrw : mb0.rw = true)
    (h : ∀ cx β a w, Pre E cx β o gs gm base tg a w → ∃ v w' x, (execOp a.eval o).run E.P w = .ok (.value v) w' ∧ (∀ g n, x = some (g, n) → w.heap.size ≤ g ∨ ∃ n', β i = some (g, n')) ∧ DA cx (upB β base x) av v ∧ ObjAt cx (upB β base x) w' base mb ∧ Upd (fun g => ∃ n, β i = some (g, n)) w w') :
    OpOK E o gs gm base ⟨av, base, [mb], [(i, .dead)], tg, obl⟩ := by
  have hl : ∀ m z, lookL m [(i, MB.dead)] = some z → m = i ∧ z = .dead := fun m z hz => by
    have := lookL_some hz
    simp only [List.mem_singleton, Prod.mk.injEq] at this
    exact this
  have hp : ∀ m z, Rec.put ⟨av, base, [mb], [(i, .dead)], tg, obl⟩ m = some z → (m = i ∧ z = .dead) ∨ (m = base ∧ z = mb ∧ lookL m [(i, MB.dead)] = none) := fun m z hz => by
    rcases put_cases hz with h1 | ⟨h3, h2, h1⟩
    · exact .inl (hl m z h1)
    · simp [Rec.made] at h2
      have : m = base := by omega
      subst this
      simp at h1
      exact .inr ⟨rfl, h1.symm, h3⟩
  refine ⟨fun m z hz => ?_, fun cx β a w Q hpre K hK => ?_⟩
  · obtain ⟨rfl, rfl⟩ := hl m z hz
    exact ⟨hi, mb0, hm, hrw⟩
  · obtain ⟨v, w', x, h1, h2, h3, h4, h5⟩ := h cx β a w hpre
    have hib : i < base := (hpre.obj i hi mb0 hm).2.1
    unfold Oper.wp
    rw [h1, Oper.upon_value]
    refine hK v w' (upB β base x) (fun m hn hm => ?_) (fun m z hz => ?_) h3 (fun m z hz => ?_) (fun m z hn hz g n hg => ?_) (fun p q y z hpq hy hz hr hlv => ?_) (h5.mono (fun g _ ⟨n, hg⟩ => ⟨i, .dead, n, by simp [lookL], hg⟩))
    · unfold upB
      rw [if_neg ?_]
      intro e
      subst e
      have hb : Nat.ble m m = true := bleT (Nat.le_refl _)
      have hn' : lookL m [(i, MB.dead)] = none := hn
      simp [Rec.put, hn', getL, hb] at hm
    · obtain ⟨rfl, _⟩ := hl m z hz
      exact upB_low hib
    · rcases hp m z hz with ⟨rfl, rfl⟩ | ⟨rfl, rfl, _⟩
      · trivial
      · exact h4
    · rcases hp m z hz with ⟨rfl, rfl⟩ | ⟨rfl, rfl, _⟩
      · simp [lookL] at hn
      · rw [upB_self] at hg
        rcases h2 g n hg with h | ⟨n', h⟩
        · exact .inl h
        · exact .inr ⟨i, n', by simp [lookL], h⟩
    · rcases hp p y hy with ⟨rfl, rfl⟩ | ⟨rfl, rfl, _⟩
      · cases hr
      · rcases hp q z hz with ⟨rfl, rfl⟩ | ⟨rfl, rfl, _⟩
        · cases hlv
        · exact (hpq rfl).elim
end
/-- What is appended: how many, and which cells. -/
def srcE (es : Nat) : C → Option MB → Option (Nat × L × List Prop)
  | .rs es' m l, _ => cond (Nat.beq es es') (some (m, l, [])) none
  | .sub _ 0 k m, some (.grow _ _ l) => some (m, l.cut k (mulN es m), [k + mulN es m ≤ l.len])
  | .sub _ b k m, some (.fix _ s) => match getPart s b (some k) (mulN es m) with
    | some ([.many _ l], obl) => some (m, l, obl)
    | _ => none
  | .os _ es' m, some (.grow _ _ l) => cond (Nat.beq es es') (some (m, l, [l.len = mulN es m])) none
  | _, _ => none
def elemT (P : Program) (t : TypeId) : Option (TypeId × TypeInfo × Value) := match P.underlying t with
  | some (.slice e) => match P.info? e with
    | some i => match i.zero with
      | some z => cond (Nat.beq z.cells.size i.size && Nat.blt 0 i.size) (some (e, i, z)) none
      | none => none
    | none => none
  | _ => none
def objsOf : List (Option AV) → List Nat
  | some (.o (.c c)) :: r => c.idx ++ objsOf r
  | _ :: r => objsOf r
  | [] => []
def evAppend (P : Program) (t : TypeId) (base : Nat) : List (Option AV) → List (Option MB) → Option Rec
  | [some (.o (.c (.os i es n))), some (.o (.c s))], some (.grow ty es' l) :: cts => match elemT P t with
    | some (e, inf, _) => cond (Nat.beq inf.size es && Nat.beq es' es && Nat.beq ty e) (match srcE es s (match cts with | x :: _ => x | [] => none) with
      | some (m, l2, obl) => match l.app l2 with
        | some l' => some ⟨.o (.c (.os base es (n + m))), 0, [.grow e es l'], [(i, .dead)], [], obl ++ [l.len = mulN es n, (n + m) * inf.bytes ≤ 140737488355328, n + m ≤ mx]⟩
        | none => none
      | none => none) none
    | none => none
  | [some (.o (.c (.v (.slice none 0 0)))), some (.o (.c s))], cts => match elemT P t with
    | some (e, inf, _) => match srcE inf.size s (match cts with | x :: _ => x | [] => none) with
      | some (m, l2, obl) => some ⟨.o (.c (.os base inf.size m)), 0, [.grow e inf.size l2], [], [], obl ++ [m * inf.bytes ≤ 140737488355328, m ≤ mx]⟩
      | none => none
    | none => none
  | _, _ => none
def evMake (P : Program) (t : TypeId) (base : Nat) : List (Option AV) → Option Rec
  | [some (.o (.c (.v (.int _ l)))), some (.o (.c (.v (.int _ c))))] => match elemT P t with
    | some (e, inf, z) => match z with
      | .int k 0 => cond (Nat.beq inf.size 1) (some ⟨.o (.c (.os base 1 l.toNat)), 0, [.grow e 1 (.i k (List.replicate l.toNat 0))], [], [], [0 ≤ l, l ≤ c, (inf.bytes : Int) * c ≤ 281474976710656, c ≤ 9223372036854775807]⟩) none
      | _ => none
    | none => none
  | _ => none
theorem elemT_ok {P : Program} {t e : TypeId} {i : TypeInfo} {z : Value} (h : elemT P t = some (e, i, z)) : P.underlying t = some (.slice e) ∧ P.info? e = some i ∧ i.zero = some z ∧ z.cells.size = i.size ∧ 0 < i.size := by
  unfold elemT at h
  split at h
  · rename_i e' he
    split at h
    · rename_i i' hi
      split at h
      · rename_i z' hz
        cases hb : (Nat.beq z'.cells.size i'.size && Nat.blt 0 i'.size) with
        | false => rw [hb] at h; cases h
        | true =>
          rw [hb] at h; cases h
          rw [Bool.and_eq_true] at hb
          exact ⟨he, hi, hz, Nat.eq_of_beq_eq_true hb.1, blt_iff.1 hb.2⟩
      · cases h
    · cases h
  · cases h
section
variable {E : Ev} {o : Oper} {gs : Nat → Option AV} {gm : Nat → Option MB} {base : Nat} {tg : List Nat} {r : Rec}
/-- The source's cells lie there. -/
theorem srcE_ok {cx : Cx} {β : Be} {w : World} {es : Nat} {s : C} {ct : Option MB} {m : Nat} {l : L} {obl : List Prop} (hu : Upd cx.W cx.w0 w) (h : srcE es s ct = some (m, l, obl)) (ho : allP obl) {v : Value} (d : DC cx β s v) (hct : ∀ i ∈ s.idx, ∀ mb, ct = some mb → ObjAt cx β w i mb) :
    ∃ sp cap, v = .slice sp m cap ∧ l.len = es * m ∧ (∀ x ∈ l.c, x.oneCell' = true ∨ m = 0) ∧ (0 < m → ∃ b q, sp = some ⟨b, q, none⟩ ∧ ∀ (j : Nat) (u : Value), l.c[j]? = some u → w.cell? ⟨b, q + j, none⟩ = some u ∧ u.oneCell' = true) := by
  unfold srcE at h
  split at h
  · rename_i es' m' l'
    cases hb : Nat.beq es es' with
    | false => rw [hb] at h; cases h
    | true =>
      rw [hb] at h; cases h
      obtain rfl := Nat.eq_of_beq_eq_true hb
      obtain ⟨sp, cap, d1, d2, d3, d4, d5⟩ := d
      have hone : ∀ x ∈ l.c, x.oneCell' = true ∨ m = 0 := fun x hx => by
        by_cases h0 : 0 < m
        · obtain ⟨b, q, _, hL⟩ := d5 h0; exact .inl (hL.2.2.1 x hx)
        · exact .inr (by omega)
      refine ⟨sp, cap, d1, d4, hone, fun h0 => ?_⟩
      obtain ⟨b, q, d6, hL⟩ := d5 h0
      refine ⟨b, q, d6, fun j u hj => ⟨?_, hL.2.2.1 u (List.mem_of_getElem? hj)⟩⟩
      have hlt : j < l.len := by rw [← L.len_c]; exact (List.getElem?_eq_some_iff.1 hj).1
      rw [hL.now hu j hlt]; exact hj
  · rename_i i k m' ty es' l'
    cases h
    have hle : k + mulN es m ≤ l'.len := ho
    have hle' := hle
    rw [mulN_eq] at hle'
    obtain ⟨sp, cap, d1, d2, d3, d4⟩ := d
    have hO := hct i (by simp [C.idx]) _ rfl
    have key : ∀ x ∈ (l'.cut k (mulN es m)).c, x.oneCell' = true := by
      intro x hx
      rw [L.cut_c] at hx
      rcases hO with ⟨_, h2⟩ | ⟨g, n, arr, _, _, _, _, _, _, h7⟩
      · have : l'.c = [] := List.eq_nil_of_length_eq_zero (by rw [L.len_c]; exact h2)
        rw [this] at hx; simp at hx
      · exact h7 x (List.mem_of_mem_drop (List.mem_of_mem_take hx))
    refine ⟨sp, cap, d1, by rw [L.cut_len _ _ _ hle, mulN_eq], fun x hx => .inl (key x hx), fun h0 => ?_⟩
    obtain ⟨g, s, d5, d6⟩ := d4 h0
    refine ⟨g, 0 + k, d6, fun j u hj => ⟨?_, key u (List.mem_of_getElem? hj)⟩⟩
    rcases hO with ⟨h1, _⟩ | ⟨g', n, arr, h1, h2, h3, h4, h5, h6, h7⟩
    · rw [d5] at h1; cases h1
    · rw [d5] at h1; cases h1
      rw [L.cut_c, List.getElem?_take] at hj
      split at hj
      · rename_i hj2
        rw [List.getElem?_drop, ← h6, List.getElem?_take] at hj
        split at hj
        · rw [h3.cell, Nat.zero_add]; simpa using hj
        · cases hj
      · cases hj
  · rename_i i b k m' ty s'
    split at h
    · rename_i q l' obl' hg
      cases h
      obtain ⟨sp, cap, d1, d2, d3, d4⟩ := d
      obtain ⟨g0, n0, arr, h1, h2, h3, h4, h5⟩ := hct i (by simp [C.idx]) _ rfl
      obtain ⟨e1, l2, e2, e3, e4, e5⟩ := getPart_ok hg ho h5
      have e5' : l2 = [] := e5
      subst e5'
      rw [List.append_nil] at e2
      have hlen : l.len = mulN es m := by
        rw [← L.len_c, ← e2, List.length_take, List.length_drop]; omega
      refine ⟨sp, cap, d1, by rw [hlen, mulN_eq], fun x hx => .inl (e4 x hx), fun h0 => ?_⟩
      obtain ⟨g, s, d5, d6⟩ := d4 h0
      rw [d5] at h1; cases h1
      refine ⟨_, b + k, d6, fun j u hj => ⟨?_, e4 u (List.mem_of_getElem? hj)⟩⟩
      rw [← e2, List.getElem?_take] at hj
      split at hj
      · rw [List.getElem?_drop] at hj
        rw [h3.cell]
        simpa [kz] using hj
      · cases hj
    · cases h
  · rename_i i es' m' ty es2 l'
    cases hb : Nat.beq es es' with
    | false => rw [hb] at h; cases h
    | true =>
      rw [hb] at h; cases h
      obtain rfl := Nat.eq_of_beq_eq_true hb
      have hlen : l.len = mulN es m := ho
      have hO := hct i (by simp [C.idx]) _ rfl
      rw [mulN_eq] at hlen
      rcases d with ⟨_, d2, d3⟩ | ⟨g, s, cap, d1, d2, d3, d4, d5⟩
      · subst d2
        exact ⟨none, 0, d3, hlen, fun x _ => .inr rfl, fun h0 => absurd h0 (by omega)⟩
      · have key : ∀ x ∈ l.c, x.oneCell' = true := by
          intro x hx
          rcases hO with ⟨h1, _⟩ | ⟨g', n, arr, _, _, _, _, _, _, h7⟩
          · rw [d1] at h1; cases h1
          · exact h7 x hx
        refine ⟨_, cap, d2, hlen, fun x hx => .inl (key x hx), fun h0 => ⟨g, 0, rfl, fun j u hj => ⟨?_, key u (List.mem_of_getElem? hj)⟩⟩⟩
        rcases hO with ⟨h1, _⟩ | ⟨g', n, arr, h1, h2, h3, h4, h5, h6, h7⟩
        · rw [d1] at h1; cases h1
        · rw [d1] at h1; cases h1
          rw [← h6, List.getElem?_take] at hj
          split at hj
          · rw [h3.cell, Nat.zero_add]; simpa using hj
          · cases hj
  · cases h
theorem run_app0 {P : Program} {w : World} {t ty e : TypeId} {i : TypeInfo} (ht : P.underlying t = some (.slice e)) (hi : P.info? e = some i) {sp sq : Option Addr} {n cap c : Nat} (hn : n ≤ cap) : (Builtin.append_ #[t, t] ty #[.slice sp n cap, .slice sq 0 c]).run P w = .ok (.slice sp n cap) w := by
  cases sp <;> cases sq <;> simp [Builtin.append_, run_underlying ht, sizeOf, typeInfo, hi, Builtin.lenOf, Builtin.firstCells, hn, storeCells, loadCells, loadCellsFrom]
theorem run_appB {P : Program} {ev : Operand → Value} {w w' : World} {x y : Operand} {t : TypeId} {u v r : Value} (ho : o.op = .call { callee := .builtin .append, args := #[x, y], argTypes := #[t, t] }) (hx : ev x = u) (hy : ev y = v) (h : (Builtin.append_ #[t, t] o.type #[u, v]).run P w = .ok r w') : (execOp ev o).run P w = .ok (.value r) w' := by
  unfold execOp
  simp [ho, hx, hy, resolve, invoke, builtin, h]
theorem ok_append {t : TypeId} {x y : Operand} (ho : o.op = .call { callee := .builtin .append, args := #[x, y], argTypes := #[t, t] }) (htg : objsOf [opnd E gs x, opnd E gs y] = tg) (h : evAppend E.P t base [opnd E gs x, opnd E gs y] (tg.map gm) = some r) (hobl : allP r.obl) : OpOK E o gs gm base { r with base := base, tg := tg } := by
  have hx : x ∈ o.op.operands := by simp [ho, Op.operands, Call.operands]
  have hy : y ∈ o.op.operands := by simp [ho, Op.operands, Call.operands]
  have newB : ∀ {cx : Cx} {w : World} {β : Be} {e : TypeId} {inf : TypeInfo} {z : Value} {n m old : Nat} {l' : L} {xs : List Value}, Upd cx.W cx.w0 w → z.cells.size = inf.size → l'.c = xs → l'.len = (n + m) * inf.size → (∀ u ∈ l'.c, u.oneCell' = true) → n + m ≤ mx →
      DA cx (upB β base (some (w.heap.size, grownCap w (n + m) old e * inf.size))) (.o (.c (.os base inf.size (n + m)))) (.slice (some ⟨w.heap.size, 0, none⟩) (n + m) (grownCap w (n + m) old e)) ∧
      ObjAt cx (upB β base (some (w.heap.size, grownCap w (n + m) old e * inf.size))) (w.drew.alloc (.cells (xs.toArray ++ Builtin.zeroCells z.cells (grownCap w (n + m) old e - (n + m))) e)) base (.grow e inf.size l') := by
    intro cx w β e inf z n m old l' xs hu hz hc hl h1 hmx
    have hge := grownCap_ge w (n + m) old e
    have hcm := grownCap_le_maxLen w (n + m) old e (by unfold mx at hmx; unfold maxLen; omega)
    have hsz : (xs.toArray ++ Builtin.zeroCells z.cells (grownCap w (n + m) old e - (n + m))).size = grownCap w (n + m) old e * inf.size := by
      rw [Array.size_append, size_zeroCells, List.size_toArray, ← hc, L.len_c, hl, hz, ← Nat.add_mul]
      congr 1; omega
    refine ⟨.inr ⟨_, _, _, upB_self _ _ _, rfl, hge, by unfold maxLen at hcm; unfold mx; omega, rfl⟩, .inr ⟨_, _, _, upB_self _ _ _, .inl hu.size, ?_, hsz, ?_, ?_, h1⟩⟩
    · exact Bk.new w.drew _ e
    · rw [hl]; exact Nat.mul_le_mul_right _ hge
    · rw [Array.toList_append, ← hc]
      exact List.take_left' (by rw [L.len_c])
  unfold evAppend at h
  split at h
  · rename_i i es n s ty es' l cts he hcts
    simp only [List.cons.injEq, and_true] at he
    obtain ⟨h1, h2⟩ := he
    have htg' : tg = i :: s.idx := by rw [← htg, h1, h2]; simp [objsOf, C.idx]
    split at h
    · rename_i e inf z hel
      cases hb : (Nat.beq inf.size es && Nat.beq es' es && Nat.beq ty e) with
      | false => rw [hb] at h; cases h
      | true =>
        rw [hb, cond_true] at h
        simp only [Bool.and_eq_true] at hb
        obtain ⟨⟨b1, b2⟩, b3⟩ := hb
        have b1' := Nat.eq_of_beq_eq_true b1
        have b2' := Nat.eq_of_beq_eq_true b2
        have b3' := Nat.eq_of_beq_eq_true b3
        split at h
        · rename_i m l2 obl hsrc
          split at h
          · rename_i l' happ
            cases h
            rw [allP_append] at hobl
            obtain ⟨hob, hl, hby, hmx⟩ := hobl
            have hl' : l.len = mulN es n := hl
            have hby' : (n + m) * inf.bytes ≤ 140737488355328 := hby
            have hmx' : n + m ≤ mx := hmx
            rw [mulN_eq] at hl'
            obtain ⟨q1, q2, q3, q4, q5⟩ := elemT_ok hel
            obtain ⟨a1, a2⟩ := L.app_c happ
            have hgi : gm i = some (.grow ty es' l) := by rw [htg'] at hcts; simp at hcts; exact hcts.1
            refine okApp (i := i) (mb0 := .grow ty es' l) (by rw [htg']; simp) hgi rfl fun cx β a w hp => ?_
            have dD := (hp.ops x hx _ h1).1
            have dS := (hp.ops y hy _ h2).1
            have hib : i < base := (hp.obj i (by rw [htg']; simp) _ hgi).2.1
            obtain ⟨sp, cap, s1, s2, s3, s4⟩ := srcE_ok hp.upd hsrc hob dS (fun j hj mb hmb => by
              have hc : cts = s.idx.map gm := by rw [htg'] at hcts; simp at hcts; exact hcts.2.symm
              have hjs : s.idx = [j] := by cases s <;> first | (simp only [C.idx, List.mem_singleton] at hj ⊢; rw [hj]) | (simp [C.idx] at hj; done) | (simp [srcE] at hsrc; done)
              rw [hc, hjs] at hmb
              exact (hp.obj j (by rw [htg', hjs]; simp) mb hmb).1)
            have hO := (hp.obj i (by rw [htg']; simp) _ hgi).1
            have hone : m ≠ 0 → ∀ u ∈ l2.c, u.oneCell' = true := fun hm u hu => (s3 u hu).resolve_right hm
            by_cases hm : m = 0
            · subst hm
              have hl2 : l2.c = [] := List.eq_nil_of_length_eq_zero (by rw [L.len_c, s2]; simp)
              have ec : l'.c = l.c := by rw [a1, hl2, List.append_nil]
              have el : l'.len = l.len := by rw [a2, s2]; simp
              have keepO : ObjAt cx (upB β base (β i)) w base (.grow e es l') := by
                rw [← b3']
                rcases hO with ⟨o1, o2⟩ | ⟨g, k, arr, o1, o2, o3, o4, o5, o6, o7⟩
                · exact .inl ⟨by rw [upB_self, o1], by rw [el, o2]⟩
                · exact .inr ⟨g, k, arr, by rw [upB_self, o1], o2, o3, o4, by rw [el]; exact o5, by rw [el, ec]; exact o6, by rw [ec]; exact o7⟩
              rcases dD with ⟨d1, d2, d3⟩ | ⟨g, k, cp, d1, d2, d3, d4, d5⟩
              · exact ⟨_, w, β i, run_appB ho d3 s1 (run_app0 q1 q2 (Nat.le_refl _)), (fun g' n' hg => by rw [d1] at hg; cases hg), .inl ⟨by rw [upB_self, d1], by omega, rfl⟩, keepO, Upd.refl _ w⟩
              · exact ⟨_, w, β i, run_appB ho d2 s1 (run_app0 q1 q2 d3), fun g' n' hg => .inr ⟨n', hg⟩, .inr ⟨g, k, cp, by rw [upB_self, d1], rfl, d3, d4, d5⟩, keepO, Upd.refl _ w⟩
            · obtain ⟨b, q, s5, s6⟩ := s4 (by omega)
              rw [s5] at s1
              have hnl : l2.c.length = m * inf.size := by rw [L.len_c, s2, b1', Nat.mul_comm]
              have hnews : ∀ (j : Nat) (u : Value), l2.c[j]? = some u → w.cell? ((⟨b, q, none⟩ : Addr).add j) = some u := fun j u hj => by rw [Addr.add_lit]; exact (s6 j u hj).1
              have hsm : n + m ≤ 9223372036854775807 := hmx'
              have hl'len : l'.len = (n + m) * inf.size := by rw [a2, hl', s2, b1', ← Nat.mul_add, Nat.mul_comm]
              rcases dD with ⟨d1, d2, d3⟩ | ⟨g, k, cp, d1, d2, d3, d4, d5⟩
              · subst d2
                have hl0 : l.c = [] := List.eq_nil_of_length_eq_zero (by rw [L.len_c, hl']; simp)
                have hr := run_append_nil (P := E.P) w t o.type e inf z q1 q2 q3 ⟨b, q, none⟩ m cap l2.c hnl hnews (by omega) (by omega) (by simp only [Nat.zero_add] at hby'; omega)
                have hcc : l'.c = l2.c := by rw [a1, hl0, List.nil_append]
                obtain ⟨g1, g2⟩ := newB (cx := cx) (w := w) (β := β) (e := e) (inf := inf) (z := z) (n := 0) (m := m) (old := 0) (l' := l') hp.upd q4 hcc hl'len (by rw [hcc]; exact hone hm) hmx'
                rw [Nat.zero_add] at g1 g2
                refine ⟨_, _, some (w.heap.size, grownCap w m 0 e * inf.size), run_appB ho d3 s1 hr, (fun g' n' hg => by cases hg; exact .inl (Nat.le_refl _)), ?_, ?_, ((Upd.refl _ w).drew).alloc _⟩
                · rw [Nat.zero_add, ← b1']; exact g1
                · rw [← b1']; exact g2
              · rcases hO with ⟨o1, _⟩ | ⟨g', k', arr, o1, o2, o3, o4, o5, o6, o7⟩
                · rw [d1] at o1; cases o1
                · rw [d1] at o1; cases o1
                  rw [b3'] at o3
                  by_cases hroom : n + m ≤ cp
                  · have hfit : n * inf.size + l2.c.length ≤ arr.size := by rw [hnl, o4, d5, b1', ← Nat.add_mul]; exact Nat.mul_le_mul_right _ hroom
                    have hr := append_room_bk (P := E.P) w t o.type e inf q1 q2 g n cp arr o3 ⟨b, q, none⟩ m cap l2.c hnl hnews (hone hm) hroom hfit
                    refine ⟨_, _, some (g, k), run_appB ho d2 s1 hr, (fun g' n' hg => by cases hg; exact .inr ⟨k, d1⟩), .inr ⟨g, k, cp, upB_self _ _ _, rfl, hroom, d4, d5⟩, .inr ⟨g, k, _, upB_self _ _ _, o2, o3.row _ ?_, ?_, ?_, ?_, ?_⟩, (Upd.refl _ w).row _ (fun _ => ⟨k, d1⟩)⟩
                    · simp only [List.size_toArray, List.length_append, List.length_take, List.length_drop, Array.length_toList]
                      omega
                    · simp only [List.size_toArray, List.length_append, List.length_take, List.length_drop, Array.length_toList]
                      omega
                    · rw [hl'len, d5, b1']; exact Nat.mul_le_mul_right _ hroom
                    · simp only []
                      have hpre : arr.toList.take (n * inf.size) = l.c := by rw [b1', Nat.mul_comm n es, ← hl']; exact o6
                      rw [hpre, a1]
                      exact List.take_left' (by rw [List.length_append, L.len_c, L.len_c, a2])
                    · rw [a1]
                      intro u hu
                      rcases List.mem_append.1 hu with hu | hu
                      · exact o7 u hu
                      · exact hone hm u hu
                  · have holds : ∀ (j : Nat) (u : Value), l.c[j]? = some u → w.cell? ((⟨g, 0, none⟩ : Addr).add j) = some u := fun j u hj => by
                      rw [← o6, List.getElem?_take] at hj
                      split at hj
                      · rw [Addr.add_lit, o3.cell, Nat.zero_add]; simpa using hj
                      · cases hj
                    have hr := run_append_grow (P := E.P) w t o.type e inf z q1 q2 q3 ⟨g, 0, none⟩ n cp l.c (by rw [L.len_c, hl', b1', Nat.mul_comm]) holds ⟨b, q, none⟩ m cap l2.c hnl hnews (by omega) (by omega) (growslice_fits (by omega) hby')
                    have hall : ∀ u ∈ l'.c, u.oneCell' = true := by
                      rw [a1]
                      intro u hu
                      rcases List.mem_append.1 hu with hu | hu
                      · exact o7 u hu
                      · exact hone hm u hu
                    obtain ⟨g1, g2⟩ := newB (cx := cx) (w := w) (β := β) (e := e) (inf := inf) (z := z) (n := n) (m := m) (old := cp) (l' := l') hp.upd q4 a1 hl'len hall hmx'
                    refine ⟨_, _, some (w.heap.size, grownCap w (n + m) cp e * inf.size), run_appB ho d2 s1 hr, (fun g' n' hg => by cases hg; exact .inl (Nat.le_refl _)), ?_, ?_, ((Upd.refl _ w).drew).alloc _⟩
                    · rw [← b1']; exact g1
                    · rw [← b1']
                      have e9 : l.c.toArray ++ l2.c.toArray = (l.c ++ l2.c).toArray := by simp
                      rw [e9]; exact g2
          · cases h
        · cases h
    · cases h
  · rename_i cts s he
    simp only [List.cons.injEq, and_true] at he
    obtain ⟨h1, h2⟩ := he
    have htg' : tg = s.idx := by rw [← htg, h1, h2]; simp [objsOf, C.idx]
    split at h
    · rename_i e inf z hel
      split at h
      · rename_i m l2 obl hsrc
        cases h
        rw [allP_append] at hobl
        obtain ⟨hob, hby, hmx⟩ := hobl
        have hby' : m * inf.bytes ≤ 140737488355328 := hby
        have hmx' : m ≤ mx := hmx
        obtain ⟨q1, q2, q3, q4, q5⟩ := elemT_ok hel
        refine okNew fun cx β a w hp => ?_
        have dD : a.eval x = .slice none 0 0 := hp.v hx h1
        have dS := (hp.ops y hy _ h2).1
        obtain ⟨sp, cap, s1, s2, s3, s4⟩ := srcE_ok hp.upd hsrc hob dS (fun j hj mb hmb => by
          have hjs : s.idx = [j] := by cases s <;> first | (simp only [C.idx, List.mem_singleton] at hj ⊢; rw [hj]) | (simp [C.idx] at hj; done) | (simp [srcE] at hsrc; done)
          rw [htg', hjs] at hmb
          exact (hp.obj j (by rw [htg', hjs]; simp) mb hmb).1)
        by_cases hm : m = 0
        · subst hm
          exact ⟨_, w, none, run_appB ho dD s1 (run_app0 q1 q2 (Nat.le_refl _)), (fun g n hg => by cases hg), .inl ⟨upB_self _ _ _, rfl, rfl⟩, .inl ⟨upB_self _ _ _, by rw [s2]; simp⟩, Upd.refl _ w⟩
        · obtain ⟨b, q, s5, s6⟩ := s4 (by omega)
          rw [s5] at s1
          have hsm : m ≤ 9223372036854775807 := hmx'
          have hnl : l2.c.length = m * inf.size := by rw [L.len_c, s2, Nat.mul_comm]
          have hr := run_append_nil (P := E.P) w t o.type e inf z q1 q2 q3 ⟨b, q, none⟩ m cap l2.c hnl (fun j u hj => by rw [Addr.add_lit]; exact (s6 j u hj).1) (by omega) (by omega) (by omega)
          obtain ⟨g1, g2⟩ := newB (cx := cx) (w := w) (β := β) (e := e) (inf := inf) (z := z) (n := 0) (m := m) (old := 0) (l' := l2) hp.upd q4 rfl (by rw [Nat.zero_add, s2, Nat.mul_comm]) (fun u hu => (s3 u hu).resolve_right hm) (by omega)
          rw [Nat.zero_add] at g1 g2
          exact ⟨_, _, some (w.heap.size, grownCap w m 0 e * inf.size), run_appB ho dD s1 hr, (fun g' n' hg => by cases hg; exact Nat.le_refl _), g1, g2, ((Upd.refl _ w).drew).alloc _⟩
      · cases h
    · cases h
  · cases h
end
end Go.Proofs.Ythlleheeghiljaa
