/-
  Operations by evaluation: loads, stores, new variables. For any program.
-/
import Derived.Test.YthlleheeghiljaaSy9
namespace Go.Proofs.Ythlleheeghiljaa
open Go.RowKit

theorem lay_append_left {α : Type} (p q : List α) (a : Nat) (x : List α) (h : a + x.length ≤ p.length) : lay (p ++ q) a x = lay p a x ++ q := by
  unfold lay
  rw [List.take_append_of_le_length (by omega), List.drop_append_of_le_length (by omega)]
  simp
theorem lay_append_right {α : Type} (p q : List α) (a : Nat) (x : List α) (h : p.length ≤ a) : lay (p ++ q) a x = p ++ lay q (a - p.length) x := by
  unfold lay
  rw [List.take_append, List.drop_append, List.take_of_length_le h, List.drop_of_length_le (by omega), show a + x.length - p.length = a - p.length + x.length by omega]
  simp
theorem lay_length {α : Type} (l : List α) (a : Nat) (x : List α) (h : a + x.length ≤ l.length) : (lay l a x).length = l.length := by
  unfold lay; simp; omega
theorem lay_one {α : Type} (l : List α) (a : Nat) (v : α) (h : a < l.length) : lay l a [v] = l.set a v := by
  unfold lay
  rw [List.set_eq_take_append_cons_drop, if_pos h]
  simp
section
variable {cx : Cx} {β : Be}
theorem setPart_ok : ∀ {s : List Seg} {b : Nat} {k : Option Nat} {x s' : List Seg} {obl : List Prop}, setPart s b k x = some (s', obl) → allP obl → ∀ {lx : List Value}, DL cx β x lx → ∀ {l : List Value}, DL cx β s l → b + kz k + lx.length ≤ l.length ∧ DL cx β s' (lay l (b + kz k) lx) := by
  intro s
  have inner : ∀ {m n a : Nat} {y z l' : L} {r : List Seg} {lx l : List Value}, y.lay a z = some l' → a + n ≤ m → DL cx β [.many n z] lx → DL cx β (.many m y :: r) l → a + lx.length ≤ l.length ∧ DL cx β (.many m l' :: r) (lay l a lx) := by
    rintro m n a y z l' r lx l hl hle ⟨e, h1, h2, h3, h4⟩ ⟨l2, g1, g2, g3, g4⟩
    have h4' : e = [] := h4
    subst h4'
    rw [List.append_nil] at h1
    subst h1
    subst g1
    obtain ⟨q1, q2⟩ := L.lay_c hl
    have hy := L.len_c y
    have hz := L.len_c z
    refine ⟨by rw [List.length_append]; omega, l2, ?_, by rw [q2 (by omega)]; exact g2, ?_, g4⟩
    · rw [lay_append_left _ _ _ _ (by omega), q1]
    · intro u hu
      rw [q1] at hu
      unfold lay at hu
      rcases List.mem_append.1 hu with hu | hu
      · rcases List.mem_append.1 hu with hu | hu
        · exact g3 u (List.mem_of_mem_take hu)
        · exact h3 u hu
      · exact g3 u (List.mem_of_mem_drop hu)
  induction s with
  | nil =>
    intro b k x s' obl h ho lx hx l d
    have d' : l = [] := d
    subst d'
    cases b with
    | succ b => cases k <;> cases h
    | zero =>
      cases k with
      | some k => cases h
      | none =>
        simp only [setPart] at h
        split at h
        · rename_i t ht
          cases h
          have hlen := DL_len hx
          obtain ⟨e1, e2⟩ := dropS_ok (l := []) ht (show DL cx β [] [] from rfl)
          have : lx = [] := List.eq_nil_of_length_eq_zero (by simp at e1; omega)
          subst this
          refine ⟨by simp [kz], ?_⟩
          have := DL_append hx e2
          simpa [lay] using this
        · cases h
  | cons g r ih =>
    intro b k x s' obl h ho lx hx l d
    have zero : ∀ {t : List Seg}, b = 0 → k = none → dropS (g :: r) (segsLen x) = some t → b + kz k + lx.length ≤ l.length ∧ DL cx β (x ++ t) (lay l (b + kz k) lx) := by
      rintro t rfl rfl ht
      have hlen := DL_len hx
      obtain ⟨e1, e2⟩ := dropS_ok ht d
      refine ⟨by simp only [kz]; omega, ?_⟩
      have := DL_append hx e2
      rw [hlen.symm] at this
      simpa [lay, kz] using this
    cases g with
    | one c =>
      cases b with
      | zero =>
        cases k with
        | none =>
          simp only [setPart] at h
          split at h
          · rename_i t ht
            cases h
            exact zero rfl rfl ht
          · cases h
        | some k => cases h
      | succ b =>
        simp only [setPart] at h
        split at h
        · rename_i s o hs
          cases h
          obtain ⟨v, l', h1, h2, h3, h4⟩ := d
          subst h1
          obtain ⟨e1, e2⟩ := ih hs ho hx h4
          refine ⟨by simp; omega, v, lay l' (b + kz k) lx, ?_, h2, h3, e2⟩
          have := lay_append_right [v] l' (b + 1 + kz k) lx (by simp; omega)
          rw [List.singleton_append] at this
          rw [this, List.length_singleton, show b + 1 + kz k - 1 = b + kz k by omega]; rfl
        · cases h
    | many m y =>
      cases b with
      | zero =>
        cases k with
        | none =>
          simp only [setPart] at h
          split at h
          · rename_i t ht
            cases h
            exact zero rfl rfl ht
          · cases h
        | some k =>
          cases x with
          | nil => cases h
          | cons x0 xr =>
            cases x0 with
            | one c => cases h
            | rsv z => cases h
            | many n z =>
              cases xr with
              | cons _ _ => cases h
              | nil =>
                simp only [setPart] at h
                split at h
                · rename_i l' hl
                  cases h
                  rw [show (0 : Nat) + kz (some k) = k by simp [kz]]
                  exact inner hl (show k + n ≤ m from ho) hx d
                · cases h
      | succ b =>
        simp only [setPart] at h
        cases hb : Nat.blt (b + 1) m with
        | true =>
          rw [hb, cond_true] at h
          split at h
          · rename_i n z
            split at h
            · rename_i l' hl
              cases h
              exact inner hl (show b + 1 + kz k + n ≤ m from ho) hx d
            · cases h
          · cases h
        | false =>
          rw [hb, cond_false] at h
          have hle : ¬ b + 1 < m := fun e => by rw [blt_iff.2 e] at hb; cases hb
          split at h
          · rename_i s o hs
            cases h
            obtain ⟨l', h1, h2, h3, h4⟩ := d
            subst h1
            have hy := L.len_c y
            obtain ⟨e1, e2⟩ := ih hs ho hx h4
            refine ⟨by rw [List.length_append]; omega, lay l' (b + 1 - m + kz k) lx, ?_, h2, h3, e2⟩
            rw [lay_append_right _ _ _ _ (by omega), hy, h2, show b + 1 + kz k - m = b + 1 - m + kz k by omega]
          · cases h
    | rsv y =>
      cases b with
      | zero =>
        cases k with
        | none =>
          simp only [setPart] at h
          split at h
          · rename_i t ht
            cases h
            exact zero rfl rfl ht
          · cases h
        | some k => cases h
      | succ b => cases h
end

def segsMB : MB → Option (List Seg)
  | .fix _ s => some s
  | .ro _ s => some s
  | .grow _ _ l => some [.many l.len l]
  | .gs _ s => some s
  | .dead => none
def aggT (P : Program) (T : TypeId) : Option Bool := match P.underlying T with
  | some (.struct _) => some true
  | some (.array _ _) => some true
  | some _ => some false
  | none => none
def gOf : Option (List Seg × List Prop) → Option Rec
  | some (s, obl) => val (.o (.g s)) obl
  | none => none
/-- A part of an object: what structs a slice owns is cut by its cells. -/
def partMB (mb : MB) (s : List Seg) (b : Nat) (k : Option Nat) (n : Nat) : Option (List Seg × List Prop) := match mb with
  | .gs _ _ => getPart s (Nat.add b (kz k)) none n
  | _ => getPart s b k n
def evLoad (P : Program) (T : TypeId) : List (Option AV) → List (Option MB) → Option Rec
  | [some (.o (.c (.ptr _ b k)))], [some mb] => match segsMB mb with
    | some s => match aggT P T with
      | some false => cOf (getCell s b k)
      | some true => match sizeT P T with
        | some n => gOf (partMB mb s b k n)
        | none => none
      | none => none
    | none => none
  | [some (.o (.c (.rp l k)))], _ => match aggT P T with
    | some false => cOf (some (.v (l.get k), [k < l.len]))
    | some true => match sizeT P T with
      | some n => gOf (some ([.many n (l.cut k n)], [k + n ≤ l.len]))
      | none => none
    | none => none
  | [some (.o (.c (.rsp l)))], _ => match aggT P T with
    | some false => cOf (some (.rs 1 l.length (.i .u8 l), []))
    | _ => none
  | _, _ => none
def oneV : Value → List Prop
  | .int _ _ => []
  | .bool _ => []
  | .string _ => []
  | .slice _ _ _ => []
  | x => [x.oneCell' = true]
def oneC : C → List Prop
  | .v x => oneV x
  | .q φ => [∀ v, φ v → v.oneCell' = true]
  | _ => []
def wrOf (i : Nat) (f : List Seg → MB) (more : List Prop) : Option (List Seg × List Prop) → Option Rec
  | some (s, obl) => some ⟨vv undef, 0, [], [(i, f s)], [], obl ++ more⟩
  | none => none
def growOf (ty : TypeId) (es : Nat) : List Seg → MB
  | [.many _ l] => .grow ty es l
  | _ => .dead
def evStore (P : Program) (T : TypeId) : List (Option AV) → List (Option MB) → Option Rec
  | [some (.o (.c (.ptr i b k))), some (.o (.c c))], [some (.fix ty s)] => match sizeT P T with
    | some 1 => wrOf i (.fix ty) (oneC c) (setCell s b k c)
    | _ => none
  | [some (.o (.c (.ptr i b k))), some (.o (.g x))], [some (.fix ty s)] => match sizeT P T with
    | some n => cond (Nat.beq (segsLen x) n) (wrOf i (.fix ty) [] (setPart s b k x)) none
    | none => none
  | [some (.o (.c (.ptr i b k))), some (.o (.c c))], [some (.grow ty es l)] => match sizeT P T with
    | some 1 => wrOf i (growOf ty es) (oneC c) (setCell [.many l.len l] b k c)
    | _ => none
  | [some (.o (.c (.ptr i 0 (some k)))), some (.o (.g x))], [some (.grow ty es l)] => match sizeT P T with
    | some n => cond (Nat.beq (segsLen x) n) (wrOf i (growOf ty es) [] (setPart [.many l.len l] 0 (some k) x)) none
    | none => none
  | _, _ => none
def ptrsOf : List (Option AV) → List Nat
  | some (.o (.c c)) :: _ => c.idx
  | _ => []
section
variable {P : Program} {ev : Operand → Value} {o : Oper} {x y : Operand}
theorem run_loadCell {T : TypeId} {ad : Addr} {v : Value} {w : World} (ho : o.op = .load T x) (hT : aggT P T = some false) (hx : ev x = .pointer (some ad)) (hc : w.cell? ad = some v) : (execOp ev o).run P w = .ok (.value v) w := by
  have hagg : (isAgg T).run P w = .ok false w := by
    unfold aggT at hT
    unfold isAgg
    cases hu : P.underlying T with
    | none => rw [hu] at hT; cases hT
    | some d =>
      rw [hu] at hT
      rw [Sem.run_bind, run_underlying hu w]
      cases d <;> first | rfl | cases hT
  unfold execOp
  simp only [ho]
  simp [hx, go_sem, hagg, hc]
theorem run_loadPart {T : TypeId} {g off n : Nat} {w : World} (ho : o.op = .load T x) (hT : aggT P T = some true) (hn : sizeT P T = some n) (hx : ev x = .pointer (some ⟨g, off, none⟩)) (cs : List Value) (hl : cs.length = n) (hc : ∀ j v, cs[j]? = some v → w.cell? ⟨g, off + j, none⟩ = some v) :
    (execOp ev o).run P w = .ok (.value (.agg cs.toArray)) w := by
  have hagg : (isAgg T).run P w = .ok true w := by
    unfold aggT at hT
    unfold isAgg
    cases hu : P.underlying T with
    | none => rw [hu] at hT; cases hT
    | some d =>
      rw [hu] at hT
      rw [Sem.run_bind, run_underlying hu w]
      cases d <;> first | rfl | cases hT
  have hload := run_loadCells_list (P := P) w ⟨g, off, none⟩ cs (fun j v hv => by rw [Addr.add_lit]; exact hc j v hv)
  rw [hl] at hload
  unfold execOp
  simp only [ho, hx, Instr.loadAt, Instr.sureAddr, loadVar, Sem.run_bind, Sem.run_pure, Result.andThen_ok, hagg, if_true, run_size hn w, hload]
theorem run_storeAny {T : TypeId} {g off : Nat} {w : World} {t : TypeId} {cs : Array Value} {v : Value} {vs : List Value} (ho : o.op = .store T x y) (hx : ev x = .pointer (some ⟨g, off, none⟩)) (hy : ev y = v) (hv : v.cells.toList = vs) (hn : sizeT P T = some vs.length) (hg : Bk w g t cs) (hle : off + vs.length ≤ cs.size) (h1 : ∀ u ∈ vs, u.oneCell' = true) :
    (execOp ev o).run P w = .ok .skip (w.setRow g (lay cs.toList off vs).toArray) := by
  have hst := storeCells_bk P g off t vs 0 cs w hg (by simpa using hle) h1
  rw [Nat.add_zero] at hst
  have hcs : v.cells.size = vs.length := by rw [← hv, Array.length_toList]
  unfold execOp
  simp only [ho, hx, hy, Instr.storeAt, Instr.sureAddr, storeVar, Sem.run_bind, Sem.run_pure, Result.andThen_ok, run_size hn w, hcs, ne_eq, not_true_eq_false, if_false, hv]
  rw [hst]
  rfl
end
theorem Lies.now {cx : Cx} {w : World} (hu : Upd cx.W cx.w0 w) {b q : Nat} {l : L} (h : Lies cx b q l) (j : Nat) (hj : j < l.len) : w.cell? ⟨b, q + j, none⟩ = l.c[j]? := by
  have h1 := h.2.2.2 j hj
  have hsome : l.c[j]? = some (l.get j) := L.get_c l j hj
  rw [hsome] at h1 ⊢
  exact hu.cell h1 h.2.1
section
variable {E : Ev} {o : Oper} {gs : Nat → Option AV} {gm : Nat → Option MB} {base : Nat} {tg : List Nat} {r : Rec}
theorem oneC_ok {cx : Cx} {β : Be} {c : C} (h : allP (oneC c)) {v : Value} (d : DC cx β c v) : v.oneCell' = true := by
  cases c with
  | v x => have e : v = x := d; rw [e]; cases x <;> first | rfl | exact h
  | ptr i b k => obtain ⟨g, s, _, e⟩ := d; rw [e]; rfl
  | sub i b k n => obtain ⟨sp, cap, e, _⟩ := d; rw [e]; rfl
  | os i es n => rcases d with ⟨_, _, e⟩ | ⟨g, s, cap, _, e, _⟩ <;> (rw [e]; rfl)
  | rs es n l => obtain ⟨sp, cap, e, _⟩ := d; rw [e]; rfl
  | rp l k => obtain ⟨b, q, e, _⟩ := d; rw [e]; rfl
  | q φ => exact h v d
  | fn f caps => obtain ⟨vs, e, _⟩ := d; rw [e]; rfl
  | rss ls => obtain ⟨sp, cap, e, _⟩ := d; rw [e]; rfl
  | rsp l => obtain ⟨b, q, e, _⟩ := d; rw [e]; rfl
  | fm f i b => obtain ⟨g, s, _, e⟩ := d; rw [e]; rfl
/-- What lies in an object, as far as it is known. -/
theorem ObjAt.segs {cx : Cx} {β : Be} {w : World} {i : Nat} {mb : MB} (h : ObjAt cx β w i mb) {s : List Seg} (hs : segsMB mb = some s) {g n : Nat} (hg : β i = some (g, n)) : ∃ (ty : TypeId) (arr : Array Value) (l : List Value), Bk w g ty arr ∧ DL cx β s l ∧ ∀ (j : Nat) (v : Value), l[j]? = some v → arr[j]? = some v := by
  cases mb with
  | fix ty t => cases hs; obtain ⟨g', n', arr, h1, h2, h3, h4, h5⟩ := h; rw [hg] at h1; cases h1; exact ⟨ty, arr, arr.toList, h3, h5, fun j v hv => by simpa using hv⟩
  | ro ty t => cases hs; obtain ⟨g', n', arr, h1, h2, h2', h3, h4, h5⟩ := h; rw [hg] at h1; cases h1; exact ⟨ty, arr, arr.toList, h3, h5, fun j v hv => by simpa using hv⟩
  | grow ty es l =>
    cases hs
    rcases h with ⟨h1, h2⟩ | ⟨g', n', arr, h1, h2, h3, h4, h5, h6, h7⟩
    · rw [hg] at h1; cases h1
    · rw [hg] at h1; cases h1
      refine ⟨ty, arr, l.c, h3, ⟨[], by simp, rfl, h7, rfl⟩, fun j v hv => ?_⟩
      rw [← h6, List.getElem?_take] at hv
      split at hv
      · simpa using hv
      · cases hv
  | gs ty t =>
    cases hs
    rcases h with ⟨h1, h2⟩ | ⟨g', n', arr, m, h1, h2, h3, h4, h5, h6⟩
    · rw [hg] at h1; cases h1
    · rw [hg] at h1; cases h1
      refine ⟨ty, arr, _, h3, h6, fun j v hv => ?_⟩
      rw [List.getElem?_take] at hv
      split at hv
      · simpa using hv
      · cases hv
  | dead => cases hs
theorem LiesS.now {cx : Cx} {w : World} (hu : Upd cx.W cx.w0 w) {b q : Nat} {ls : List (List Int)} (h : LiesS cx b q ls) (j : Nat) (l : List Int) (hj : ls[j]? = some l) : ∃ v, w.cell? ⟨b, q + j, none⟩ = some v ∧ RB cx l v := by
  obtain ⟨v, h1, h2⟩ := h.2.2 j l hj
  exact ⟨v, hu.cell h1 h.2.1, h2⟩
theorem partMB_ok {mb : MB} {s : List Seg} {b : Nat} {k : Option Nat} {n : Nat} {t : List Seg} {obl : List Prop} {cx : Cx} {β : Be} (h : partMB mb s b k n = some (t, obl)) (ho : allP obl) {l : List Value} (d : DL cx β s l) : b + kz k + n ≤ l.length ∧ DL cx β t ((l.drop (b + kz k)).take n) := by
  cases mb with
  | gs ty x => exact getPart_ok (k := none) (b := b + kz k) h ho d
  | fix ty x => exact getPart_ok h ho d
  | ro ty x => exact getPart_ok h ho d
  | grow ty es x => exact getPart_ok h ho d
  | dead => exact getPart_ok h ho d
theorem ok_load {T : TypeId} {x : Operand} (ho : o.op = .load T x) (htg : ptrsOf [opnd E gs x] = tg) (h : evLoad E.P T [opnd E gs x] (tg.map gm) = some r) (hobl : allP r.obl) : OpOK E o gs gm base { r with base := base, tg := tg } := by
  have hx : x ∈ o.op.operands := by simp [ho, Op.operands]
  unfold evLoad at h
  split at h
  · rename_i i b k mb he hm
    simp only [List.cons.injEq, and_true] at he
    rw [he] at htg
    have htg' : tg = [i] := htg.symm
    subst htg'
    simp only [List.map_cons, List.map_nil, List.cons.injEq, and_true] at hm
    split at h
    · rename_i s hs
      split at h
      · rename_i hT
        cases hc : getCell s b k with
        | none => rw [hc] at h; cases h
        | some p =>
          rw [hc] at h
          obtain ⟨c, obl⟩ := p
          obtain rfl := val_eq h
          refine okVal fun cx β a w hp => ?_
          obtain ⟨g, n, e1, e2⟩ := (hp.ops x hx _ he).1
          obtain ⟨ty, arr, l, e3, e4, e5⟩ := (hp.obj i (by simp) mb hm).1.segs hs e1
          obtain ⟨v, e6, e7, e8⟩ := getCell_ok hc hobl e4
          exact ⟨v, run_loadCell ho hT e2 (by rw [e3.cell]; exact e5 _ _ e6), e7⟩
      · rename_i hT
        split at h
        · rename_i n hn
          cases hc : partMB mb s b k n with
          | none => rw [hc] at h; cases h
          | some p =>
            rw [hc] at h
            obtain ⟨t, obl⟩ := p
            obtain rfl := val_eq h
            refine okVal fun cx β a w hp => ?_
            obtain ⟨g, m, e1, e2⟩ := (hp.ops x hx _ he).1
            obtain ⟨ty, arr, l, e3, e4, e5⟩ := (hp.obj i (by simp) mb hm).1.segs hs e1
            obtain ⟨e6, e7⟩ := partMB_ok hc hobl e4
            refine ⟨_, run_loadPart ho hT hn e2 ((l.drop (b + kz k)).take n) (by simp; omega) (fun j v hv => ?_), ⟨_, rfl, by simpa using e7⟩⟩
            rw [List.getElem?_take] at hv
            split at hv
            · rw [List.getElem?_drop] at hv
              rw [e3.cell]
              exact e5 _ _ hv
            · cases hv
        · cases h
      · cases h
    · cases h
  · rename_i l k he
    simp only [List.cons.injEq, and_true] at he
    split at h
    · rename_i hT
      obtain rfl := val_eq h
      have hk : k < l.len := hobl
      refine okVal fun cx β a w hp => ?_
      obtain ⟨b, q, e1, e2⟩ := (hp.ops x hx _ he).1
      exact ⟨_, run_loadCell ho hT e1 (by rw [e2.now hp.upd k hk]; exact L.get_c l k hk), rfl⟩
    · rename_i hT
      split at h
      · rename_i n hn
        obtain rfl := val_eq h
        have hk : k + n ≤ l.len := hobl
        have hlc := L.len_c l
        refine okVal fun cx β a w hp => ?_
        obtain ⟨b, q, e1, e2⟩ := (hp.ops x hx _ he).1
        refine ⟨_, run_loadPart ho hT hn e1 (l.cut k n).c (by rw [L.len_c, L.cut_len _ _ _ hk]) (fun j v hv => ?_), ⟨_, rfl, [], by simp, L.cut_len _ _ _ hk, ?_, rfl⟩⟩
        · rw [L.cut_c, List.getElem?_take] at hv
          split at hv
          · rename_i hj
            rw [List.getElem?_drop] at hv
            rw [Nat.add_assoc, e2.now hp.upd (k + j) (by omega)]
            exact hv
          · cases hv
        · intro z hz
          rw [L.cut_c] at hz
          exact e2.2.2.1 z (List.mem_of_mem_drop (List.mem_of_mem_take hz))
      · cases h
    · cases h
  · rename_i l he
    simp only [List.cons.injEq, and_true] at he
    split at h
    · rename_i hT
      obtain rfl := val_eq h
      refine okVal fun cx β a w hp => ?_
      obtain ⟨b, q, e1, e2⟩ := (hp.ops x hx _ he).1
      obtain ⟨v, e3, e4⟩ := e2.now hp.upd 0 l rfl
      exact ⟨v, run_loadCell ho hT e1 e3, e4.2⟩
    · cases h
  · cases h
/-- One object is written. -/
theorem okWr {i : Nat} {mb mb' : MB} {obl : List Prop} (hi : i ∈ tg) (hm : gm i = some mb) (hrw : mb.rw = true)
    (h : ∀ cx β a w, Pre E cx β o gs gm base tg a w → ∃ w', (execOp a.eval o).run E.P w = .ok .skip w' ∧ ObjAt cx β w' i mb' ∧ Upd (fun g => ∃ n, β i = some (g, n)) w w') : OpOK E o gs gm base ⟨vv undef, base, [], [(i, mb')], tg, obl⟩ := by
  have hl : ∀ m z, lookL m [(i, mb')] = some z → m = i ∧ z = mb' := fun m z hz => by
    have := lookL_some hz
    simp only [List.mem_singleton, Prod.mk.injEq] at this
    exact this
  have hp : ∀ m z, Rec.put ⟨vv undef, base, [], [(i, mb')], tg, obl⟩ m = some z → m = i ∧ z = mb' := fun m z hz => by
    rcases put_cases hz with h1 | ⟨_, _, h1⟩
    · exact hl m z h1
    · simp at h1
  refine ⟨fun m z hz => ?_, fun cx β a w Q hpre K hK => ?_⟩
  · obtain ⟨rfl, rfl⟩ := hl m z hz
    exact ⟨hi, mb, hm, hrw⟩
  · obtain ⟨w', h1, h2, h3⟩ := h cx β a w hpre
    unfold Oper.wp
    rw [h1, Oper.upon_skip]
    refine hK undef w' β (fun _ _ _ => rfl) (fun _ _ _ => rfl) rfl (fun m z hz => ?_) (fun m z hn hz => ?_) (fun p q x y hpq hx hy => ?_) (h3.mono (fun g _ ⟨n, hg⟩ => ⟨i, mb', n, by simp [lookL], hg⟩))
    · obtain ⟨rfl, rfl⟩ := hp m z hz; exact h2
    · obtain ⟨rfl, rfl⟩ := hp m z hz; simp [lookL] at hn
    · obtain ⟨rfl, _⟩ := hp p x hx; obtain ⟨rfl, _⟩ := hp q y hy; exact (hpq rfl).elim
theorem cells_one {v : Value} (h : v.oneCell' = true) : v.cells.toList = [v] := by cases v <;> first | rfl | cases h
theorem blk_setRow {w : World} {g : Nat} {ty : TypeId} {arr : Array Value} (h : Bk w g ty arr) (l : List Value) (hs : l.toArray.size = arr.size) : Bk (w.setRow g l.toArray) g ty l.toArray := h.row _ hs
theorem ok_store {T : TypeId} {x y : Operand} (ho : o.op = .store T x y) (htg : ptrsOf [opnd E gs x, opnd E gs y] = tg) (h : evStore E.P T [opnd E gs x, opnd E gs y] (tg.map gm) = some r) (hobl : allP r.obl) : OpOK E o gs gm base { r with base := base, tg := tg } := by
  have hx : x ∈ o.op.operands := by simp [ho, Op.operands]
  have hy : y ∈ o.op.operands := by simp [ho, Op.operands]
  have FIX : ∀ {i b : Nat} {k : Option Nat} {ty : TypeId} {s s' : List Seg} {obl : List Prop}, opnd E gs x = some (.o (.c (.ptr i b k))) → tg = [i] → gm i = some (.fix ty s) →
      (∀ cx β a w, Pre E cx β o gs gm base tg a w → ∃ vs, (a.eval y).cells.toList = vs ∧ sizeT E.P T = some vs.length ∧ (∀ u ∈ vs, u.oneCell' = true) ∧ ∀ l, DL cx β s l → b + kz k + vs.length ≤ l.length ∧ DL cx β s' (lay l (b + kz k) vs)) →
      OpOK E o gs gm base ⟨vv undef, base, [], [(i, .fix ty s')], tg, obl⟩ := by
    intro i b k ty s s' obl h1 ht hm hv
    refine okWr (by rw [ht]; simp) hm rfl fun cx β a w hp => ?_
    obtain ⟨g, n, e1, e2⟩ := (hp.ops x hx _ h1).1
    obtain ⟨g', n', arr, f1, f2, f3, f4, f5⟩ := (hp.obj i (by rw [ht]; simp) _ hm).1
    rw [e1] at f1; cases f1
    obtain ⟨vs, q1, q2, q3, q4⟩ := hv cx β a w hp
    obtain ⟨q5, q6⟩ := q4 _ f5
    rw [Array.length_toList] at q5
    have hsz : (lay arr.toList (b + kz k) vs).toArray.size = arr.size := by
      rw [List.size_toArray, lay_length _ _ _ (by rw [Array.length_toList]; exact q5), Array.length_toList]
    exact ⟨_, run_storeAny ho e2 rfl q1 q2 f3 q5 q3, ⟨g, n, _, e1, f2, blk_setRow f3 _ hsz, hsz.trans f4, by simpa using q6⟩, (Upd.refl _ w).row _ (fun _ => ⟨n, e1⟩)⟩
  have GROW : ∀ {i b : Nat} {k : Option Nat} {ty : TypeId} {es : Nat} {q q' : L} {m : Nat} {obl : List Prop}, opnd E gs x = some (.o (.c (.ptr i b k))) → tg = [i] → gm i = some (.grow ty es q) →
      (∀ cx β a w, Pre E cx β o gs gm base tg a w → ∃ vs, (a.eval y).cells.toList = vs ∧ 0 < vs.length ∧ sizeT E.P T = some vs.length ∧ (∀ u ∈ vs, u.oneCell' = true) ∧ ∀ l, DL cx β [.many q.len q] l → b + kz k + vs.length ≤ l.length ∧ DL cx β [.many m q'] (lay l (b + kz k) vs)) →
      OpOK E o gs gm base ⟨vv undef, base, [], [(i, .grow ty es q')], tg, obl⟩ := by
    intro i b k ty es q q' m obl h1 ht hm hv
    refine okWr (by rw [ht]; simp) hm rfl fun cx β a w hp => ?_
    obtain ⟨g, n, e1, e2⟩ := (hp.ops x hx _ h1).1
    obtain ⟨vs, q1, q0, q2, q3, q4⟩ := hv cx β a w hp
    rcases (hp.obj i (by rw [ht]; simp) _ hm).1 with ⟨f1, _⟩ | ⟨g', n', arr, f1, f2, f3, f4, f5, f6, f7⟩
    · rw [e1] at f1; cases f1
    · rw [e1] at f1; cases f1
      have hql := L.len_c q
      obtain ⟨q5, l2, q6, q7, q8, q9⟩ := q4 q.c ⟨[], by simp, rfl, f7, rfl⟩
      have q9' : l2 = [] := q9
      subst q9'
      rw [List.append_nil] at q6
      have hq'l := L.len_c q'
      have hlen : q'.len = q.len := by rw [← hq'l, ← q6, lay_length _ _ _ q5, hql]
      have hsz : (lay arr.toList (b + kz k) vs).toArray.size = arr.size := by
        rw [List.size_toArray, lay_length _ _ _ (by have := Array.length_toList (xs := arr); omega), Array.length_toList]
      refine ⟨_, run_storeAny ho e2 rfl q1 q2 f3 (by omega) q3, .inr ⟨g, n, _, e1, f2, blk_setRow f3 _ hsz, hsz.trans f4, by omega, ?_, q8⟩, (Upd.refl _ w).row _ (fun _ => ⟨n, e1⟩)⟩
      · simp only []
        have hsplit : arr.toList = q.c ++ arr.toList.drop q.len := by rw [← f6, List.take_append_drop]
        rw [hsplit, lay_append_left _ _ _ _ q5, hlen, List.take_append_of_le_length (by rw [lay_length _ _ _ q5]; omega), List.take_of_length_le (by rw [lay_length _ _ _ q5]; omega), q6]
  unfold evStore at h
  split at h
  · rename_i i b k c ty s he hm
    simp only [List.cons.injEq, and_true] at he
    obtain ⟨h1, h2⟩ := he
    rw [h1] at htg
    have ht : tg = [i] := htg.symm
    rw [ht] at hm
    simp only [List.map_cons, List.map_nil, List.cons.injEq, and_true] at hm
    split at h
    · rename_i hn
      cases hc : setCell s b k c with
      | none => rw [hc] at h; cases h
      | some p =>
        obtain ⟨s', obl⟩ := p
        rw [hc] at h; cases h
        rw [allP_append] at hobl
        refine FIX h1 ht hm fun cx β a w hp => ?_
        have d := (hp.ops y hy _ h2).1
        have o1 := oneC_ok hobl.2 d
        refine ⟨[a.eval y], cells_one o1, hn, fun u hu => by rw [List.mem_singleton.1 hu]; exact o1, fun l hl => ?_⟩
        obtain ⟨e1, e2⟩ := setCell_ok hc hobl.1 d o1 hl
        exact ⟨by simp; omega, by rw [lay_one _ _ _ e1]; exact e2⟩
    · cases h
  · rename_i i b k t ty s he hm
    simp only [List.cons.injEq, and_true] at he
    obtain ⟨h1, h2⟩ := he
    rw [h1] at htg
    have ht : tg = [i] := htg.symm
    rw [ht] at hm
    simp only [List.map_cons, List.map_nil, List.cons.injEq, and_true] at hm
    split at h
    · rename_i n hn
      cases hb : Nat.beq (segsLen t) n with
      | false => rw [hb] at h; cases h
      | true =>
        rw [hb, cond_true] at h
        have hbn := Nat.eq_of_beq_eq_true hb
        cases hc : setPart s b k t with
        | none => rw [hc] at h; cases h
        | some p =>
          obtain ⟨s', obl⟩ := p
          rw [hc] at h; cases h
          rw [allP_append] at hobl
          refine FIX h1 ht hm fun cx β a w hp => ?_
          obtain ⟨arr, d1, d2⟩ := (hp.ops y hy _ h2).1
          refine ⟨arr.toList, by rw [d1]; rfl, by rw [DL_len d2, hbn]; exact hn, DL_one d2, fun l hl => setPart_ok hc hobl.1 d2 hl⟩
    · cases h
  · rename_i i b k c ty es q he hm
    simp only [List.cons.injEq, and_true] at he
    obtain ⟨h1, h2⟩ := he
    rw [h1] at htg
    have ht : tg = [i] := htg.symm
    rw [ht] at hm
    simp only [List.map_cons, List.map_nil, List.cons.injEq, and_true] at hm
    split at h
    · rename_i hn
      cases hc : setCell [.many q.len q] b k c with
      | none => rw [hc] at h; cases h
      | some p =>
        obtain ⟨s', obl⟩ := p
        rw [hc] at h; cases h
        rw [allP_append] at hobl
        have hs' : ∃ m q', s' = [.many m q'] := by
          cases b with
          | zero =>
            cases c with
            | v y =>
              simp only [setCell] at hc
              split at hc
              · cases hc; exact ⟨_, _, rfl⟩
              · cases hc
            | _ => cases hc
          | succ b =>
            simp only [setCell] at hc
            cases hb : Nat.blt (b + 1) q.len with
            | true =>
              rw [hb, cond_true] at hc
              split at hc
              · split at hc
                · cases hc; exact ⟨_, _, rfl⟩
                · cases hc
              · cases hc
            | false => rw [hb] at hc; cases hc
        obtain ⟨m, q', rfl⟩ := hs'
        refine GROW h1 ht hm (m := m) fun cx β a w hp => ?_
        have d := (hp.ops y hy _ h2).1
        have o1 := oneC_ok hobl.2 d
        refine ⟨[a.eval y], cells_one o1, by simp, hn, fun u hu => by rw [List.mem_singleton.1 hu]; exact o1, fun l hl => ?_⟩
        obtain ⟨e1, e2⟩ := setCell_ok hc hobl.1 d o1 hl
        exact ⟨by simp; omega, by rw [lay_one _ _ _ e1]; exact e2⟩
    · cases h
  · rename_i i k t ty es q he hm
    simp only [List.cons.injEq, and_true] at he
    obtain ⟨h1, h2⟩ := he
    rw [h1] at htg
    have ht : tg = [i] := htg.symm
    rw [ht] at hm
    simp only [List.map_cons, List.map_nil, List.cons.injEq, and_true] at hm
    split at h
    · rename_i n hn
      cases hb : Nat.beq (segsLen t) n with
      | false => rw [hb] at h; cases h
      | true =>
        rw [hb, cond_true] at h
        have hbn := Nat.eq_of_beq_eq_true hb
        cases hc : setPart [.many q.len q] 0 (some k) t with
        | none => rw [hc] at h; cases h
        | some p =>
          obtain ⟨s', obl⟩ := p
          rw [hc] at h; cases h
          rw [allP_append] at hobl
          have hs' : ∃ m q', s' = [.many m q'] ∧ ∃ n z, t = [.many n z] := by
            match t, hc with
            | [.many n z], hc =>
              simp only [setPart] at hc
              split at hc
              · cases hc; exact ⟨_, _, rfl, _, _, rfl⟩
              · cases hc
          obtain ⟨m, q', rfl, n', z, rfl⟩ := hs'
          by_cases h0 : 0 < n
          · refine GROW h1 ht hm (m := m) fun cx β a w hp => ?_
            obtain ⟨arr, d1, d2⟩ := (hp.ops y hy _ h2).1
            refine ⟨arr.toList, by rw [d1]; rfl, by rw [DL_len d2, hbn]; exact h0, by rw [DL_len d2, hbn]; exact hn, DL_one d2, fun l hl => setPart_ok hc hobl.1 d2 hl⟩
          · refine okWr (by rw [ht]; simp) hm rfl fun cx β a w hp => ?_
            obtain ⟨g, n2, e1, e2⟩ := (hp.ops x hx _ h1).1
            obtain ⟨arr, d1, d2⟩ := (hp.ops y hy _ h2).1
            have hz : arr.toList = [] := List.eq_nil_of_length_eq_zero (by rw [DL_len d2, hbn]; omega)
            rcases (hp.obj i (by rw [ht]; simp) _ hm).1 with ⟨f1, _⟩ | ⟨g', n', ar, f1, f2, f3, f4, f5, f6, f7⟩
            · rw [e1] at f1; cases f1
            · rw [e1] at f1; cases f1
              have hql := L.len_c q
              obtain ⟨q5, l2, q6, q7, q8, q9⟩ := setPart_ok hc hobl.1 d2 (l := q.c) ⟨[], by simp, rfl, f7, rfl⟩
              have q9' : l2 = [] := q9
              subst q9'
              rw [List.append_nil] at q6
              have hq'l := L.len_c q'
              have hlen : q'.len = q.len := by rw [← hq'l, ← q6, lay_length _ _ _ q5, hql]
              have he0 : lay q.c (0 + kz (some k)) arr.toList = q.c := by rw [hz]; simp [lay]
              refine ⟨_, run_storeAny ho e2 rfl (by rw [d1]; rfl) (by rw [DL_len d2, hbn]; exact hn) f3 (by rw [hz] at q5 ⊢; simp at q5 ⊢; omega) (DL_one d2), .inr ⟨g, n2, _, e1, f2, blk_setRow f3 _ ?_, ?_, by omega, ?_, q8⟩, (Upd.refl _ w).row _ (fun _ => ⟨n2, e1⟩)⟩
              · rw [hz]; simp [lay]
              · rw [hz]; simp [lay, f4]
              · rw [hz, hlen, ← q6, he0]; simpa [lay] using f6
    · cases h
  · cases h
end
end Go.Proofs.Ythlleheeghiljaa
