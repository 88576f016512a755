/-
  What the rows' readings give: tables of structs. For any program.
-/
import Derived.Test.YthhjcpiaoempfaaDoorOy
namespace Go.Proofs.YthhjcpiaoempfaaDoor
open Go.RowKit Go.ChangeShapes Go.WideShapes Go.ChangeAt

def chunksB : Nat → List (Nat × Nat) → Nat → Bool
  | a, [], n => Nat.beq a n
  | a, (o, s) :: r, n => Nat.beq o a && chunksB (a + s) r n
def cutsAt (cs : List Value) : List (Nat × Nat) → List (List Value) → Prop
  | [], [] => True
  | (o, s) :: r, v :: vs => (cs.drop o).take s = v ∧ cutsAt cs r vs
  | _, _ => False
theorem chunks_flat {cs : List Value} {n : Nat} (hn : cs.length = n) : ∀ {l : List (Nat × Nat)} {a : Nat} {vss : List (List Value)}, chunksB a l n = true → cutsAt cs l vss → cs.drop a = vss.flatten
  | [], a, [], h, _ => by
    have := Nat.eq_of_beq_eq_true h
    rw [List.drop_of_length_le (by omega)]; rfl
  | (o, s) :: r, a, v :: vs, h, hc => by
    rw [chunksB, Bool.and_eq_true] at h
    obtain rfl := Nat.eq_of_beq_eq_true h.1
    have ih := chunks_flat hn h.2 hc.2
    rw [List.flatten_cons, ← ih, ← hc.1, ← List.drop_drop, List.take_append_drop]
  | [], _, _ :: _, _, h => h.elim
  | _ :: _, _, [], _, h => h.elim
/-- The cells of data that are numbers and bools in arrays and structs. -/
def flatD {H : Type} (P : Program) : Nat → TypeId → DataW H → Option (List Value)
  | 0, _, _ => none
  | f + 1, T, d => match P.underlying T, d with
    | some (.int k), .lit (.int k' z) => cond (kindB k k') (some [.int k z]) none
    | some .bool, .lit (.bool b) => some [.bool b]
    | some (.array m e), .agg ds => cond (Nat.beq ds.length m && chunksB 0 ((List.range m).map fun i => (i * P.cellsOf e, P.cellsOf e)) (P.cellsOf T)) ((ds.mapM fun d => flatD P f e d).map List.flatten) none
    | some (.struct fs), .agg ds => cond (Nat.beq ds.length fs.toList.length && chunksB 0 (fs.toList.map fun g => (g.offset, P.cellsOf g.type)) (P.cellsOf T)) (((fs.toList.zip ds).mapM fun x => flatD P f x.1.type x.2).map List.flatten) none
    | _, _ => none
theorem cuts_of {H : Type} {α : Type} {cs : List Value} {g : α → Nat × Nat} {rd : α → Option (DataW H × List MemPlace)} {fl : α → DataW H → Option (List Value)} (hr : ∀ (x : α) (d : DataW H) (p : List MemPlace) (v : List Value), rd x = some (d, p) → fl x d = some v → (cs.drop (g x).1).take (g x).2 = v) :
    ∀ {l : List α} {xs : List (DataW H × List MemPlace)} {vss : List (List Value)}, l.mapM rd = some xs → (l.zip (xs.map (·.1))).mapM (fun x => fl x.1 x.2) = some vss → cutsAt cs (l.map g) vss
  | [], xs, vss, h1, h2 => by
    simp at h1; subst h1
    simp at h2; subst h2
    trivial
  | x :: l, xs, vss, h1, h2 => by
    simp only [List.mapM_cons, Option.bind_eq_bind, Option.bind_eq_some_iff, Option.pure_def, Option.some.injEq] at h1
    obtain ⟨⟨d, p⟩, e1, ys, e2, rfl⟩ := h1
    simp only [List.map_cons, List.zip_cons_cons, List.mapM_cons, Option.bind_eq_bind, Option.bind_eq_some_iff, Option.pure_def, Option.some.injEq] at h2
    obtain ⟨v, e3, vs, e4, rfl⟩ := h2
    exact ⟨hr x d p v e1 e3, cuts_of hr e2 e4⟩
theorem zip_mapM {H : Type} {fl : DataW H → Option (List Value)} : ∀ {m : Nat} {l : List Nat} {ds : List (DataW H)}, l.length = m → ds.length = m → (l.zip ds).mapM (fun x => fl x.2) = ds.mapM fl
  | 0, [], [], _, _ => rfl
  | m + 1, _ :: l, d :: ds, h1, h2 => by
    simp only [List.zip_cons_cons, List.mapM_cons]
    rw [zip_mapM (m := m) (by simpa using h1) (by simpa using h2)]
  | 0, _ :: _, _, h, _ => by simp at h
  | 0, [], _ :: _, _, h => by simp at h
  | _ + 1, [], _, h, _ => by simp at h
  | _ + 1, _ :: _, [], _, h => by simp at h
theorem cells_of_data {H : Type} {enc : TypeId × Value → H} {P : Program} {w : World} {base : Nat} {sp : Nat → Bool} {held : Bool} : ∀ (n fuel : Nat) {t : TypeId} {cs : List Value} {d : DataW H} {p : List MemPlace} {vs : List Value}, DataW.trod enc P w base sp held fuel t cs = some (d, p) → flatD P n t d = some vs → cs = vs
  | 0, _, _, _, _, _, _, _, h => by cases h
  | n + 1, 0, _, _, _, _, _, h, _ => by simp [DataW.trod] at h
  | n + 1, fuel + 1, t, cs, d, p, vs, h, hf => by
    unfold flatD at hf
    split at hf
    · rename_i k k' z hu
      cases hk : kindB k k' with
      | false => rw [hk] at hf; cases hf
      | true =>
        rw [hk] at hf
        cases hf
        obtain ⟨m, e1, e2, _⟩ := DataW.trod_int hu h
        cases e2
        exact e1
    · rename_i b hu
      cases hf
      obtain ⟨b', e1, e2⟩ := DataW.trod_bool hu h
      cases e2
      exact e1
    · rename_i m e ds hu
      cases hb : (Nat.beq ds.length m && chunksB 0 ((List.range m).map fun i => (i * P.cellsOf e, P.cellsOf e)) (P.cellsOf t)) with
      | false => rw [hb] at hf; cases hf
      | true =>
        rw [hb, cond_true] at hf
        rw [Bool.and_eq_true] at hb
        obtain ⟨vss, h1, rfl⟩ := Option.map_eq_some_iff.1 hf
        have hlen := Nat.eq_of_beq_eq_true hb.1
        rw [DataW.trod_step] at h
        unfold DataW.trodStep at h
        simp only [hu] at h
        split at h
        · rename_i hl
          obtain ⟨xs, hm, hx⟩ := Option.map_eq_some_iff.1 h
          have hds : xs.map (·.1) = ds := by
            have := congrArg Prod.fst hx
            simpa using this
          have := chunks_flat hl hb.2 (cuts_of (g := fun i => (i * P.cellsOf e, P.cellsOf e)) (fl := fun _ d => flatD P n e d) (fun x d p v e1 e2 => cells_of_data n fuel e1 e2) hm (by rw [hds, zip_mapM (fl := fun d => flatD P n e d) (m := m) (by simp) hlen]; exact h1))
          simpa using this
        · cases h
    · rename_i fs ds hu
      cases hb : (Nat.beq ds.length fs.toList.length && chunksB 0 (fs.toList.map fun g => (g.offset, P.cellsOf g.type)) (P.cellsOf t)) with
      | false => rw [hb] at hf; cases hf
      | true =>
        rw [hb, cond_true] at hf
        rw [Bool.and_eq_true] at hb
        obtain ⟨vss, h1, rfl⟩ := Option.map_eq_some_iff.1 hf
        rw [DataW.trod_step] at h
        unfold DataW.trodStep at h
        simp only [hu] at h
        split at h
        · rename_i hl
          obtain ⟨xs, hm, hx⟩ := Option.map_eq_some_iff.1 h
          have hds : xs.map (·.1) = ds := by
            have := congrArg Prod.fst hx
            simpa using this
          have := chunks_flat hl hb.2 (cuts_of (g := fun (f : Field) => (f.offset, P.cellsOf f.type)) (fl := fun (f : Field) d => flatD P n f.type d) (fun x d p v e1 e2 => cells_of_data n fuel e1 e2) hm (by rw [hds]; exact h1))
          simpa using this
        · cases h
    · cases hf
/-- A listed variable lies there as its data say. -/
theorem lies_of_head {P : Program} {W : World} {gl : List (Nat × L)} {name : String} {d : DataW Unit} {rest : List (String × DataW Unit)} {g n : Nat} {t : TypeId} {l : L} (hg : P.globalNamed name = some g) (hty : (P.globals[g]?).map (·.type) = some t)
    (hf : flatD P n t d = some l.c) (h1 : l.c.all (·.oneCell') = true) (hpos : 0 < l.c.length) (h : laidMet P ((name, d) :: rest) W) : Lies (cxL W gl) g 0 l := by
  obtain ⟨ps, ⟨g', t', cs, fuel, p, q, hg', ht', hvar, hd, _, _⟩, _⟩ := h
  obtain rfl := Option.some.inj (hg.symm.trans hg')
  obtain rfl := Option.some.inj (hty.symm.trans ht')
  have hcs := cells_of_data n fuel hd hf
  have hcell : ∀ j, W.cell? ⟨g, j, none⟩ = cs[j]? := fun j => World.var?_cell hg hvar j
  have hv : ∀ j, W.cell? ⟨g, j, none⟩ = l.c[j]? := fun j => by rw [hcell j, ← hcs, Array.getElem?_toList]
  refine ⟨?_, fun h => h, fun x hx => List.all_eq_true.1 h1 x hx, fun j _ => by show W.cell? ⟨g, 0 + j, none⟩ = _; rw [Nat.zero_add]; exact hv j⟩
  have := hv 0
  rw [List.getElem?_eq_getElem hpos] at this
  exact block_lt_of_cell this
end Go.Proofs.YthhjcpiaoempfaaDoor
