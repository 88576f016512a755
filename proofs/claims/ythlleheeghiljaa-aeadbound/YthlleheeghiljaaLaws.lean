/-
  Laws of the walk over a block known whole: load and store of an array or struct, copy. For any program.
-/
import Derived.Test.YthlleheeghiljaaMem
import Derived.Laws.CopyRow
import Derived.Laws.CopyOwn
import Derived.Deep.OwnRows
namespace Go.Proofs.Ythlleheeghiljaa
open Go.RowKit

/-- The cells cur with the cells vs laid over them from o on. -/
def splice (cur : Array Value) (o : Nat) (vs : List Value) : Array Value := (cur.toList.take o ++ vs ++ cur.toList.drop (o + vs.length)).toArray
theorem splice_get (cur : Array Value) (o : Nat) (vs : List Value) (h : o + vs.length ≤ cur.size) (j : Nat) :
    (splice cur o vs)[j]? = if o ≤ j ∧ j < o + vs.length then vs[j - o]? else cur[j]? := by
  unfold splice
  have hl : o ≤ cur.toList.length := by simp; omega
  rw [List.getElem?_toArray, List.getElem?_append, List.getElem?_append]
  simp only [List.length_append, List.length_take, Nat.min_eq_left hl, List.getElem?_take, List.getElem?_drop, Array.getElem?_toList]
  by_cases h1 : j < o
  · rw [if_neg (show ¬ (o ≤ j ∧ j < o + vs.length) by omega), if_pos (by omega), if_pos (by omega), if_pos h1]
  · by_cases h2 : j < o + vs.length
    · rw [if_pos (show o ≤ j ∧ j < o + vs.length by omega), if_pos h2, if_neg h1]
    · rw [if_neg (show ¬ (o ≤ j ∧ j < o + vs.length) by omega), if_neg h2, show o + vs.length + (j - (o + vs.length)) = j from by omega]
theorem splice_size (cur : Array Value) (o : Nat) (vs : List Value) (h : o + vs.length ≤ cur.size) : (splice cur o vs).size = cur.size := by
  simp [splice]; omega

theorem Blk.row {w : World} {b : Nat} {t : TypeId} {arr : Array Value} (h : Blk w b t arr) (arr' : Array Value) : Blk (w.setRow b arr') b t arr' := setRow_heap w b arr arr' t (0, 0) h
theorem Blk.rowOther {w : World} {b : Nat} {t : TypeId} {arr : Array Value} (h : Blk w b t arr) {c : Nat} (hc : b ≠ c) (arr' : Array Value) : Blk (w.setRow c arr') b t arr := (setRow_other w c b arr' hc).trans h
theorem Upd.row {S : Nat → Prop} {a w : World} (h : Upd S a w) {b : Nat} (arr : Array Value) (hp : b < a.heap.size → S b) : Upd S a (w.setRow b arr) :=
  ⟨h.os, h.tape, h.output, by simpa using h.size, fun k hk hs => (setRow_other w b k arr (fun e => hs (e ▸ hp (e ▸ hk)))).trans (h.block k hk hs)⟩

section
variable {P : Program}
theorem run_loadVar_blk (w : World) (g off n : Nat) (t ty : TypeId) (cs : Array Value) (d : TypeDesc) (hg : Blk w g t cs)
    (hu : P.underlying ty = some d) (hd : (match d with | .struct _ | .array _ _ => true | _ => false) = true) (hi : (P.info? ty).map (·.size) = some n) (hn : off + n ≤ cs.size) :
    (loadVar ty ⟨g, off, none⟩).run P w = .ok (.agg (cs.extract off (off + n))) w := by
  have hlen : ((cs.extract off (off + n)).toList).length = n := by simp; omega
  have hl := run_loadCells_list (P := P) w ⟨g, off, none⟩ (cs.extract off (off + n)).toList (fun j v hv => by
      have hadd : (⟨g, off, none⟩ : Addr).add j = ⟨g, off + j, none⟩ := by unfold Addr.add; split <;> simp_all
      rw [hadd, hg.cell]
      have hj : j < n := by
        have := (List.getElem?_eq_some_iff.1 hv).1
        omega
      rw [← hv, Array.getElem?_toList, Array.getElem?_extract_of_lt (by omega)]
      exact Array.getElem?_eq_getElem _)
  rw [hlen] at hl
  cases hq : P.info? ty with
  | none => simp [hq] at hi
  | some i =>
    have hs : i.size = n := by simpa [hq] using hi
    have hagg : (isAgg ty).run P w = .ok true w := by
      unfold isAgg
      rw [Sem.run_bind, run_underlying hu w]
      cases d <;> simp_all
    simp only [Array.toArray_toList] at hl
    simp [loadVar, Sem.run_bind, hagg, sizeOf, typeInfo, hq, hs, hl]

theorem wpList_loadBlk {ops : Array Oper} {rest : List Oper} {o : Oper} {a : Act} {w : World} {Q : Exit → Act → World → Prop} (hgd : o.guard = none) (ty : TypeId) (x : Operand) (ho : o.op = .load ty x)
    (g off n : Nat) (hx : a.eval x = .pointer (some ⟨g, off, none⟩)) (t : TypeId) (cs : Array Value) (d : TypeDesc) (hg : Blk w g t cs)
    (hu : P.underlying ty = some d) (hd : (match d with | .struct _ | .array _ _ => true | _ => false) = true) (hi : (P.info? ty).map (·.size) = some n) (hn : off + n ≤ cs.size)
    (h : wpList P ops Q rest (a.put o.dst (.agg (cs.extract off (off + n)))) w) : wpList P ops Q (o :: rest) a w :=
  wpList_plain hgd fun _ hK => by
    unfold Oper.wp execOp
    simp only [ho, hx, Instr.loadAt, Instr.sureAddr, Sem.run_bind, Sem.run_pure, Result.andThen_ok, run_loadVar_blk w g off n t ty cs d hg hu hd hi hn]
    exact hK _ _ h

theorem run_storeVar_blk (w : World) (g off : Nat) (t ty : TypeId) (cs vs : Array Value) (hg : Blk w g t cs)
    (hi : (P.info? ty).map (·.size) = some vs.size) (hn : off + vs.size ≤ cs.size) (h1 : ∀ v ∈ vs.toList, v.oneCell' = true) :
    (storeVar ty ⟨g, off, none⟩ (.agg vs)).run P w = .ok () (w.setRow g (splice cs off vs.toList)) := by
  have hst := run_storeCells_at P g off t vs.toList 0 cs w hg (by simpa using hn) h1
  cases hq : P.info? ty with
  | none => simp [hq] at hi
  | some i =>
    have hs : i.size = vs.size := by simpa [hq] using hi
    simp [storeVar, Sem.run_bind, sizeOf, typeInfo, hq, hs, Value.cells, hst, splice]

theorem wpList_storeBlk {ops : Array Oper} {rest : List Oper} {o : Oper} {a : Act} {w : World} {Q : Exit → Act → World → Prop} (hgd : o.guard = none) (ty : TypeId) (x y : Operand) (ho : o.op = .store ty x y)
    (g off n : Nat) (hx : a.eval x = .pointer (some ⟨g, off, none⟩)) (vs : Array Value) (hy : a.eval y = .agg vs) (t : TypeId) (cs : Array Value) (hg : Blk w g t cs)
    (hi : (P.info? ty).map (·.size) = some n) (hv : vs.size = n) (hn : off + n ≤ cs.size) (h1 : ∀ v ∈ vs.toList, v.oneCell' = true)
    (h : wpList P ops Q rest (a.put o.dst undef) (w.setRow g (splice cs off vs.toList))) : wpList P ops Q (o :: rest) a w :=
  wpList_plain hgd fun _ hK => by
    unfold Oper.wp execOp
    simp only [ho, hx, hy, Instr.storeAt, Instr.sureAddr, Sem.run_bind, Sem.run_pure, Result.andThen_ok, run_storeVar_blk w g off t ty cs vs hg (hv ▸ hi) (hv ▸ hn) h1]
    exact hK _ _ h

theorem wpList_storeBlk2 {ops : Array Oper} {rest : List Oper} {o : Oper} {a : Act} {w : World} {Q : Exit → Act → World → Prop} (hgd : o.guard = none) (ty : TypeId) (x y : Operand) (ho : o.op = .store ty x y)
    (g off n : Nat) (hx : a.eval x = .pointer (some ⟨g, off, none⟩)) (vs : Array Value) (hy : a.eval y = .agg vs) (t : TypeId) (cs : Array Value) (hg : Blk w g t cs)
    (hi : (P.info? ty).map (·.size) = some n) (hv : vs.size = n) (hn : off + n ≤ cs.size) (h1 : ∀ v ∈ vs.toList, v.oneCell' = true)
    (h : ∀ w', Blk w' g t (splice cs off vs.toList) → Upd (· = g) w w' → w'.heap.size = w.heap.size → wpList P ops Q rest (a.put o.dst undef) w') : wpList P ops Q (o :: rest) a w :=
  wpList_storeBlk hgd ty x y ho g off n hx vs hy t cs hg hi hv hn h1 (h _ (hg.row _) ((Upd.refl _ w).row _ (fun _ => rfl)) (by simp))

/-- copy into a block known whole, from whatever. -/
theorem wpList_copyBlk {ops : Array Oper} {rest : List Oper} {o : Oper} {a : Act} {w : World} {Q : Exit → Act → World → Prop} (hgd : o.guard = none) (d s : Operand) (dT sT : TypeId)
    (ho : o.op = .call { callee := .builtin .copy, args := #[d, s], argTypes := #[dT, sT] }) (elem : TypeId) (hu : P.underlying dT = some (.slice elem)) (hsz : (P.info? elem).map (·.size) = some 1)
    (g off dLen dCap : Nat) (sp : Option Addr) (sLen sCap : Nat) (hd : a.eval d = .slice (some ⟨g, off, none⟩) dLen dCap) (hs : a.eval s = .slice sp sLen sCap)
    (t : TypeId) (cur : Array Value) (hg : Blk w g t cur) (n : Nat) (cs : List Value) (hcs : cs.length = n) (hn : n = Nat.min sLen dLen)
    (hpos : 0 < n → ∃ ad, sp = some ad ∧ ∀ j v, cs[j]? = some v → w.cell? (ad.add j) = some v)
    (hfit : off + n ≤ cur.size) (h1 : ∀ v ∈ cs, v.oneCell' = true)
    (h : ∀ w', Blk w' g t (splice cur off cs) → Upd (· = g) w w' → w'.heap.size = w.heap.size → wpList P ops Q rest (a.put o.dst (.int .i64 n)) w') :
    wpList P ops Q (o :: rest) a w := by
  by_cases h0 : n = 0
  · subst h0
    obtain rfl : cs = [] := List.eq_nil_of_length_eq_zero hcs
    refine wpList_copy_nothing hgd d s dT sT ho elem hu hsz _ sp dLen dCap sLen sCap hd hs hn.symm ?_
    exact h w (by simpa [splice, Blk] using hg) (Upd.refl _ w) rfl
  · obtain ⟨ad, rfl, hsrc⟩ := hpos (by omega)
    subst hcs
    refine wpList_copy_own hgd d s dT sT ho elem hu hsz g off dLen dCap ad sLen sCap hd hs cur t hg cs hn hsrc hfit h1 ?_
    have e : (cur.toList.take off ++ (cs ++ cur.toList.drop (off + cs.length))).toArray = splice cur off cs := by unfold splice; rw [List.append_assoc]
    rw [e]
    exact h _ (hg.row _) ((Upd.refl _ w).row _ (fun _ => rfl)) (by simp)

theorem madeCells_one (z : Value) (n : Nat) : madeCells #[z] n = Array.replicate n z := by
  apply Array.ext_getElem?
  intro j
  by_cases hj : j < n
  · rw [Array.getElem?_eq_getElem (by rw [size_madeCells]; exact hj)]
    simp [madeCells, hj, Nat.mod_one]
  · rw [Array.getElem?_eq_none (by rw [size_madeCells]; omega), Array.getElem?_eq_none (by simp; omega)]
/-- make([]T, n). -/
theorem wpList_makeBlk {ops : Array Oper} {rest : List Oper} {o : Oper} {a : Act} {w : World} {Q : Exit → Act → World → Prop} (hgd : o.guard = none) (l c : Operand) (t : TypeId) (hop : o.op = .makeSlice t l c)
    (e : TypeId) (z : Value) (bytes : Nat) (ht : P.underlying t = some (.slice e)) (hinfo : (P.info? e).map (fun i => (i.zero, i.size, i.bytes)) = some (some z, 1, bytes)) (hz1 : z.cells = #[z])
    (kl kc : IntKind) (L C : Int) (n : Nat) (hl : a.eval l = .int kl L) (hc : a.eval c = .int kc C) (hL : L = (n : Int)) (hC : C = (n : Int)) (hbytes : bytes * n ≤ 281474976710656) (h63 : n ≤ 9223372036854775807)
    (h : ∀ w', Blk w' w.heap.size e (Array.replicate n z) → Upd (fun _ => False) w w' → w'.heap.size = w.heap.size + 1 → wpList P ops Q rest (a.put o.dst (.slice (some ⟨w.heap.size, 0, none⟩) n n)) w') :
    wpList P ops Q (o :: rest) a w := by
  refine wpList_plain hgd fun K hK' => ?_
  have hrun := run_make_row' (P := P) t e z bytes ht hinfo hz1 kl kc n hbytes h63 w
  rw [madeCells_one] at hrun
  subst hL
  subst hC
  unfold Oper.wp
  simp [execOp, hop, hl, hc, hrun, Result.andThen]
  exact hK' _ _ (h _ (Blk.new w _ e) ((Upd.refl _ w).alloc _) (by simp))

/-- A load of an array or struct, as one step of a region that draws its order. -/
theorem step_loadBlk {ops : Array Oper} {o : Oper} {a : Act} {w : World} {K : Act → World → Prop} {Q : Exit → Act → World → Prop} {E : Prop} (hgd : o.guard = none) (ty : TypeId) (x : Operand) (ho : o.op = .load ty x)
    (g off n : Nat) (hx : a.eval x = .pointer (some ⟨g, off, none⟩)) (t : TypeId) (cs : Array Value) (d : TypeDesc) (hg : Blk w g t cs)
    (hu : P.underlying ty = some d) (hd : (match d with | .struct _ | .array _ _ => true | _ => false) = true) (hi : (P.info? ty).map (·.size) = some n) (hn : off + n ≤ cs.size)
    (h : K (a.put o.dst (.agg (cs.extract off (off + n)))) w) : if Region.wanted o (yielded ops a.tmps) = true then Oper.wp P o a w K Q else E := by
  have hw : Region.wanted o (yielded ops a.tmps) = true := by simp [Region.wanted, hgd]
  rw [if_pos hw]
  unfold Oper.wp execOp
  simp only [ho, hx, Instr.loadAt, Instr.sureAddr, Sem.run_bind, Sem.run_pure, Result.andThen_ok, run_loadVar_blk w g off n t ty cs d hg hu hd hi hn]
  exact h
theorem step_storeBlk2 {ops : Array Oper} {o : Oper} {a : Act} {w : World} {K : Act → World → Prop} {Q : Exit → Act → World → Prop} {E : Prop} (hgd : o.guard = none) (ty : TypeId) (x y : Operand) (ho : o.op = .store ty x y)
    (g off n : Nat) (hx : a.eval x = .pointer (some ⟨g, off, none⟩)) (vs : Array Value) (hy : a.eval y = .agg vs) (t : TypeId) (cs : Array Value) (hg : Blk w g t cs)
    (hi : (P.info? ty).map (·.size) = some n) (hv : vs.size = n) (hn : off + n ≤ cs.size) (h1 : ∀ v ∈ vs.toList, v.oneCell' = true)
    (h : ∀ w', Blk w' g t (splice cs off vs.toList) → Upd (· = g) w w' → w'.heap.size = w.heap.size → K (a.put o.dst undef) w') : if Region.wanted o (yielded ops a.tmps) = true then Oper.wp P o a w K Q else E := by
  have hw : Region.wanted o (yielded ops a.tmps) = true := by simp [Region.wanted, hgd]
  rw [if_pos hw]
  unfold Oper.wp execOp
  simp only [ho, hx, hy, Instr.storeAt, Instr.sureAddr, Sem.run_bind, Sem.run_pure, Result.andThen_ok, run_storeVar_blk w g off t ty cs vs hg (hv ▸ hi) (hv ▸ hn) h1]
  exact h _ (hg.row _) ((Upd.refl _ w).row _ (fun _ => rfl)) (by simp)
theorem step_build {ops : Array Oper} {o : Oper} {a : Act} {w : World} {K : Act → World → Prop} {Q : Exit → Act → World → Prop} {E : Prop} (hgd : o.guard = none) (t : TypeId) (parts : Array (Nat × Operand)) (ho : o.op = .build t parts) (cells : Array Value) (ps : List (Nat × Value)) (hps : (parts.toList.map fun (i, x) => (i, a.eval x)) = ps)
    (hf : P.built t ps = some cells) (h : K (a.put o.dst (.agg cells)) w) : if Region.wanted o (yielded ops a.tmps) = true then Oper.wp P o a w K Q else E := by
  have hw : Region.wanted o (yielded ops a.tmps) = true := by simp [Region.wanted, hgd]
  rw [if_pos hw]
  rw [← Array.toList_map] at hps
  subst hps
  exact wp_build t parts ho (by rw [hf]; rfl) (by rw [hf]; exact h)

theorem splice_cons (cs : Array Value) (o : Nat) (c : Value) (l : List Value) (h : o + (l.length + 1) ≤ cs.size) : splice (cs.setIfInBounds o c) (o + 1) l = splice cs o (c :: l) := by
  apply Array.ext_getElem?
  intro j
  rw [splice_get _ _ _ (by simp; omega), splice_get _ _ _ (by simp; omega), Array.getElem?_setIfInBounds]
  simp only [List.length_cons]
  by_cases h1 : o + 1 ≤ j ∧ j < o + 1 + l.length
  · rw [if_pos h1, if_pos (by omega), show j - o = (j - (o + 1)) + 1 by omega, List.getElem?_cons_succ]
  · rw [if_neg h1]
    by_cases h2 : o = j
    · subst h2; rw [if_pos rfl, if_pos (by omega), if_pos (by omega), Nat.sub_self]; rfl
    · rw [if_neg h2, if_neg (by omega)]
theorem foldl_splice (off : Nat) : ∀ (l : List Value) (k : Nat) (cs : Array Value), off + k + l.length ≤ cs.size →
    (l.zipIdx k).foldl (fun cs (p : Value × Nat) => cs.setIfInBounds (off + p.2) p.1) cs = splice cs (off + k) l
  | [], k, cs, h => by simp [splice]
  | c :: l, k, cs, h => by
    rw [List.zipIdx_cons, List.foldl_cons, foldl_splice off l (k + 1) _ (by simp at h ⊢; omega), ← Nat.add_assoc, splice_cons _ _ _ _ (by simp at h; omega)]
theorem fill_agg (place : Nat → Option (Nat × Nat)) (cells : Array Value) (i off size : Nat) (v : Value) (rest : List (Nat × Value)) (hp : place i = some (off, size)) (hs : v.cells.size = size) (hf : off + size ≤ cells.size) :
    Instr.fill place cells ((i, v) :: rest) = Instr.fill place (splice cells off v.cells.toList) rest := by
  rw [Instr.fill, hp]
  simp only
  rw [if_neg (by simp [hs]; omega)]
  congr 1
  have := foldl_splice off v.cells.toList 0 cells (by simp [hs]; omega)
  rw [Nat.add_zero] at this
  rw [← this, ← Array.foldl_toList, Array.toList_zipIdx]

/-- A slice cut from an array. -/
theorem run_sliceArr (w : World) (t elem : TypeId) (n g off : Nat) (kl kh : IntKind) (l h : Nat) (hu : P.underlying t = some (.array n elem)) (hs : (P.info? elem).map (·.size) = some 1) (hl : l ≤ h) (hh : h ≤ n) (hln : l < n) :
    (Instr.sliceAt t (.pointer (some ⟨g, off, none⟩)) (some (.int kl l)) (some (.int kh h)) none).run P w = .ok (.slice (some ⟨g, off + l, none⟩) (h - l) (n - l)) w := by
  cases hq : P.info? elem with
  | none => simp [hq] at hs
  | some j =>
    have hj : j.size = 1 := by simpa [hq] using hs
    have hadd : (⟨g, off, none⟩ : Addr).add l = ⟨g, off + l, none⟩ := by unfold Addr.add; split <;> simp_all
    have h3 : ¬ n = l := by omega
    simp [Instr.sliceAt, run_underlying hu, Instr.sureAddr, Instr.sliceBounds, Instr.sliceBound, asIntOf, h3, sizeOf, typeInfo, hq, hj, hadd, hh, hl]

theorem run_sliceArrL (w : World) (t elem : TypeId) (n g off : Nat) (kl : IntKind) (l : Nat) (L : Int) (hL : L = (l : Int)) (hu : P.underlying t = some (.array n elem)) (hs : (P.info? elem).map (·.size) = some 1) (hln : l < n) :
    (Instr.sliceAt t (.pointer (some ⟨g, off, none⟩)) (some (.int kl L)) none none).run P w = .ok (.slice (some ⟨g, off + l, none⟩) (n - l) (n - l)) w := by
  subst hL
  cases hq : P.info? elem with
  | none => simp [hq] at hs
  | some j =>
    have hj : j.size = 1 := by simpa [hq] using hs
    have hadd : (⟨g, off, none⟩ : Addr).add l = ⟨g, off + l, none⟩ := by unfold Addr.add; split <;> simp_all
    have h3 : ¬ n = l := by omega
    simp [Instr.sliceAt, run_underlying hu, Instr.sureAddr, Instr.sliceBounds, Instr.sliceBound, asIntOf, h3, sizeOf, typeInfo, hq, hj, hadd, Nat.le_of_lt hln]

/-- Indexing an array's value. -/
theorem run_index_agg (w : World) (t elem : TypeId) (n : Nat) (cs : Array Value) (k : IntKind) (i : Nat) (v : Value) (hu : P.underlying t = some (.array n elem)) (hs : (P.info? elem).map (·.size) = some 1)
    (ha : ∀ d, P.underlying elem = some d → (match d with | .struct _ | .array _ _ => true | _ => false) = false) (he : (P.underlying elem).isSome = true) (hi : i < n) (hv : cs[i]? = some v) :
    (Instr.index t (.agg cs) (.int k i)).run P w = .ok v w := by
  obtain ⟨d, hd⟩ := Option.isSome_iff_exists.1 he
  have hd' := ha d hd
  cases hq : P.info? elem with
  | none => simp [hq] at hs
  | some j =>
    have hj : j.size = 1 := by simpa [hq] using hs
    have hagg : (isAgg elem).run P w = .ok false w := by
      unfold isAgg
      rw [Sem.run_bind, run_underlying hd w]
      cases d <;> simp_all
    simp [Instr.index, asIntOf, run_underlying hu, hi, sizeOf, typeInfo, hq, hj, part, hagg, hv]
end
theorem Nums.one {arr : Array Value} {k : IntKind} {n : Nat} {f : Nat → Int} (h : Nums arr k 0 n f) (hs : arr.size = n) : ∀ v ∈ arr.toList, v.oneCell' = true := by
  intro v hv
  obtain ⟨j, hj, rfl⟩ := List.mem_iff_getElem.1 hv
  have hj' : j < n := by simpa [hs] using hj
  have := h j hj'
  rw [Nat.zero_add] at this
  have e : arr.toList[j] = .int k (f j) := by
    have h2 : arr.toList[j]? = some (.int k (f j)) := by simpa using this
    rw [List.getElem?_eq_getElem hj] at h2
    exact Option.some.inj h2
  rw [e]; rfl
/-- Cells that hold numbers, as copy wants them. -/
theorem src_cells {w : World} {k : IntKind} {pb po : Nat} {p : List Int} (hc : ∀ j, j < p.length → w.cell? ⟨pb, po + j, none⟩ = some (.int k (p.getD j 0))) :
    ∀ j v, (p.map (Value.int k))[j]? = some v → w.cell? ((⟨pb, po, none⟩ : Addr).add j) = some v := by
  intro j v hv
  have hadd : (⟨pb, po, none⟩ : Addr).add j = ⟨pb, po + j, none⟩ := by unfold Addr.add; split <;> simp_all
  have hj : j < p.length := by simpa using (List.getElem?_eq_some_iff.1 hv).1
  rw [hadd, hc j hj, ← hv]
  simp [hj]
theorem one_map (k : IntKind) (p : List Int) : ∀ v ∈ p.map (Value.int k), v.oneCell' = true := by
  intro v hv; simp at hv; obtain ⟨x, _, rfl⟩ := hv; rfl
theorem Nums.splice {arr : Array Value} {k : IntKind} {n : Nat} {r : Nat → Int} (h : Nums arr k 0 n r) (off : Nat) (p : List Int) (hf : off + p.length ≤ n) (hs : n ≤ arr.size) :
    Nums (_root_.Go.Proofs.Ythlleheeghiljaa.splice arr off (p.map (Value.int k))) k 0 n (fun j => if off ≤ j ∧ j < off + p.length then p.getD (j - off) 0 else r j) := by
  intro j hj
  rw [splice_get _ _ _ (by simp; omega)]
  simp only [Nat.zero_add, List.length_map]
  by_cases c : off ≤ j ∧ j < off + p.length
  · rw [if_pos c, if_pos c, List.getElem?_map]
    have : j - off < p.length := by omega
    simp [this]
  · rw [if_neg c, if_neg c]
    have := h j hj
    rwa [Nat.zero_add] at this
theorem Nums.spliceOut {arr : Array Value} {k : IntKind} {o n : Nat} {r : Nat → Int} (h : Nums arr k o n r) (off : Nat) (vs : List Value) (hf : off + vs.length ≤ arr.size) (hd : off + vs.length ≤ o ∨ o + n ≤ off) :
    Nums (_root_.Go.Proofs.Ythlleheeghiljaa.splice arr off vs) k o n r := by
  intro j hj
  rw [splice_get _ _ _ hf, if_neg (by omega)]
  exact h j hj
theorem set4 (arr : Array Value) (o : Nat) (a b c d : Value) (h : o + 4 ≤ arr.size) :
    (((arr.setIfInBounds o a).setIfInBounds (o + 1) b).setIfInBounds (o + 2) c).setIfInBounds (o + 3) d = splice arr o [a, b, c, d] := by
  apply Array.ext_getElem?
  intro j
  rw [splice_get _ _ _ (by simpa using h)]
  simp only [Array.getElem?_setIfInBounds, Array.size_setIfInBounds, List.length_cons, List.length_nil, Nat.zero_add, Nat.reduceAdd]
  by_cases h3 : o + 3 = j
  · subst h3; rw [if_pos rfl, if_pos (by omega), if_pos (by omega)]; simp
  rw [if_neg h3]
  by_cases h2 : o + 2 = j
  · subst h2; rw [if_pos rfl, if_pos (by omega), if_pos (by omega)]; simp
  rw [if_neg h2]
  by_cases h1 : o + 1 = j
  · subst h1; rw [if_pos rfl, if_pos (by omega), if_pos (by omega)]; simp
  rw [if_neg h1]
  by_cases h0 : o = j
  · subst h0; rw [if_pos rfl, if_pos (by omega), if_pos (by omega)]; simp
  rw [if_neg h0, if_neg (by omega)]
theorem splice_splice (arr : Array Value) (o : Nat) (xs ys : List Value) (h : o + (xs.length + ys.length) ≤ arr.size) : splice (splice arr o xs) (o + xs.length) ys = splice arr o (xs ++ ys) := by
  apply Array.ext_getElem?
  intro j
  have hs : (splice arr o xs).size = arr.size := splice_size _ _ _ (by omega)
  rw [splice_get _ _ _ (by omega), splice_get _ _ _ (by omega), splice_get _ _ _ (by rw [List.length_append]; omega), List.length_append]
  by_cases h1 : o + xs.length ≤ j ∧ j < o + xs.length + ys.length
  · rw [if_pos h1, if_pos (by omega), List.getElem?_append_right (by omega)]
    congr 1
    omega
  · rw [if_neg h1]
    by_cases h2 : o ≤ j ∧ j < o + xs.length
    · rw [if_pos h2, if_pos (by omega), List.getElem?_append_left (by omega)]
    · rw [if_neg h2, if_neg (by omega)]
theorem extract_all (cs : Array Value) (n : Nat) (h : cs.size = n) : cs.extract 0 (0 + n) = cs := by
  apply Array.ext
  · simp; omega
  · intro i h1 h2; simp
theorem splice_all (cs vs : Array Value) (n : Nat) (h : cs.size = n) (hv : vs.size = n) : splice cs 0 vs.toList = vs := by
  unfold splice
  rw [List.take_zero, List.nil_append, List.drop_eq_nil_of_le (by simp; omega), List.append_nil]
end Go.Proofs.Ythlleheeghiljaa
