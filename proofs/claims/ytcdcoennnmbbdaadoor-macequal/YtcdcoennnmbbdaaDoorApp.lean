/-
  append onto a slice of bytes of the call's own; two arrays of bytes held against one another.
-/
import Derived.Test.YtcdcoennnmbbdaaDoorSum
namespace Go.Proofs.YtcdcoennnmbbdaaDoor
open Go.RowKit

/-- A []byte of the call's own (its block is from base on), which reads as xs. -/
def Own (w : World) (base : Nat) (v : Value) (xs : List Int) : Prop := w.ownsRow base 5 1 v xs.length (xs.map (Value.int .u8))
theorem Own.nil (w : World) (base : Nat) : Own w base (.slice none 0 0) [] := World.ownsRow_nil _ _ _ _
theorem Own.upd {w w' : World} {base : Nat} {v : Value} {xs : List Int} {S : Nat → Prop} (h : Own w base v xs) (u : Upd S w w') (hs : ∀ k, base ≤ k → ¬ S k) : Own w' base v xs := by
  obtain ⟨h1, h2⟩ := h
  refine ⟨h1, ?_⟩
  rcases h2 with h2 | ⟨g, cap, cur, hv, hg, hh, r⟩
  · exact Or.inl h2
  · exact Or.inr ⟨g, cap, cur, hv, hg, u.blk (b := g) (t := 5) hh (hs g hg), r⟩
theorem Own.sl {w : World} {base : Nat} {v : Value} {xs : List Int} (h : Own w base v xs) {S : Nat → Prop} (hs : ∀ k, base ≤ k → k < w.heap.size → ¬ S k) (hl : xs.length ≤ 140737488355328) : Sl w S v xs := by
  obtain ⟨h1, h2⟩ := h
  rcases h2 with ⟨rfl, h0⟩ | ⟨g, cap, cur, rfl, hg, hh, hn, hc, hcs, ht⟩
  · exact ⟨none, 0, by rw [h0], by omega, by omega, fun h => absurd h (by omega)⟩
  · have hb : Blk w g 5 cur := hh
    refine ⟨some ⟨g, 0, none⟩, cap, rfl, hn, ⟨by simpa [maxLen] using hc, hl⟩, fun h0 => ⟨g, 0, rfl, hs g hg hb.lt, fun j hj => ?_⟩⟩
    rw [hb.cell, Nat.zero_add, ← Array.getElem?_toList]
    have e : (cur.toList.take (xs.length * 1))[j]? = (xs.map (Value.int .u8))[j]? := by rw [ht]
    rw [List.getElem?_take_of_lt (by omega)] at e
    rw [e]
    simp [hj]
theorem Own.len {w : World} {base : Nat} {v : Value} {xs : List Int} (h : Own w base v xs) : ∃ sp cap, v = .slice sp xs.length cap := by
  obtain ⟨h1, h2⟩ := h
  rcases h2 with ⟨rfl, h0⟩ | ⟨g, cap, cur, rfl, _⟩
  · exact ⟨none, 0, by rw [h0]⟩
  · exact ⟨_, cap, rfl⟩
theorem info5i : ∃ i, Tryd.prog.info? 5 = some i ∧ i.zero = some (.int .u8 0) ∧ i.size = 1 ∧ i.bytes = 1 := info_parts (P := Tryd.prog) (e := 5) (by kernel_rfl)

theorem run_append_empty (w : World) (ty : TypeId) (base : Nat) (v : Value) (xs : List Int) (hown : Own w base v xs) (sp : Option Addr) (c : Nat) :
    (Builtin.append_ #[22, 22] ty #[v, .slice sp 0 c]).run Tryd.prog w = .ok v w := by
  obtain ⟨i, hi, _, hs, _⟩ := info5i
  rcases hown.2 with ⟨rfl, h0⟩ | ⟨g, cap, cur, rfl, _, _, hnc, _⟩
  · cases sp <;> simp [Builtin.append_, run_underlying Tryd.underlying22, sizeOf, typeInfo, hi, Builtin.lenOf, Builtin.firstCells, loadCells, loadCellsFrom]
  · cases sp <;> simp [Builtin.append_, run_underlying Tryd.underlying22, sizeOf, typeInfo, hi, Builtin.lenOf, Builtin.firstCells, hnc, storeCells, loadCells, loadCellsFrom]

theorem run_appendSl (w : World) (ty : TypeId) (base : Nat) (v : Value) (xs : List Int) (hown : Own w base v xs) {S : Nat → Prop} (u : Value) (p : List Int) (hu : Sl w S u p) (hb : xs.length + p.length ≤ 140737488355328) (hbase : base ≤ w.heap.size) :
    ∃ v' w', (Builtin.append_ #[22, 22] ty #[v, u]).run Tryd.prog w = .ok v' w' ∧ Own w' base v' (xs ++ p) ∧ Upd (fun k => base ≤ k) w w' := by
  obtain ⟨sp, cap, rfl, h1, h2, h3⟩ := hu
  by_cases h0 : 0 < p.length
  · obtain ⟨pb, po, rfl, _, hc⟩ := h3 h0
    obtain ⟨i, hi, hz, hs, hby⟩ := info5i
    obtain ⟨v', w', hr, ho, hg, _⟩ := run_append_own (P := Tryd.prog) w base 22 ty 5 i (.int .u8 0) 1 1 Tryd.underlying22 hi hz hs hby rfl (by omega) v xs.length (xs.map (Value.int .u8)) hown ⟨pb, po, none⟩ p.length cap (p.map (Value.int .u8)) (by simp) (src_cells hc) (one_map .u8 p) (by unfold maxLen; omega) (by omega) hbase
    refine ⟨v', w', hr, ?_, ⟨hg.os, hg.tape, hg.output, hg.size, fun k hk hs => hg.block k hk (fun e => hs ?_)⟩⟩
    · unfold Own
      rw [List.length_append, List.map_append]
      exact ho
    · rcases hown.2 with ⟨rfl, _⟩ | ⟨g, cap, cur, rfl, hg, _⟩
      · cases e
      · simp only [Value.ownBlock, Option.some.injEq] at e; omega
  · obtain rfl : p = [] := List.eq_nil_of_length_eq_zero (by omega)
    refine ⟨v, w, ?_, by simpa using hown, Upd.refl _ w⟩
    exact run_append_empty w ty base v xs hown sp cap

theorem wpList_appendSl {ops : Array Oper} {rest : List Oper} {o : Oper} {a : Act} {w : World} {Q : Exit → Act → World → Prop} (hgd : o.guard = none) (s x : Operand)
    (ho : o.op = .call { callee := .builtin .append, args := #[s, x], argTypes := #[22, 22] }) (base : Nat) (v : Value) (xs : List Int) (hs : a.eval s = v) (hown : Own w base v xs) {S : Nat → Prop} (u : Value) (hx : a.eval x = u) (p : List Int) (hu : Sl w S u p)
    (hb : xs.length + p.length ≤ 140737488355328) (hbase : base ≤ w.heap.size)
    (h : ∀ v' w', Own w' base v' (xs ++ p) → Upd (fun k => base ≤ k) w w' → wpList Tryd.prog ops Q rest (a.put o.dst v') w') : wpList Tryd.prog ops Q (o :: rest) a w := by
  obtain ⟨v', w', hr, h1, h2⟩ := run_appendSl w o.type base v xs hown u p hu hb hbase
  refine wpList_plain hgd fun K hK => ?_
  unfold Oper.wp
  simp [execOp, ho, resolve, invoke, builtin, hs, hx, hr, Result.andThen]
  exact hK _ _ (h _ _ h1 h2)

/-- An array of bytes is the same as itself. -/
theorem run_equalIn_self (w : World) (d : Nat) (t : TypeId) (n : Nat) (A : List Int) (ht : Tryd.prog.underlying t = some (.array n 5)) (hA : A.length = n) :
    (Op.equalIn (d + 2) t (.agg (bytesA A)) (.agg (bytesA A))).run Tryd.prog w = .ok true w := by
  obtain ⟨i, hi, _, hs, _⟩ := info5i
  have hsz : ∀ w, (sizeOf 5).run Tryd.prog w = .ok 1 w := fun w => by simp [sizeOf, typeInfo, hi, hs]
  rw [Op.equalIn]
  simp only [Sem.run_bind, run_underlying ht, Result.andThen_ok, hsz, Std.Legacy.Range.forIn_eq_forIn_range', Std.Legacy.Range.size, Nat.sub_zero, Nat.add_sub_cancel, Nat.div_one]
  have hl : ∀ i ∈ List.range' 0 n 1, i < n := fun i hi => by simpa using (List.mem_range'_1.1 hi).2
  generalize List.range' 0 n 1 = l at hl ⊢
  induction l with
  | nil => simp
  | cons i l ih =>
    have hi : i < n := hl i (by simp)
    have px : (part 5 (bytesA A) (i * 1)).run Tryd.prog w = .ok (.int .u8 (A.getD i 0)) w := by
      have := bytesA_get A i (by omega)
      simp [part, isAgg, run_underlying Tryd.underlying5, this]
    have pe : (Op.equalIn (d + 1) 5 (.int .u8 (A.getD i 0)) (.int .u8 (A.getD i 0))).run Tryd.prog w = .ok true w := by
      rw [run_equalIn_int w d 5 .u8 .u8 _ _ Tryd.underlying5]
      simp
    simp only [List.forIn_cons, Sem.run_bind, px, pe, Result.andThen_ok]
    simp only [Bool.not_true, Bool.false_eq_true, if_false, Sem.run_pure, Result.andThen_ok]
    exact ih fun j hj => hl j (by simp [hj])
theorem run_eql_self (w : World) (A : List Int) (hA : A.length = 32) : (binOp .eql 25 (.agg (bytesA A)) (.agg (bytesA A))).run Tryd.prog w = .ok (.bool true) w := by
  rw [run_eql_struct, run_equalIn_self w 9998 25 32 A Tryd.underlying25 hA]
  rfl
theorem run_neq_self (w : World) (A : List Int) (hA : A.length = 32) : (binOp .neq 25 (.agg (bytesA A)) (.agg (bytesA A))).run Tryd.prog w = .ok (.bool false) w := by
  rw [run_neq_struct, run_equalIn_self w 9998 25 32 A Tryd.underlying25 hA]
  rfl
end Go.Proofs.YtcdcoennnmbbdaaDoor
