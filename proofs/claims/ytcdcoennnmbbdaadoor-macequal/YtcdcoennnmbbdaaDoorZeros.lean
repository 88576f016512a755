/-
  append of so many noughts onto a slice of bytes of the call's own.
-/
import Derived.Test.YtcdcoennnmbbdaaDoorApp
import Derived.Lib.AppendZerosOnto
namespace Go.Proofs.YtcdcoennnmbbdaaDoor
open Go.RowKit

theorem zeroCells_one (n : Nat) : Builtin.zeroCells #[.int .u8 0] n = Array.replicate n (.int .u8 0) := by
  apply Array.ext_getElem?
  intro j
  by_cases hj : j < n
  · rw [Array.getElem?_eq_getElem (by rw [size_zeroCells]; simpa using hj)]
    simp [Builtin.zeroCells, hj, Nat.mod_one]
  · rw [Array.getElem?_eq_none (by rw [size_zeroCells]; simp; omega), Array.getElem?_eq_none (by simp; omega)]
theorem Own.empty (w : World) (base : Nat) (h : base ≤ w.heap.size) : Own (w.alloc (.cells #[] 5)) base (.slice (some ⟨w.heap.size, 0, none⟩) 0 0) [] :=
  ⟨rfl, Or.inr ⟨w.heap.size, 0, #[], rfl, h, heap_alloc_new w _, by simp, by simp, rfl, rfl⟩⟩

theorem run_append_zeros (w : World) (ty : TypeId) (base : Nat) (v : Value) (xs : List Int) (hown : Own w base v xs) (n : Nat) (hb : xs.length + n ≤ 100000) (hbase : base ≤ w.heap.size) :
    ∃ v' w', (Builtin.append_ #[22, 3] ty #[v, .int .i64 n]).run Tryd.prog w = .ok v' w' ∧ Own w' base v' (xs ++ List.replicate n 0) ∧ Upd (fun k => base ≤ k) w w' := by
  obtain ⟨i, hi, hz, hs, hby⟩ := info5i
  have hw : IntKind.i64.wrap (n : Int) = n := by rw [IntKind.wrap_i64]; omega
  have hneg : ¬ ((n : Int) < 0) := by omega
  have hw0 : IntKind.i64.wrap 0 = 0 := by decide
  have h48i : ¬ (281474976710656 < (n : Int) * (i.bytes : Int)) := by rw [hby]; omega
  have key : ∀ (sp : Option Addr) (cap : Nat), v = .slice sp xs.length cap → 0 < n → cap < xs.length + n → (Builtin.firstCells 1 xs.length (.slice sp xs.length cap)).run Tryd.prog w.drew = .ok (xs.map (Value.int .u8)).toArray w.drew →
      ∃ v' w', (Builtin.append_ #[22, 3] ty #[v, .int .i64 n]).run Tryd.prog w = .ok v' w' ∧ Own w' base v' (xs ++ List.replicate n 0) ∧ Upd (fun k => base ≤ k) w w' := by
    intro sp cap hv h0 hlt hold
    subst hv
    · have hr := Lib.run_append_grow_zeros (P := Tryd.prog) w 22 3 ty 5 i (.int .u8 0) .i64 .i64 Tryd.underlying22 Tryd.underlying3 hi hz sp xs.length cap (xs.map (Value.int .u8)) (by rw [hs]; exact hold) n (by omega) (by omega) hlt (by omega) (by rw [hby]; omega) (by rw [hby]; exact growslice_fits (by omega) (by omega))
      refine ⟨_, _, hr, ?_, ⟨rfl, rfl, rfl, by simp, fun k hk _ => Below.heap_alloc w.drew _ k hk⟩⟩
      have hge := grownCap_ge w (xs.length + n) cap 5
      have hcm := grownCap_le_maxLen w (xs.length + n) cap 5 (by unfold maxLen; omega)
      have hl : (xs ++ List.replicate n 0).length = xs.length + n := by simp
      refine ⟨by simp, Or.inr ⟨w.heap.size, _, _, by rw [hl], hbase, heap_alloc_new w.drew _, by rw [hl]; exact hge, hcm, ?_, ?_⟩⟩
      · simp only [Value.cells, zeroCells_one, Array.size_append, List.size_toArray, List.length_map, Array.size_replicate]
        omega
      · simp only [Value.cells, zeroCells_one, Array.toList_append, Array.toList_replicate, hl, Nat.mul_one]
        rw [List.take_append_of_le_length (by simp)]
        rw [List.take_of_length_le (by simp)]
        simp
  rcases hown.2 with ⟨rfl, h0⟩ | ⟨g, cap, cur, rfl, hg, hh, hnc, hcm, hcs, ht⟩
  · have hx : xs = [] := List.eq_nil_of_length_eq_zero h0
    subst hx
    by_cases hn : n = 0
    · subst hn
      refine ⟨.slice none 0 0, w, ?_, by simpa using Own.nil w base, Upd.refl _ w⟩
      simp [Builtin.append_, run_underlying Tryd.underlying22, run_underlying Tryd.underlying3, sizeOf, typeInfo, hi, asInt, asIntOf, hw0]
    · refine key none 0 rfl (by omega) (by simp; omega) ?_
      simp [Builtin.firstCells]
  · by_cases hroom : xs.length + n ≤ cap
    · have hb' : Blk w g 5 cur := hh
      have hst := run_storeCells_at Tryd.prog g (xs.length * 1) 5 (List.replicate n (.int .u8 0)) 0 cur w hh (by simp; omega) (by intro v hv; rw [List.eq_of_mem_replicate hv]; rfl)
      simp only [Nat.add_zero, List.length_replicate, Nat.mul_one] at hst
      refine ⟨.slice (some ⟨g, 0, none⟩) (xs.length + n) cap, w.setRow g (cur.toList.take xs.length ++ List.replicate n (Value.int .u8 0) ++ cur.toList.drop (xs.length + n)).toArray, ?_, ?_, (Upd.refl _ w).row _ (fun _ => hg)⟩
      · by_cases hn : n = 0
        · subst hn
          simp only [List.replicate_zero, List.append_nil, Nat.add_zero] at hst ⊢
          simp [Builtin.append_, run_underlying Tryd.underlying22, run_underlying Tryd.underlying3, sizeOf, typeInfo, hi, hs, asInt, asIntOf, hw0, hnc, Addr.add_lit, hst]
        · simp [Builtin.append_, run_underlying Tryd.underlying22, run_underlying Tryd.underlying3, sizeOf, typeInfo, zeroValue, hi, hs, hz, asInt, asIntOf, hw, hneg, h48i, hn, hroom, Value.cells, zeroCells_one, Addr.add_lit, hst]
      · refine ⟨by simp, Or.inr ⟨g, cap, _, by simp, hg, setRow_heap w g cur _ 5 _ hh, by simpa using hroom, hcm, ?_, ?_⟩⟩
        · simp; omega
        · rw [Nat.mul_one] at ht
          rw [ht]
          simp only [List.length_append, List.length_replicate, Nat.mul_one, List.map_append, List.map_replicate]
          rw [List.take_append_of_le_length (by simp), List.take_of_length_le (by simp)]
    · refine key (some ⟨g, 0, none⟩) cap rfl (by omega) (by omega) ?_
      exact run_firstCells_some (P := Tryd.prog) w.drew 1 xs.length ⟨g, 0, none⟩ xs.length cap (xs.map (Value.int .u8)) (by simp) (hown.cells (g := g) rfl)
theorem wpList_appendZeros {ops : Array Oper} {rest : List Oper} {o : Oper} {a : Act} {w : World} {Q : Exit → Act → World → Prop} (hgd : o.guard = none) (s x : Operand)
    (ho : o.op = .call { callee := .builtin .append, args := #[s, x], argTypes := #[22, 3] }) (base : Nat) (v : Value) (xs : List Int) (hs : a.eval s = v) (hown : Own w base v xs) (n : Nat) (hx : a.eval x = .int .i64 n)
    (hb : xs.length + n ≤ 100000) (hbase : base ≤ w.heap.size)
    (h : ∀ v' w', Own w' base v' (xs ++ List.replicate n 0) → Upd (fun k => base ≤ k) w w' → wpList Tryd.prog ops Q rest (a.put o.dst v') w') : wpList Tryd.prog ops Q (o :: rest) a w := by
  obtain ⟨v', w', hr, h1, h2⟩ := run_append_zeros w o.type base v xs hown n hb hbase
  refine wpList_plain hgd fun K hK => ?_
  unfold Oper.wp
  simp [execOp, ho, resolve, invoke, builtin, hs, hx, hr, Result.andThen]
  exact hK _ _ (h _ _ h1 h2)
end Go.Proofs.YtcdcoennnmbbdaaDoor
