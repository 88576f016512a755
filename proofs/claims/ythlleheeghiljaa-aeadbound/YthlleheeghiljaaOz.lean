/-
  What the rows' readings give: structs of two arrays of bytes. For any program.
-/
import Derived.Test.YthlleheeghiljaaOy
namespace Go.Proofs.Ythlleheeghiljaa
open Go.RowKit Go.ChangeShapes Go.WideShapes Go.ChangeAt

section
variable {P : Program} {H : Type} {enc : TypeId × Value → H} {W : World}
theorem trod_arr8 {T e : TypeId} {n : Nat} (hu : P.underlying T = some (.array n e)) (hue : P.underlying e = some (.int .u8)) (hc : P.cellsOf T = n) (hce : P.cellsOf e = 1) {fuel : Nat} {cs : List Value} {y : DataW H × List MemPlace} (hf : DataW.trod enc P W 0 (fun _ => true) true fuel T cs = some y) :
    ∃ l : List Int, cs = l.map (Value.int .u8) ∧ l.length = n ∧ Bys l := by
  cases fuel with
  | zero => simp [DataW.trod] at hf
  | succ m =>
    rw [DataW.trod_step] at hf
    unfold DataW.trodStep at hf
    simp only [hu] at hf
    split at hf
    · rename_i hn
      rw [hc] at hn
      simp only [Option.map_eq_some_iff, hce, Nat.mul_one] at hf
      obtain ⟨ys, hy, _⟩ := hf
      have key : ∀ i, i < n → ∃ a, cs[i]? = some (.int .u8 a) ∧ (Lit.int .u8 a).wf = true := fun i hi => by
        obtain ⟨y, hy'⟩ := mapM_some_mem hy i (List.mem_range.2 hi)
        obtain ⟨a, ea, _, wa⟩ := DataW.trod_int hue hy'
        refine ⟨a, ?_, wa⟩
        have e : ((cs.drop i).take 1)[0]? = some (.int .u8 a) := by rw [ea]; rfl
        rw [List.getElem?_take_of_lt (by omega), List.getElem?_drop] at e
        simpa using e
      obtain ⟨l, hl, hg⟩ := list_of_get n (fun i => match cs[i]? with | some (.int _ a) => some a | _ => none) (fun i hi => by
        obtain ⟨a, ha, _⟩ := key i hi
        exact ⟨a, by simp [ha]⟩)
      have hk2 : ∀ i, i < n → cs[i]? = some (.int .u8 (l.getD i 0)) ∧ (Lit.int .u8 (l.getD i 0)).wf = true := fun i hi => by
        obtain ⟨a, ha, hb⟩ := key i hi
        have := hg i hi
        simp only [ha, Option.some.injEq] at this
        rw [← this]
        exact ⟨ha, hb⟩
      refine ⟨l, ?_, hl, fun x hx => ?_⟩
      · apply List.ext_getElem?
        intro i
        by_cases hi : i < n
        · rw [(hk2 i hi).1]
          simp [List.getD_eq_getElem?_getD, show i < l.length by omega]
        · rw [List.getElem?_eq_none (by omega), List.getElem?_eq_none (by simp; omega)]
      · obtain ⟨j, hj, rfl⟩ := List.mem_iff_getElem.1 hx
        have := (hk2 j (by omega)).2
        exact wf_u8 (by simpa [List.getD_eq_getElem?_getD, hj] using this)
    · cases hf
theorem open_two8 {T A B e : TypeId} {fs : Array Field} {n m : Nat} (hu : P.underlying T = some (.struct fs)) (hfs : fs.toList.map (fun f => (f.type, f.offset)) = [(A, 0), (B, n)]) (hA : P.underlying A = some (.array n e)) (hB : P.underlying B = some (.array m e)) (hue : P.underlying e = some (.int .u8))
    (hcT : P.cellsOf T = n + m) (hcA : P.cellsOf A = n) (hcB : P.cellsOf B = m) (hce : P.cellsOf e = 1) {r : Reach} {b0 : Nat} {v : Value} {d : DataW H} {ps : List MemPlace} (hval : Value.okWide P W r b0 T v) (hd : DataW.Trod enc P W 0 (fun _ => true) true T v d ps) :
    ∃ l k : List Int, v = .agg ((l ++ k).map (Value.int .u8)).toArray ∧ l.length = n ∧ k.length = m ∧ Bys l ∧ Bys k := by
  simp only [Value.okWide, hu] at hval
  obtain ⟨cs, rfl, hn, _⟩ := hval
  rw [hcT] at hn
  obtain ⟨fuel, hf⟩ := hd
  cases fuel with
  | zero => simp [DataW.trod] at hf
  | succ q =>
    rw [DataW.trod_step] at hf
    unfold DataW.trodStep at hf
    simp only [hu, Value.cells] at hf
    split at hf
    · simp only [Option.map_eq_some_iff] at hf
      obtain ⟨ys, hy, _⟩ := hf
      match hfl : fs.toList, hfs, hy with
      | [f, g], hfs, hy =>
        simp only [List.map_cons, List.map_nil, List.cons.injEq, Prod.mk.injEq, and_true] at hfs
        obtain ⟨⟨f1, f2⟩, g1, g2⟩ := hfs
        obtain ⟨y1, h1⟩ := mapM_some_mem hy f (by simp)
        obtain ⟨y2, h2⟩ := mapM_some_mem hy g (by simp)
        rw [f1, f2, hcA] at h1
        rw [g1, g2, hcB] at h2
        obtain ⟨l, e1, l1, b1⟩ := trod_arr8 hA hue hcA hce h1
        obtain ⟨k, e2, l2, b2⟩ := trod_arr8 hB hue hcB hce h2
        refine ⟨l, k, ?_, l1, l2, b1, b2⟩
        have e3 : List.take m (List.drop n cs.toList) = List.drop n cs.toList := List.take_of_length_le (by simp; omega)
        rw [List.drop_zero] at e1
        rw [e3] at e2
        rw [List.map_append, ← e1, ← e2, List.take_append_drop]
      | [], hfs, _ => cases hfs
      | [_], hfs, _ => simp at hfs
      | _ :: _ :: _ :: _, hfs, _ => simp at hfs
    · cases hf
theorem da_two {gl : List (Nat × L)} {n m : Nat} {l k : List Int} (hl : l.length = n) (hk : k.length = m) : DA (cxL W gl) be0 (.o (.g [.many n (.i .u8 l), .many m (.i .u8 k)])) (.agg ((l ++ k).map (Value.int .u8)).toArray) :=
  ⟨_, rfl, k.map (Value.int .u8), by simp [L.c], hl, fun x hx => by
    obtain ⟨y, _, rfl⟩ := List.mem_map.1 hx
    rfl, [], by simp [L.c], hk, fun x hx => by
    obtain ⟨y, _, rfl⟩ := List.mem_map.1 hx
    rfl, rfl⟩
end
end Go.Proofs.Ythlleheeghiljaa
