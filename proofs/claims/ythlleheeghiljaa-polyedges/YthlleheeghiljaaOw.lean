/-
  What the rows' readings give: slices of slices of bytes. For any program.
-/
import Derived.Test.YthlleheeghiljaaOy
namespace Go.Proofs.Ythlleheeghiljaa
open Go.RowKit Go.ChangeShapes Go.WideShapes Go.ChangeAt

/-- A list that is written out, of lists of numbers. -/
def asSS (x : List (List Int)) : List (List Int) := x
section
variable {P : Program} {H : Type} {enc : TypeId × Value → H} {W : World}
/-- How many values a slice's data has; which ones. -/
def szD : DataW H → Nat
  | .slice es _ => es.length
  | _ => 0
def elD : DataW H → List (DataW H)
  | .slice es _ => es
  | _ => []
/-- No slice has more values than there is room. -/
theorem few_of {T S : TypeId} (hT : P.underlying T = some (.slice S)) (hb : 1 ≤ P.bytesOf S) {d : DataW H} (hw : ∀ n ∈ d.weights P T, n ≤ reachBytes) : (elD d).length ≤ 140737488355328 := by
  cases d <;> try exact Nat.zero_le _
  rename_i es rest
  have h1 := hw ((es.length + rest.length) * P.bytesOf S) (by simp [DataW.weights, hT])
  have h2 : es.length + rest.length ≤ (es.length + rest.length) * P.bytesOf S := Nat.le_mul_of_pos_right _ hb
  simp only [reachBytes] at h1
  show es.length ≤ _
  omega
theorem weightsAll_mem {e : TypeId} : ∀ {l : List (DataW H)} {d : DataW H}, d ∈ l → ∀ n ∈ d.weights P e, n ∈ DataW.weightsAll P e l
  | [], _, h, _, _ => by cases h
  | x :: r, d, h, n, hn => by
    rw [DataW.weightsAll]
    rcases List.mem_cons.1 h with rfl | h
    · exact List.mem_append_left _ hn
    · exact List.mem_append_right _ (weightsAll_mem h n hn)
/-- A cell that is a slice of bytes. -/
theorem open_cell {S e : TypeId} (hS : P.underlying S = some (.slice e)) (hue : P.underlying e = some (.int .u8)) (hce : P.cellsOf e = 1) (hbe : P.bytesOf e = 1) {fuel : Nat} {cs : List Value} {y : DataW H × List MemPlace} (h : DataW.trod enc P W 0 (fun _ => true) true fuel S cs = some y) (hw : ∀ n ∈ y.1.weights P S, n ≤ reachBytes) :
    ∃ (l : List Int) (v : Value), cs = [v] ∧ Bys l ∧ l.length ≤ 140737488355328 ∧ szD y.1 = l.length ∧ RB (cxL W []) l v := by
  have hsz : ∀ {a : Option Addr} {len cap : Nat}, cs = [.slice a len cap] → szD y.1 = len := by
    rintro a len cap rfl
    rcases DataW.trod_slice hS h with ⟨hcs, rfl⟩ | ⟨a', len', cap', elems, rest, n, _, hcs, rfl, _, _, _, hlen, _⟩
    · simp only [List.cons.injEq, Value.slice.injEq, and_true] at hcs
      obtain ⟨_, rfl, _⟩ := hcs
      rfl
    · simp only [List.cons.injEq, Value.slice.injEq, and_true] at hcs
      obtain ⟨_, rfl, _⟩ := hcs
      simp [szD, hlen]
  obtain ⟨a, len, cap, rfl⟩ : ∃ (a : Option Addr) (len cap : Nat), cs = [.slice a len cap] := by
    rcases DataW.trod_slice hS h with ⟨hcs, _⟩ | ⟨a', len', cap', _, _, _, _, hcs, _⟩
    · exact ⟨_, _, _, hcs⟩
    · exact ⟨_, _, _, hcs⟩
  obtain ⟨l, pb, po, h1, h2, h3, h4, h5, h6⟩ := open_bytes (d := y.1) (ps := y.2) hS hue hce hbe h hw
  refine ⟨l, _, rfl, h2, by omega, by rw [hsz rfl, h1], rfl, ?_⟩
  have := da_bytes (gl := []) h1 h3 h4 h5 h6
  rw [h1]
  exact this
/-- A slice of slices of bytes. -/
theorem open_rss {T S e : TypeId} (hT : P.underlying T = some (.slice S)) (hS : P.underlying S = some (.slice e)) (hue : P.underlying e = some (.int .u8)) (hcS : P.cellsOf S = 1) (hce : P.cellsOf e = 1) (hbe : P.bytesOf e = 1) {fuel len cap : Nat} {a : Option Addr} {d : DataW H} {ps : List MemPlace}
    (h : DataW.trod enc P W 0 (fun _ => true) true fuel T [.slice a len cap] = some (d, ps)) (hw : ∀ n ∈ d.weights P T, n ≤ reachBytes) :
    ∃ ls : List (List Int), ls.length = len ∧ (∀ l ∈ ls, Bys l ∧ l.length ≤ 140737488355328) ∧ ls.map List.length = (elD d).map szD ∧ DA (cxL W []) be0 (.o (.c (.rss ls))) (.slice a len cap) := by
  rcases DataW.trod_slice hT h with ⟨hcs, hx⟩ | ⟨x, len', cap', elems, rest, n, _, hcs, hx, hb, hl, hm, hlen, hel, _, _⟩
  · simp only [List.cons.injEq, Value.slice.injEq, and_true] at hcs
    obtain ⟨rfl, rfl, rfl⟩ := hcs
    obtain ⟨rfl, _⟩ := Prod.mk.inj hx
    exact ⟨[], rfl, (fun l hl => by cases hl), rfl, none, 0, rfl, Nat.le_refl _, Nat.zero_le _, fun h0 => absurd h0 (Nat.lt_irrefl 0)⟩
  · simp only [List.cons.injEq, Value.slice.injEq, and_true] at hcs
    obtain ⟨rfl, rfl, rfl⟩ := hcs
    obtain ⟨rfl, _⟩ := Prod.mk.inj hx
    have each : ∀ i, i < len → ∃ y, elems[i]? = some y ∧ ∃ (l : List Int) (v : Value), W.cell? (x.add i) = some v ∧ Bys l ∧ l.length ≤ 140737488355328 ∧ szD y.1 = l.length ∧ RB (cxL W []) l v := by
      intro i hi
      have hy : elems[i]? = some elems[i] := List.getElem?_eq_getElem (by omega)
      have hb' := hel i hi
      rw [hy, hcS, Nat.mul_one, Option.bind_eq_some_iff] at hb'
      obtain ⟨cs', hcs, hy'⟩ := hb'
      obtain ⟨l, v, rfl, h1, h2, h3, h4⟩ := open_cell hS hue hce hbe hy' (fun m hm => hw m (by
        simp only [DataW.weights, hT]
        exact List.mem_cons_of_mem _ (List.mem_append_left _ (weightsAll_mem (List.mem_map.2 ⟨_, List.getElem_mem (by omega), rfl⟩) m hm))))
      exact ⟨_, hy, l, v, cell_of_cells?_one hcs, h1, h2, h3, h4⟩
    have build : ∀ k, k ≤ len → ∃ ls : List (List Int), ls.length = k ∧ (∀ l ∈ ls, Bys l ∧ l.length ≤ 140737488355328) ∧ ls.map List.length = ((elems.take k).map (·.1)).map szD ∧ ∀ (j : Nat) (l : List Int), ls[j]? = some l → ∃ v, W.cell? (x.add j) = some v ∧ RB (cxL W []) l v := by
      intro k
      induction k with
      | zero => intro _; exact ⟨[], rfl, (fun l hl => by cases hl), rfl, (fun j l hj => by cases hj)⟩
      | succ k ih =>
        intro hk
        obtain ⟨ls, h1, h2, h3, h4⟩ := ih (by omega)
        obtain ⟨y, hy, l, v, g1, g2, g3, g4, g5⟩ := each k (by omega)
        refine ⟨ls ++ [l], by simp [h1], fun z hz => ?_, ?_, fun j z hj => ?_⟩
        · rcases List.mem_append.1 hz with hz | hz
          · exact h2 z hz
          · rw [List.mem_singleton] at hz; subst hz; exact ⟨g2, g3⟩
        · rw [List.take_add_one, hy]
          simp only [List.map_append, h3, Option.toList_some, List.map_cons, List.map_nil, g4]
        · by_cases hjk : j < k
          · rw [List.getElem?_append_left (by omega)] at hj
            exact h4 j z hj
          · rw [List.getElem?_append_right (by omega), h1] at hj
            have : j = k := by
              have := (List.getElem?_eq_some_iff.1 hj).1
              simp at this; omega
            subst this
            simp at hj
            subst hj
            exact ⟨v, g1, g5⟩
    obtain ⟨ls, h1, h2, h3, h4⟩ := build len (Nat.le_refl _)
    refine ⟨ls, h1, h2, ?_, ?_⟩
    · rw [h3, List.take_of_length_le (by omega)]; rfl
    · refine ⟨some x, cap, by rw [h1], by omega, by unfold maxLen at hm; unfold mx; omega, fun h0 => ?_⟩
      obtain ⟨v0, hv0, _⟩ := h4 0 ls[0] (List.getElem?_eq_getElem h0)
      obtain ⟨b, o, rfl⟩ := addr_none hv0
      have hadd : ∀ j, (⟨b, o, none⟩ : Addr).add j = ⟨b, o + j, none⟩ := fun j => by unfold Addr.add; split <;> simp_all
      refine ⟨b, o, rfl, ?_, fun h => h, fun j l hj => ?_⟩
      · have := World.block_lt_of_cell? W _ hv0
        rw [hadd] at this
        exact this
      · obtain ⟨v, e1, e2⟩ := h4 j l hj
        rw [hadd] at e1
        exact ⟨v, e1, e2⟩
end
end Go.Proofs.Ythlleheeghiljaa
