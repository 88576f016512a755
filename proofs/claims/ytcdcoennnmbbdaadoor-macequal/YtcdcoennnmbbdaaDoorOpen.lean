/-
  What the rows' readings give: the tables, slices of bytes, slices of slices of bytes.
-/
import Derived.Test.YtcdcoennnmbbdaaDoorCards
import Derived.Test.YtcdcoennnmbbdaaDoorTie
import Derived.Test.YtcdcoennnmbbdaaDoorWrite
import Derived.Test.YtcdcoennnmbbdaaDoorEqual
import Derived.ProofKit
import Derived.OpenShut
import Derived.ShutString
import Derived.ChangeOld
import Derived.SizedLaws
import Derived.LaidSub
import Derived.Deep.DeepHandedRow
import Derived.Deep.Slices
import Derived.Lib.LaidTab
namespace Go.Proofs.YtcdcoennnmbbdaaDoor
open Go.RowKit Go.ChangeShapes Go.WideShapes Go.ChangeAt

theorem ownK : ownKnob Tryd.prog.godebug = none := by kernel_rfl
theorem laidOutK : laidOutB Tryd.prog = true := by kernel_rfl
theorem gFirst : Tryd.prog.globalNamed "intaglio/sha2.first" = some 0 := by kernel_rfl
theorem gFirstT : (Tryd.prog.globals[0]?).map (·.type) = some 75 := by kernel_rfl
theorem gRounds : Tryd.prog.globalNamed "intaglio/sha2.rounds" = some 1 := by kernel_rfl
theorem gRoundsT : (Tryd.prog.globals[1]?).map (·.type) = some 81 := by kernel_rfl
theorem cells75 : Tryd.prog.cellsOf 75 = 8 := by kernel_rfl
theorem cells81 : Tryd.prog.cellsOf 81 = 80 := by kernel_rfl
theorem cells73 : Tryd.prog.cellsOf 73 = 1 := by kernel_rfl
theorem cells5 : Tryd.prog.cellsOf 5 = 1 := by kernel_rfl
theorem cells22 : Tryd.prog.cellsOf 22 = 1 := by kernel_rfl
theorem bytes5 : Tryd.prog.bytesOf 5 = 1 := by kernel_rfl
theorem bytes22 : Tryd.prog.bytesOf 22 = 24 := by kernel_rfl

/-- What all rows of this seat list. -/
abbrev laidL : List (String × DataW Unit) := [("intaglio/sha2.first", Rows.laid_intaglio_sha2_first), ("intaglio/sha2.rounds", Rows.laid_intaglio_sha2_rounds)]
theorem first_eq : (Rows.laid_intaglio_sha2_first : DataW Unit) = Lib.tabData .u64 tabH := by kernel_rfl
theorem rounds_eq : (Rows.laid_intaglio_sha2_rounds : DataW Unit) = Lib.tabData .u64 tabK := by kernel_rfl
theorem laid_tail : laidL.filter (fun x => x.1 == "intaglio/sha2.rounds") = [("intaglio/sha2.rounds", Rows.laid_intaglio_sha2_rounds)] := by
  simp [laidL]
theorem tabs_of {W : World} (h : laidMetH Tryd.prog laidL W) : Tabs W := by
  have h2 := h.filter (fun x => x.1 == "intaglio/sha2.rounds")
  rw [laid_tail, rounds_eq] at h2
  unfold laidL at h
  rw [first_eq] at h
  have t1 : Lib.TabIs Tryd.prog W "intaglio/sha2.first" .u64 tabH := Lib.tabIs_of_head gFirst gFirstT Tryd.underlying75 Tryd.underlying73 cells73 cells75 h
  have t2 : Lib.TabIs Tryd.prog W "intaglio/sha2.rounds" .u64 tabK := Lib.tabIs_of_head gRounds gRoundsT Tryd.underlying81 Tryd.underlying73 cells73 cells81 h2
  exact ⟨fun j hj => t1.cell gFirst j hj, fun j hj => t2.cell gRounds j hj⟩
theorem Tabs.two {W : World} (h : Tabs W) : 2 ≤ W.heap.size := block_lt_of_cell (h.K 0 (by omega))

theorem wf_u8 {n : Int} (h : (Lit.int .u8 n).wf = true) : 0 ≤ n ∧ n < 256 := by
  have := bounds_u8 h
  omega

def putCells (cs : Array Value) : Obj → Obj
  | .cells _ t frozen => .cells cs t frozen
  | o => o
/-- A world for the witness: the settled one, the tables holding what their initialisers lay. -/
noncomputable def laidW (os : Os) : World :=
  { World.holding Tryd.prog os ⟨#[], #[], []⟩ with heap := ((World.holding Tryd.prog os ⟨#[], #[], []⟩).heap.modify 0 (putCells (tabH.map (Value.int .u64)).toArray)).modify 1 (putCells (tabK.map (Value.int .u64)).toArray) }

section
variable {H : Type} {enc : TypeId × Value → H} {W : World}
theorem addr_none {W : World} {x : Addr} {v : Value} (h : W.cell? (x.add 0) = some v) : ∃ b o, x = ⟨b, o, none⟩ := by
  obtain ⟨b, o, s⟩ := x
  cases s with
  | none => exact ⟨b, o, rfl⟩
  | some s =>
    exfalso
    rw [show (⟨b, o, some s⟩ : Addr).add 0 = ⟨b, o, some s⟩ from rfl] at h
    unfold World.cell? at h
    split at h
    · rw [if_pos (show (⟨b, o, some s⟩ : Addr).spot.isSome = true from rfl)] at h; cases h
    · cases h

theorem open_bytes {fuel len cap : Nat} {a : Option Addr} {d : DataW H} {ps : List MemPlace} (h : DataW.trod enc Tryd.prog W 0 (fun _ => true) true fuel 22 [.slice a len cap] = some (d, ps)) (hw : ∀ n ∈ d.weights Tryd.prog 22, n ≤ reachBytes) :
    ∃ l, Byt l ∧ l.length ≤ 140737488351232 ∧ Sl W (fun k => W.heap.size ≤ k) (.slice a len cap) l := by
  rcases open_ints Tryd.underlying22 Tryd.underlying5 cells5 h with ⟨hcs, _⟩ | ⟨x, l, c, zs, hcs, _, hl, hm, hz, hx, hcell, hwz⟩
  · simp only [List.cons.injEq, Value.slice.injEq, and_true] at hcs
    obtain ⟨rfl, rfl, rfl⟩ := hcs
    exact ⟨[], fun j => by simp, by simp, none, 0, rfl, by simp, by simp, fun h => absurd h (by simp)⟩
  · simp only [List.cons.injEq, Value.slice.injEq, and_true] at hcs
    obtain ⟨rfl, rfl, rfl⟩ := hcs
    rw [if_pos rfl] at hz
    have hd : d = .slice (lits .u8 (zs.take len)) (lits .u8 (zs.drop len)) := (Prod.mk.inj hx).1
    have hb : ((lits (H := H) .u8 (zs.take len)).length + (lits (H := H) .u8 (zs.drop len)).length) * Tryd.prog.bytesOf 5 ≤ reachBytes := hw _ (by rw [hd]; simp [DataW.weights, Tryd.underlying22])
    rw [bytes5] at hb
    simp only [lits, List.length_map, List.length_take, List.length_drop, reachBytes] at hb
    have hll : (zs.take len).length = len := by simp; omega
    refine ⟨zs.take len, ?_, by omega, some x, cap, by rw [hll], by omega, by omega, fun h0 => ?_⟩
    · intro j
      by_cases hj : j < (zs.take len).length
      · have hm : (zs.take len).getD j 0 ∈ zs := by
          rw [List.getD_eq_getElem?_getD, List.getElem?_eq_getElem hj]
          exact List.mem_of_mem_take (List.getElem_mem hj)
        exact wf_u8 (hwz _ hm)
      · rw [List.getD_eq_getElem?_getD, List.getElem?_eq_none (by omega)]; simp
    · have hc0 := hcell 0 (by omega)
      obtain ⟨b, o, rfl⟩ := addr_none hc0
      have hadd : ∀ j, (⟨b, o, none⟩ : Addr).add j = ⟨b, o + j, none⟩ := fun j => by unfold Addr.add; split <;> simp_all
      refine ⟨b, o, rfl, ?_, fun j hj => ?_⟩
      · have := block_lt_of_cell hc0
        rw [hadd] at this
        simp only at this
        omega
      · have := hcell j (by omega)
        rw [hadd] at this
        rw [this, List.getD_eq_getElem?_getD, List.getD_eq_getElem?_getD, List.getElem?_take_of_lt (by omega)]

theorem weights_all {e : TypeId} : ∀ {l : List (DataW H)} {d : DataW H}, d ∈ l → ∀ n ∈ d.weights Tryd.prog e, n ∈ DataW.weightsAll Tryd.prog e l
  | x :: l, d, hd, n, hn => by
    simp only [DataW.weightsAll, List.mem_append]
    rcases List.mem_cons.1 hd with rfl | hd
    · exact Or.inl hn
    · exact Or.inr (weights_all hd n hn)

theorem open_bytess {fuel len cap : Nat} {a : Option Addr} {d : DataW H} {ps : List MemPlace} (h : DataW.trod enc Tryd.prog W 0 (fun _ => true) true fuel 52 [.slice a len cap] = some (d, ps)) (hw : ∀ n ∈ d.weights Tryd.prog 52, n ≤ reachBytes) :
    ∃ ls, SlS W (fun k => W.heap.size ≤ k) (.slice a len cap) ls := by
  rcases Deep.open_slice1 Tryd.underlying52 cells22 h with ⟨hcs, _⟩ | ⟨x, l, c, m, n, V, D, Pl, hcs, _, hl, hm, hmm, hx, hV⟩
  · simp only [List.cons.injEq, Value.slice.injEq, and_true] at hcs
    obtain ⟨rfl, rfl, rfl⟩ := hcs
    exact ⟨[], none, 0, rfl, by simp, by simp, fun h => absurd h (by simp)⟩
  · simp only [List.cons.injEq, Value.slice.injEq, and_true] at hcs
    obtain ⟨rfl, rfl, rfl⟩ := hcs
    rw [if_pos rfl] at hmm
    obtain rfl : cap = m := hmm.symm
    have hd : d = .slice ((List.range len).map D) ((List.range (cap - len)).map fun j => D (len + j)) := (Prod.mk.inj hx).1
    have hb : (((List.range len).map D).length + ((List.range (cap - len)).map fun j => D (len + j)).length) * Tryd.prog.bytesOf 22 ≤ reachBytes := hw _ (by rw [hd]; simp [DataW.weights, Tryd.underlying52])
    rw [bytes22] at hb
    simp only [List.length_map, List.length_range, reachBytes] at hb
    have hel : ∀ i, i < len → ∃ l, W.cell? (x.add i) = some (V i) ∧ Sl W (fun k => W.heap.size ≤ k) (V i) l := by
      intro i hi
      obtain ⟨hc, ht⟩ := hV i (by omega)
      have hwi : ∀ n ∈ (D i).weights Tryd.prog 22, n ≤ reachBytes := by
        intro n hn
        refine hw n ?_
        rw [hd]
        simp only [DataW.weights, Tryd.underlying52, List.mem_cons, List.mem_append]
        exact Or.inr (Or.inl (weights_all (List.mem_map.2 ⟨i, List.mem_range.2 hi, rfl⟩) n hn))
      have hshape : ∃ a' l' c', V i = .slice a' l' c' := by
        rcases open_ints Tryd.underlying22 Tryd.underlying5 cells5 ht with ⟨hcs, _⟩ | ⟨x', l', c', zs, hcs, _⟩
        · exact ⟨_, _, _, List.cons.inj hcs |>.1⟩
        · exact ⟨_, _, _, List.cons.inj hcs |>.1⟩
      obtain ⟨a', l', c', hvi⟩ := hshape
      rw [hvi] at ht ⊢
      obtain ⟨l, _, _, hs⟩ := open_bytes ht hwi
      exact ⟨l, by rw [hc, hvi], hs⟩
    obtain ⟨L, hL⟩ := Deep.choose_lt (α := List Int) (p := fun i l => W.cell? (x.add i) = some (V i) ∧ Sl W (fun k => W.heap.size ≤ k) (V i) l) hel
    refine ⟨(List.range len).map L, some x, cap, by simp, by simp; omega, by simp [maxLen] at hm ⊢; omega, fun h0 => ?_⟩
    simp only [List.length_map, List.length_range] at h0
    have hc0 := (hL 0 h0).1
    obtain ⟨b, o, rfl⟩ := addr_none hc0
    have hadd : ∀ j, (⟨b, o, none⟩ : Addr).add j = ⟨b, o + j, none⟩ := fun j => by unfold Addr.add; split <;> simp_all
    refine ⟨b, o, rfl, ?_, fun j hj => ?_⟩
    · have := block_lt_of_cell hc0
      rw [hadd] at this
      simp only at this
      omega
    · simp only [List.length_map, List.length_range] at hj
      obtain ⟨h1, h2⟩ := hL j hj
      rw [hadd] at h1
      refine ⟨V j, h1, ?_⟩
      have e : ((List.range len).map L).getD j [] = L j := by simp [hj]
      rw [e]
      exact h2
end
end Go.Proofs.YtcdcoennnmbbdaaDoor
