/-
  What the rows' readings give: keys.
-/
/-
  What the rows' readings give: the table of twice p.
-/
import Derived.Test.YtdpafemcpbhlfaaDoorRows
import Derived.Test.YtdpafemcpbhlfaaDoorKey
import Derived.ProofKit
import Derived.OpenShut
import Derived.ShutString
import Derived.ChangeOld
import Derived.SizedLaws
import Derived.LaidSub
import Derived.Deep.DeepHandedRow
import Derived.Deep.Slices
import Derived.Lib.LaidTab
import Derived.WideKeyPair
import Derived.Test.YtdpafemcpbhlfaaDoorSub
import Derived.Test.YtdpafemcpbhlfaaDoorCards
import Derived.Test.YtdpafemcpbhlfaaDoorTie
namespace Go.Proofs.YtdpafemcpbhlfaaDoor
set_option maxRecDepth 100000
open Go.RowKit Go.ChangeShapes Go.WideShapes Go.ChangeAt

theorem ownK : ownKnob Tryd.prog.godebug = none := by kernel_rfl
theorem laidOutK : laidOutB Tryd.prog = true := by kernel_rfl
theorem cells5 : Tryd.prog.cellsOf 5 = 1 := by kernel_rfl
theorem wf_u8 {n : Int} (h : (Lit.int .u8 n).wf = true) : 0 ≤ n ∧ n < 256 := by
  have := bounds_u8 h
  omega
theorem mapM_some_mem {α β : Type} {f : α → Option β} : ∀ {L : List α} {ys : List β}, L.mapM f = some ys → ∀ i ∈ L, ∃ y, f i = some y
  | [], _, _, i, hi => by cases hi
  | a :: L, ys, h, i, hi => by
    rw [List.mapM_cons] at h
    simp only [bind, Option.bind_eq_some_iff, pure, Option.some.injEq] at h
    obtain ⟨y, hy, zs, hz, rfl⟩ := h
    rcases List.mem_cons.1 hi with rfl | hi
    · exact ⟨y, hy⟩
    · exact mapM_some_mem hz i hi
theorem list_of_get (n : Nat) (f : Nat → Option Int) (h : ∀ i, i < n → ∃ a, f i = some a) : ∃ l : List Int, l.length = n ∧ ∀ i, i < n → f i = some (l.getD i 0) := by
  refine ⟨(List.range n).map fun i => (f i).getD 0, by simp, fun i hi => ?_⟩
  obtain ⟨a, ha⟩ := h i hi
  simp [List.getD_eq_getElem?_getD, hi, ha]
section
variable {H : Type} {enc : TypeId × Value → H} {W : World}
theorem cellsKey : Tryd.prog.cellsOf 23 = 32 := by kernel_rfl
theorem open_key {r : Reach} {b0 : Nat} {v : Value} {d : DataW H} {ps : List MemPlace} (hval : Value.okWide Tryd.prog W r b0 23 v) (hd : DataW.Trod enc Tryd.prog W 0 (fun _ => true) true 23 v d ps) :
    ∃ l : List Int, v = .agg (numsA .u8 l) ∧ l.length = 32 ∧ ∀ i, i < 32 → 0 ≤ l.getD i 0 ∧ l.getD i 0 < 256 := by
  simp only [Value.okWide, Tryd.underlying23] at hval
  obtain ⟨cs, rfl, hn, _⟩ := hval
  rw [cellsKey] at hn
  obtain ⟨fuel, hf⟩ := hd
  cases fuel with
  | zero => simp [DataW.trod] at hf
  | succ m =>
    rw [DataW.trod_step] at hf
    unfold DataW.trodStep at hf
    simp only [Tryd.underlying23, Value.cells] at hf
    rw [if_pos (by rw [cellsKey]; simpa using hn)] at hf
    simp only [Option.map_eq_some_iff, cells5, Nat.mul_one] at hf
    obtain ⟨ys, hy, _⟩ := hf
    have key : ∀ i, i < 32 → ∃ a, cs[i]? = some (.int .u8 a) ∧ 0 ≤ a ∧ a < 256 := fun i hi => by
      obtain ⟨y, hy'⟩ := mapM_some_mem hy i (List.mem_range.2 hi)
      obtain ⟨a, ea, _, wa⟩ := DataW.trod_int Tryd.underlying5 hy'
      refine ⟨a, ?_, wf_u8 wa⟩
      have e : ((cs.toList.drop i).take 1)[0]? = some (.int .u8 a) := by rw [ea]; rfl
      rw [List.getElem?_take_of_lt (by omega), List.getElem?_drop] at e
      simpa using e
    obtain ⟨l, hl, hg⟩ := list_of_get 32 (fun i => match cs[i]? with | some (.int .u8 a) => some a | _ => none) (fun i hi => by
      obtain ⟨a, ha, _⟩ := key i hi
      exact ⟨a, by simp [ha]⟩)
    have hk2 : ∀ i, i < 32 → cs[i]? = some (.int .u8 (l.getD i 0)) ∧ 0 ≤ l.getD i 0 ∧ l.getD i 0 < 256 := fun i hi => by
      obtain ⟨a, ha, hb⟩ := key i hi
      have := hg i hi
      simp only [ha, Option.some.injEq] at this
      rw [← this]
      exact ⟨ha, hb⟩
    refine ⟨l, ?_, hl, fun i hi => (hk2 i hi).2⟩
    congr 1
    apply Array.ext_getElem?
    intro i
    by_cases hi : i < 32
    · rw [(hk2 i hi).1, numsA_get .u8 l i (by omega)]
    · rw [Array.getElem?_eq_none (by omega), Array.getElem?_eq_none (by rw [numsA_size, hl]; omega)]
theorem open_key' {r : Reach} {b0 : Nat} {v : Value} {d : DataW H} {ps : List MemPlace} (hval : Value.okWide Tryd.prog W r b0 23 v) (hd : DataW.Trod enc Tryd.prog W 0 (fun _ => true) true 23 v d ps) :
    ∃ l : List Int, v = .agg (numsA .u8 l) ∧ l.length = 32 ∧ Digs 256 l := by
  obtain ⟨l, h1, h2, h3⟩ := open_key hval hd
  refine ⟨l, h1, h2, fun x hx => ?_⟩
  obtain ⟨j, hj, rfl⟩ := List.mem_iff_getElem.1 hx
  have := h3 j (by omega)
  simpa [List.getD_eq_getElem?_getD, hj] using this
end
end Go.Proofs.YtdpafemcpbhlfaaDoor
namespace Go.Proofs.YtdpafemcpbhlfaaDoor
set_option maxRecDepth 100000
open Go.RowKit Go.ChangeShapes Go.WideShapes Go.ChangeAt

theorem gTw : Tryd.prog.globalNamed "intaglio/field.twice" = some 0 := by kernel_rfl
theorem gTwT : (Tryd.prog.globals[0]?).map (·.type) = some 37 := by kernel_rfl
theorem cells26 : Tryd.prog.cellsOf 37 = 5 := by kernel_rfl
theorem cells25 : Tryd.prog.cellsOf 36 = 1 := by kernel_rfl
def tabT : List Int := [4503599627370458, 4503599627370494, 4503599627370494, 4503599627370494, 4503599627370494]
/-- What all rows of this seat list. -/
abbrev laidL : List (String × DataW Unit) := [("intaglio/field.twice", Rows.laid_intaglio_field_twice)]
theorem twice_eq : (Rows.laid_intaglio_field_twice : DataW Unit) = Lib.tabData .u64 tabT := by kernel_rfl
theorem tw_of {W : World} (h : laidMetH Tryd.prog laidL W) : Tw W := by
  unfold laidL at h
  rw [twice_eq] at h
  have t1 : Lib.TabIs Tryd.prog W "intaglio/field.twice" .u64 tabT := Lib.tabIs_of_head gTw gTwT Tryd.underlying37 Tryd.underlying36 cells25 cells26 h
  exact ⟨t1.cell gTw 0 (by decide), t1.cell gTw 1 (by decide), t1.cell gTw 2 (by decide), t1.cell gTw 3 (by decide), t1.cell gTw 4 (by decide)⟩
def putCells (cs : Array Value) : Obj → Obj
  | .cells _ t frozen => .cells cs t frozen
  | o => o
/-- A world for the witness: the settled one, the table holding what its initialiser lays. -/
noncomputable def laidW (os : Os) : World :=
  { World.holding Tryd.prog os ⟨#[], #[], []⟩ with heap := (World.holding Tryd.prog os ⟨#[], #[], []⟩).heap.modify 0 (putCells (tabT.map (Value.int .u64)).toArray) }
end Go.Proofs.YtdpafemcpbhlfaaDoor
