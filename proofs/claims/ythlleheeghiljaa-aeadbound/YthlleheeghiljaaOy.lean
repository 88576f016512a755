/-
  What the rows' readings give: arrays of numbers, slices of bytes. For any program.
-/
import Derived.Test.YthlleheeghiljaaSyk
import Derived.ProofKit
import Derived.OpenShut
import Derived.ShutString
import Derived.ChangeOld
import Derived.SizedLaws
import Derived.LaidSub
import Derived.Deep.DeepHandedRow
import Derived.Deep.Slices
import Derived.Lib.LaidTab
import Derived.WideKeyPair
namespace Go.Proofs.Ythlleheeghiljaa
open Go.RowKit Go.ChangeShapes Go.WideShapes Go.ChangeAt

def Bys (l : List Int) : Prop := ∀ x ∈ l, 0 ≤ x ∧ x < 256
theorem mapM_some_mem {α β : Type} {f : α → Option β} : ∀ {L : List α} {ys : List β}, L.mapM f = some ys → ∀ i ∈ L, ∃ y, f i = some y
  | [], _, _, i, hi => by cases hi
  | a :: L, ys, h, i, hi => by
    rw [List.mapM_cons] at h
    simp only [bind, Option.bind_eq_some_iff, pure, Option.some.injEq] at h
    obtain ⟨y, hy, zs, hz, rfl⟩ := h
    rcases List.mem_cons.1 hi with rfl | hi
    · exact ⟨y, hy⟩
    · exact mapM_some_mem hz i hi
theorem list_of_get (n : Nat) (f : Nat → Option Int) (h : ∀ i, i < n → ∃ a, f i = some a) : ∃ l : List Int, l.length = n ∧ ∀ i, i < n → f i = some (l.getD i 0) := by
  refine ⟨(List.range n).map fun i => (f i).getD 0, by simp, fun i hi => ?_⟩
  obtain ⟨a, ha⟩ := h i hi
  simp [List.getD_eq_getElem?_getD, hi, ha]
theorem wf_u8 {n : Int} (h : (Lit.int .u8 n).wf = true) : 0 ≤ n ∧ n < 256 := by
  have := bounds_u8 h
  omega
section
variable {P : Program} {H : Type} {enc : TypeId × Value → H} {W : World}
/-- An array of numbers. -/
theorem open_arr {T e : TypeId} {n : Nat} {k : IntKind} (hu : P.underlying T = some (.array n e)) (hue : P.underlying e = some (.int k)) (hc : P.cellsOf T = n) (hce : P.cellsOf e = 1) {r : Reach} {b0 : Nat} {v : Value} {d : DataW H} {ps : List MemPlace} (hval : Value.okWide P W r b0 T v) (hd : DataW.Trod enc P W 0 (fun _ => true) true T v d ps) :
    ∃ l : List Int, v = .agg (l.map (Value.int k)).toArray ∧ l.length = n ∧ ∀ x ∈ l, (Lit.int k x).wf = true := by
  simp only [Value.okWide, hu] at hval
  obtain ⟨cs, rfl, hn, _⟩ := hval
  rw [hc] at hn
  obtain ⟨fuel, hf⟩ := hd
  cases fuel with
  | zero => simp [DataW.trod] at hf
  | succ m =>
    rw [DataW.trod_step] at hf
    unfold DataW.trodStep at hf
    simp only [hu, Value.cells] at hf
    rw [if_pos (by rw [hc]; simpa using hn)] at hf
    simp only [Option.map_eq_some_iff, hce, Nat.mul_one] at hf
    obtain ⟨ys, hy, _⟩ := hf
    have key : ∀ i, i < n → ∃ a, cs[i]? = some (.int k a) ∧ (Lit.int k a).wf = true := fun i hi => by
      obtain ⟨y, hy'⟩ := mapM_some_mem hy i (List.mem_range.2 hi)
      obtain ⟨a, ea, _, wa⟩ := DataW.trod_int hue hy'
      refine ⟨a, ?_, wa⟩
      have e : ((cs.toList.drop i).take 1)[0]? = some (.int k a) := by rw [ea]; rfl
      rw [List.getElem?_take_of_lt (by omega), List.getElem?_drop] at e
      simpa using e
    obtain ⟨l, hl, hg⟩ := list_of_get n (fun i => match cs[i]? with | some (.int _ a) => some a | _ => none) (fun i hi => by
      obtain ⟨a, ha, _⟩ := key i hi
      exact ⟨a, by simp [ha]⟩)
    have hk2 : ∀ i, i < n → cs[i]? = some (.int k (l.getD i 0)) ∧ (Lit.int k (l.getD i 0)).wf = true := fun i hi => by
      obtain ⟨a, ha, hb⟩ := key i hi
      have := hg i hi
      simp only [ha, Option.some.injEq] at this
      rw [← this]
      exact ⟨ha, hb⟩
    refine ⟨l, ?_, hl, fun x hx => ?_⟩
    · congr 1
      apply Array.ext_getElem?
      intro i
      by_cases hi : i < n
      · rw [(hk2 i hi).1]
        simp [List.getD_eq_getElem?_getD, show i < l.length by omega]
      · rw [Array.getElem?_eq_none (by omega), Array.getElem?_eq_none (by simp; omega)]
    · obtain ⟨j, hj, rfl⟩ := List.mem_iff_getElem.1 hx
      have := (hk2 j (by omega)).2
      simpa [List.getD_eq_getElem?_getD, hj] using this
theorem open_arr8 {T e : TypeId} {n : Nat} (hu : P.underlying T = some (.array n e)) (hue : P.underlying e = some (.int .u8)) (hc : P.cellsOf T = n) (hce : P.cellsOf e = 1) {r : Reach} {b0 : Nat} {v : Value} {d : DataW H} {ps : List MemPlace} (hval : Value.okWide P W r b0 T v) (hd : DataW.Trod enc P W 0 (fun _ => true) true T v d ps) :
    ∃ l : List Int, v = .agg (l.map (Value.int .u8)).toArray ∧ l.length = n ∧ Bys l := by
  obtain ⟨l, h1, h2, h3⟩ := open_arr hu hue hc hce hval hd
  exact ⟨l, h1, h2, fun x hx => wf_u8 (h3 x hx)⟩
theorem addr_none {x : Addr} {v : Value} (h : W.cell? (x.add 0) = some v) : ∃ b o, x = ⟨b, o, none⟩ := by
  obtain ⟨b, o, s⟩ := x
  cases s with
  | none => exact ⟨b, o, rfl⟩
  | some s =>
    exfalso
    rw [show (⟨b, o, some s⟩ : Addr).add 0 = ⟨b, o, some s⟩ from rfl] at h
    unfold World.cell? at h
    split at h
    · rw [if_pos (show (⟨b, o, some s⟩ : Addr).spot.isSome = true from rfl)] at h; cases h
    · cases h
/-- A slice of bytes. -/
theorem open_bytes {T e : TypeId} (hu : P.underlying T = some (.slice e)) (hue : P.underlying e = some (.int .u8)) (hce : P.cellsOf e = 1) (hbe : P.bytesOf e = 1) {fuel len cap : Nat} {a : Option Addr} {d : DataW H} {ps : List MemPlace} (h : DataW.trod enc P W 0 (fun _ => true) true fuel T [.slice a len cap] = some (d, ps)) (hw : ∀ n ∈ d.weights P T, n ≤ reachBytes) :
    ∃ (l : List Int) (pb po : Nat), l.length = len ∧ Bys l ∧ len ≤ cap ∧ cap ≤ 140737488355328 ∧ (0 < len → a = some ⟨pb, po, none⟩) ∧ ∀ j, j < len → W.cell? ⟨pb, po + j, none⟩ = some (.int .u8 (l.getD j 0)) := by
  rcases open_ints hu hue hce h with ⟨hcs, _⟩ | ⟨x, l, c, zs, hcs, _, hl, hm, hz, hx, hcell, hwz⟩
  · simp only [List.cons.injEq, Value.slice.injEq, and_true] at hcs
    obtain ⟨rfl, rfl, rfl⟩ := hcs
    exact ⟨[], 0, 0, rfl, (fun x hx => by cases hx), by omega, by omega, fun h => absurd h (by omega), fun j hj => absurd hj (by omega)⟩
  · simp only [List.cons.injEq, Value.slice.injEq, and_true] at hcs
    obtain ⟨rfl, rfl, rfl⟩ := hcs
    rw [if_pos rfl] at hz
    have hd : d = .slice (lits .u8 (zs.take len)) (lits .u8 (zs.drop len)) := (Prod.mk.inj hx).1
    have hb : ((lits (H := H) .u8 (zs.take len)).length + (lits (H := H) .u8 (zs.drop len)).length) * P.bytesOf e ≤ reachBytes := hw _ (by rw [hd]; simp [DataW.weights, hu])
    rw [hbe] at hb
    simp only [lits, List.length_map, List.length_take, List.length_drop, reachBytes] at hb
    have hll : (zs.take len).length = len := by simp; omega
    have hdig : Bys (zs.take len) := fun y hy => wf_u8 (hwz _ (List.mem_of_mem_take hy))
    by_cases h0 : 0 < len
    · have hc0 := hcell 0 (by omega)
      obtain ⟨b, o, rfl⟩ := addr_none hc0
      have hadd : ∀ j, (⟨b, o, none⟩ : Addr).add j = ⟨b, o + j, none⟩ := fun j => by unfold Addr.add; split <;> simp_all
      refine ⟨zs.take len, b, o, hll, hdig, by omega, by omega, fun _ => rfl, fun j hj => ?_⟩
      have := hcell j (by omega)
      rw [hadd] at this
      rw [this, List.getD_eq_getElem?_getD, List.getD_eq_getElem?_getD, List.getElem?_take_of_lt (by omega)]
    · exact ⟨zs.take len, 0, 0, hll, hdig, by omega, by omega, fun h => absurd h h0, fun j hj => absurd hj (by omega)⟩
/-- What is read is so for the evaluator. -/
theorem da_arr {gl : List (Nat × L)} {k : IntKind} {n : Nat} {l : List Int} (h : l.length = n) : DA (cxL W gl) be0 (.o (.g [.many n (.i k l)])) (.agg (l.map (Value.int k)).toArray) :=
  ⟨_, rfl, [], by simp [L.c], h, fun x hx => by
    obtain ⟨y, _, rfl⟩ := List.mem_map.1 hx
    rfl, rfl⟩
theorem da_int {gl : List (Nat × L)} {k : IntKind} {x : Int} : DA (cxL W gl) be0 (.o (.c (.v (.int k x)))) (.int k x) := rfl
theorem da_bytes {gl : List (Nat × L)} {a : Option Addr} {len cap pb po : Nat} {l : List Int} (hl : l.length = len) (hc : len ≤ cap) (hr : cap ≤ 140737488355328) (hsp : 0 < len → a = some ⟨pb, po, none⟩) (hcs : ∀ j, j < len → W.cell? ⟨pb, po + j, none⟩ = some (.int .u8 (l.getD j 0))) :
    DA (cxL W gl) be0 (.o (.c (.rs 1 len (.i .u8 l)))) (.slice a len cap) := by
  refine ⟨a, cap, rfl, hc, by unfold mx; omega, by simpa [L.len] using hl, fun h0 => ⟨pb, po, hsp h0, block_lt_of_cell (hcs 0 h0), fun h => h, fun x hx => ?_, fun j hj => ?_⟩⟩
  · obtain ⟨y, _, rfl⟩ := List.mem_map.1 hx
    rfl
  · have hj' : j < l.length := hj
    show W.cell? _ = _
    rw [hcs j (by omega)]
    simp [L.c, hj', List.getD_eq_getElem?_getD]
end
end Go.Proofs.Ythlleheeghiljaa
