/-
  What the rows' readings give: bytes.
-/
import Derived.Test.YtmfjlicchgacmaaDoorOpenTw
namespace Go.Proofs.YtmfjlicchgacmaaDoor
open Go.RowKit Go.ChangeShapes Go.WideShapes Go.ChangeAt

theorem bytesU8 : Tryd.prog.bytesOf 5 = 1 := by kernel_rfl
section
variable {H : Type} {enc : TypeId × Value → H} {W : World}
theorem addr_none {W : World} {x : Addr} {v : Value} (h : W.cell? (x.add 0) = some v) : ∃ b o, x = ⟨b, o, none⟩ := by
  obtain ⟨b, o, s⟩ := x
  cases s with
  | none => exact ⟨b, o, rfl⟩
  | some s =>
    exfalso
    rw [show (⟨b, o, some s⟩ : Addr).add 0 = ⟨b, o, some s⟩ from rfl] at h
    unfold World.cell? at h
    split at h
    · rw [if_pos (show (⟨b, o, some s⟩ : Addr).spot.isSome = true from rfl)] at h; cases h
    · cases h
theorem open_bytes {fuel len cap : Nat} {a : Option Addr} {d : DataW H} {ps : List MemPlace} (h : DataW.trod enc Tryd.prog W 0 (fun _ => true) true fuel 22 [.slice a len cap] = some (d, ps)) (hw : ∀ n ∈ d.weights Tryd.prog 22, n ≤ reachBytes) :
    ∃ (l : List Int) (pb po : Nat), l.length = len ∧ Digs 256 l ∧ len ≤ cap ∧ cap ≤ 140737488355328 ∧ (0 < len → a = some ⟨pb, po, none⟩) ∧ ∀ j, j < len → W.cell? ⟨pb, po + j, none⟩ = some (.int .u8 (l.getD j 0)) := by
  rcases open_ints Tryd.underlying22 Tryd.underlying5 cells5 h with ⟨hcs, _⟩ | ⟨x, l, c, zs, hcs, _, hl, hm, hz, hx, hcell, hwz⟩
  · simp only [List.cons.injEq, Value.slice.injEq, and_true] at hcs
    obtain ⟨rfl, rfl, rfl⟩ := hcs
    exact ⟨[], 0, 0, rfl, (fun x hx => by cases hx), by omega, by omega, fun h => absurd h (by omega), fun j hj => absurd hj (by omega)⟩
  · simp only [List.cons.injEq, Value.slice.injEq, and_true] at hcs
    obtain ⟨rfl, rfl, rfl⟩ := hcs
    rw [if_pos rfl] at hz
    have hd : d = .slice (lits .u8 (zs.take len)) (lits .u8 (zs.drop len)) := (Prod.mk.inj hx).1
    have hb : ((lits (H := H) .u8 (zs.take len)).length + (lits (H := H) .u8 (zs.drop len)).length) * Tryd.prog.bytesOf 5 ≤ reachBytes := hw _ (by rw [hd]; simp [DataW.weights, Tryd.underlying22])
    rw [bytesU8] at hb
    simp only [lits, List.length_map, List.length_take, List.length_drop, reachBytes] at hb
    have hll : (zs.take len).length = len := by simp; omega
    have hdig : Digs 256 (zs.take len) := fun y hy => wf_u8 (hwz _ (List.mem_of_mem_take hy))
    by_cases h0 : 0 < len
    · have hc0 := hcell 0 (by omega)
      obtain ⟨b, o, rfl⟩ := addr_none hc0
      have hadd : ∀ j, (⟨b, o, none⟩ : Addr).add j = ⟨b, o + j, none⟩ := fun j => by unfold Addr.add; split <;> simp_all
      refine ⟨zs.take len, b, o, hll, hdig, by omega, by omega, fun _ => rfl, fun j hj => ?_⟩
      have := hcell j (by omega)
      rw [hadd] at this
      rw [this, List.getD_eq_getElem?_getD, List.getD_eq_getElem?_getD, List.getElem?_take_of_lt (by omega)]
    · exact ⟨zs.take len, 0, 0, hll, hdig, by omega, by omega, fun h => absurd h h0, fun j hj => absurd hj (by omega)⟩
end
end Go.Proofs.YtmfjlicchgacmaaDoor
