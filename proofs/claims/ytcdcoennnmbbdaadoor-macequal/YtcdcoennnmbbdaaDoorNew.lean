/-
  New256.
-/
import Derived.Test.YtcdcoennnmbbdaaDoorPad
namespace Go.Proofs.YtcdcoennnmbbdaaDoor
open Go.RowKit

structure NRel (w wr : World) (k : Nat) : Prop where
  upd : Upd (fun _ => False) w wr
  blk : ∃ arr, Blk wr w.heap.size 67 arr ∧ arr.size = 137 ∧ Nums arr .u8 0 128 (fun _ => 0) ∧ arr[128]? = some (.int .i64 0) ∧ Nums arr .u32 129 8 (fun j => if j < k then H0 j else 0)
def zero67 : Array Value := Array.replicate 128 (.int .u8 0) ++ #[.int .i64 0] ++ Array.replicate 8 (.int .u32 0)
theorem NRel.start (w : World) (arr : Array Value) (h : arr = zero67) : NRel w (w.alloc (.cells arr 67)) 0 := by
  refine ⟨(Upd.refl _ w).alloc _, arr, Blk.new w arr 67, by rw [h]; simp [zero67], ?_, by rw [h, zero67, Array.getElem?_append_left (by simp), Array.getElem?_append_right (by simp)]; simp, ?_⟩
  · rw [h]
    intro j hj
    rw [Nat.zero_add, zero67, Array.getElem?_append_left (by simp; omega), Array.getElem?_append_left (by simpa using hj), Array.getElem?_replicate, if_pos hj]
  · rw [h]
    intro j hj
    rw [zero67, Array.getElem?_append_right (by simp)]
    simp [hj]
theorem NRel.next {w wr : World} {k : Nat} (h : NRel w wr k) (hk : k < 8) : NRel w (wr.setCell ⟨w.heap.size, 129 + k, none⟩ (.int .u32 (H0 k))).drew (k + 1) := by
  obtain ⟨arr, h1, h2, h3, h4, h5⟩ := h.blk
  refine ⟨(h.upd.set _ (by simp)).drew, _, Blk.set h1 _ _, by simpa using h2, h3.setOut _ _ (by omega), ?_, ?_⟩
  · rw [Array.getElem?_setIfInBounds_ne (by omega)]; exact h4
  · refine (h5.setIn k hk _).congr fun j hj => ?_
    by_cases e : j = k
    · simp [e]
    · by_cases l : j < k
      · simp [e, l, show j < k + 1 by omega]
      · simp [e, l, show ¬ j < k + 1 by omega]

set_option maxHeartbeats 1000000 in
set_option maxRecDepth 100000 in
theorem new256_any (w : World) (hT : Tabs w) :
    Calls Tryd.prog 28 #[] w fun e w' => e = .returned (.pointer (some ⟨w.heap.size, 0, none⟩)) ∧ Upd (fun _ => False) w w' ∧ HashAt w' w.heap.size [] := by
  have hbd : ∀ w, (zeroValue 67).run Tryd.prog w = .ok (.agg zero67) w := fun _ => by kernel_rfl
  go_enter Tryd.func28, Tryd.ntmps28
  go_wp2
  go_loopw [5] (fun i wr => ∃ k : Nat, k ≤ 8 ∧ i = .int .i64 k ∧ NRel w wr k) (fun i _ => 8 - (intOf i).toNat)
  case atStart => exact ⟨0, by omega, rfl, NRel.start w _ rfl⟩
  case round =>
    obtain ⟨k, hk, rfl, hrel⟩ := hrel
    obtain ⟨arr, h1, h2, h3, h4, h5⟩ := hrel.blk
    by_cases hlt : k < 8
    · have hc : wr.cell? ⟨w.heap.size, 129 + k, none⟩ = some (.int .u32 0) := by rw [h1.cell, h5 k hlt]; simp
      have hf : wr.frozen? ⟨w.heap.size, 129 + k, none⟩ = false := h1.frozen _
      have ht : wr.cell? ⟨0, k, none⟩ = some (.int .u64 (tabH.getD k 0)) := hrel.upd.cell (hT.H k hlt) (fun h => h)
      have Hx : Hid (H0 k = tabH.getD k 0 / 4294967296 % 4294967296) := rfl
      generalize tabH.getD k 0 = x at *
      clear h1 h2 h3 h4 h5
      go_wp2
      go_region
      go_wp2
      go_roundw
      case rel =>
        have := hrel.next hlt
        rw [Hx.out] at this
        exact ⟨k + 1, by omega, by go_num, this⟩
      case measure => simp [intOf]; omega
    · go_wp2
      go_ret
      refine ⟨rfl, hrel.upd, arr, fun _ => 0, h1, h2, h3, fun j hj => absurd hj (by simp), h4, h5.congr fun j hj => ?_⟩
      rw [if_pos (by omega)]
      rfl
end Go.Proofs.YtcdcoennnmbbdaaDoor
