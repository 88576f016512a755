/-
  The walk of scalar.Clamp.
-/
import Derived.Test.YtdpafemcpbhlfaaDoorSh
namespace Go.Proofs.YtdpafemcpbhlfaaDoor
set_option maxRecDepth 100000
open Go.RowKit

theorem digs_set {B : Int} {M : List Int} (h : Digs B M) (k : Nat) (x : Int) (h0 : 0 ≤ x) (h1 : x < B) : Digs B (M.set k x) := fun y hy => by
  rcases List.mem_or_eq_of_mem_set hy with g | g
  · exact h y g
  · omega
/-- A clamped key. -/
def clampL (l : List Int) : List Int := (l.set 0 (l.getD 0 0 - l.getD 0 0 % 8)).set 31 (l.getD 31 0 % 64 + 64)
theorem and248 (x : Int) (h0 : 0 ≤ x) (h1 : x < 256) : bits .and .u8 x 248 = x - x % 8 := by
  have : ∀ n : Fin 256, bits .and .u8 (n.val : Int) 248 = (n.val : Int) - (n.val : Int) % 8 := by decide +kernel
  have h := this ⟨x.toNat, by omega⟩
  simp only [Int.toNat_of_nonneg h0] at h
  exact h
theorem and127or64 (x : Int) (h0 : 0 ≤ x) (h1 : x < 256) : bits .or .u8 (bits .and .u8 x 127) 64 = x % 64 + 64 := by
  have : ∀ n : Fin 256, bits .or .u8 (bits .and .u8 (n.val : Int) 127) 64 = (n.val : Int) % 64 + 64 := by decide +kernel
  have h := this ⟨x.toNat, by omega⟩
  simp only [Int.toNat_of_nonneg h0] at h
  exact h
theorem clampL_length (l : List Int) : (clampL l).length = l.length := by simp [clampL]
theorem clampL_digs {l : List Int} (h : Digs 256 l) : Digs 256 (clampL l) := by
  have h0 := h.get (B := 256) (by omega) 0
  have h1 := h.get (B := 256) (by omega) 31
  exact digs_set (digs_set h 0 _ (by omega) (by omega)) 31 _ (by omega) (by omega)
set_option maxHeartbeats 300000 in
theorem clamp_any (l : List Int) (w : World) (hl : l.length = 32) (hd : Digs 256 l) : Calls Tryd.prog 41 #[.agg (numsA .u8 l)] w fun e w' => e = .returned (.agg (numsA .u8 (clampL l))) ∧ Upd (fun _ => False) w w' := by
  have hz := zeroK_run
  have g0 := hd.get (B := 256) (by omega) 0
  have g1 := hd.get (B := 256) (by omega) 31
  have ha := and248 _ g0.1 g0.2
  have hb := and127or64 _ g1.1 g1.2
  have c0 : ((w.alloc (.cells (numsA .u8 l) 23)).alloc (.cells zeroK 23)).cell? ⟨w.heap.size, 0, none⟩ = some (.int .u8 (l.getD 0 0)) := by rw [((Blk.at1 w (numsA .u8 l) 23).alloc _).cell, numsA_get _ _ _ (by omega)]
  have hfr := ((Blk.at1 w (numsA .u8 l) 23).alloc (.cells zeroK 23)).frozen
  have e1 : (numsA .u8 l).setIfInBounds 0 (.int .u8 (l.getD 0 0 - l.getD 0 0 % 8)) = numsA .u8 (l.set 0 (l.getD 0 0 - l.getD 0 0 % 8)) := numsA_set _ _ _ _
  have e2 : (numsA .u8 (l.set 0 (l.getD 0 0 - l.getD 0 0 % 8))).setIfInBounds 31 (.int .u8 (l.getD 31 0 % 64 + 64)) = numsA .u8 (clampL l) := numsA_set _ _ _ _
  have hsz0 : (numsA .u8 l).size = 32 := by rw [numsA_size]; exact hl
  have hsz1 : (numsA .u8 (l.set 0 (l.getD 0 0 - l.getD 0 0 % 8))).size = 32 := by rw [numsA_size, List.length_set]; exact hl
  have c1 : ((w.alloc (.cells (numsA .u8 (l.set 0 (l.getD 0 0 - l.getD 0 0 % 8))) 23)).alloc (.cells zeroK 23)).cell? ⟨w.heap.size, 31, none⟩ = some (.int .u8 (l.getD 31 0)) := by rw [((Blk.at1 w _ 23).alloc _).cell, numsA_get _ _ _ (by rw [List.length_set]; omega), getD_set_ne _ _ _ _ (by omega)]
  have hfr1 := ((Blk.at1 w (numsA .u8 (l.set 0 (l.getD 0 0 - l.getD 0 0 % 8))) 23).alloc (.cells zeroK 23)).frozen
  have Hfin := Lib.hid ((Blk.at1 w (numsA .u8 (clampL l)) 23).alloc (.cells zeroK 23))
  have Hres := Lib.hid (Blk.at2 w (.cells (numsA .u8 (clampL l)) 23) zeroK 23)
  have HS : Hid ((numsA .u8 (clampL l)).size = 32) := by show _ = _; rw [numsA_size, clampL_length]; exact hl
  generalize l.getD 0 0 = x at *
  generalize l.getD 31 0 = y at *
  generalize l.set 0 (x - x % 8) = l1 at *
  go_enter Tryd.func41, Tryd.ntmps41
  go_wp2_with (first
    | (refine wpList_loadBlk rfl 23 _ rfl w.heap.size 0 32 rfl 23 (numsA .u8 (clampL l)) _ Hfin.out Tryd.underlying23 rfl sizeKey (by rw [HS.out]; omega) ?_; rw [extract_all _ _ HS.out])
    | (refine wpList_storeBlk2 rfl 23 _ _ rfl (w.heap.size + 1) 0 32 rfl (numsA .u8 (clampL l)) rfl 23 _ Hres.out sizeKey HS.out (by rw [zeroK_size]; omega) (numsA_one _ _) ?_; intro wz hbz huz hzz; rw [splice_all _ _ 32 zeroK_size HS.out] at hbz; have Hbz := Lib.hid hbz; have Huz := Lib.hid huz; clear hbz huz hzz))
  exact bodyPost_ret (v := .agg (numsA .u8 (clampL l))) (results_cell_row (fn := Tryd.f41) (p := 2) (ty := 23) rfl _ _ (w.heap.size + 1) 23 _ (0, 0) _ rfl Hbz.out Tryd.underlying23 rfl (by rw [HS.out]; exact sizeKey)) rfl ⟨rfl, (((Upd.refl (fun _ => False) w).alloc _).alloc _).step Huz.out (fun i hi h => by omega)⟩
end Go.Proofs.YtdpafemcpbhlfaaDoor
