/-
  Walks of Sub, Neg, Swap.
-/
import Derived.Test.YtdpafemcpbhlfaaDoorMul
namespace Go.Proofs.YtdpafemcpbhlfaaDoor
set_option maxRecDepth 100000
open Go.RowKit

/-- The table of twice p, as the program's text has it. -/
def Tw (w : World) : Prop := w.cell? ⟨0, 0, none⟩ = some (.int .u64 4503599627370458) ∧ w.cell? ⟨0, 1, none⟩ = some (.int .u64 4503599627370494) ∧ w.cell? ⟨0, 2, none⟩ = some (.int .u64 4503599627370494) ∧ w.cell? ⟨0, 3, none⟩ = some (.int .u64 4503599627370494) ∧ w.cell? ⟨0, 4, none⟩ = some (.int .u64 4503599627370494)
theorem Tw.upd {w w' : World} (h : Tw w) (hu : Upd (fun _ => False) w w') : Tw w' := ⟨hu.cell h.1 (fun h => h), hu.cell h.2.1 (fun h => h), hu.cell h.2.2.1 (fun h => h), hu.cell h.2.2.2.1 (fun h => h), hu.cell h.2.2.2.2 (fun h => h)⟩
theorem sub_math {x0 x1 x2 x3 x4 y0 y1 y2 y3 y4 m n : Int} (hx : Fits x0 x1 x2 x3 x4 m) (hy : Fits y0 y1 y2 y3 y4 n) : Cong (val5 (x0 + (4503599627370458 - y0)) (x1 + (4503599627370494 - y1)) (x2 + (4503599627370494 - y2)) (x3 + (4503599627370494 - y3)) (x4 + (4503599627370494 - y4))) (m - n) := by
  refine Cong.trans ⟨2, ?_⟩ (Cong.sub hx.cong hy.cong)
  unfold val5 pp
  omega
set_option maxHeartbeats 2000000 in
theorem sub_any (x0 x1 x2 x3 x4 y0 y1 y2 y3 y4 m n : Int) (w : World) (hT : Tw w) (hx : Fits x0 x1 x2 x3 x4 m) (hy : Fits y0 y1 y2 y3 y4 n) :
    Calls Tryd.prog 46 #[.agg #[.int .u64 x0, .int .u64 x1, .int .u64 x2, .int .u64 x3, .int .u64 x4], .agg #[.int .u64 y0, .int .u64 y1, .int .u64 y2, .int .u64 y3, .int .u64 y4]] w (RetE (m - n) w) := by
  have HM := Lib.hid (sub_math hx hy)
  obtain ⟨i0, i1, i2, i3, i4⟩ := idx5a (.int .u64 y0) (.int .u64 y1) (.int .u64 y2) (.int .u64 y3) (.int .u64 y4)
  obtain ⟨a0, c0, a1, c1, a2, c2, a3, c3, a4, c4, hcx⟩ := hx
  obtain ⟨b0, d0, b1, d1, b2, d2, b3, d3, b4, d4, hcy⟩ := hy
  have hz : 0 < w.heap.size := block_lt_of_cell hT.1
  obtain ⟨t0, t1, t2, t3, t4⟩ := hT
  clear hcx hcy
  go_enter Tryd.func46, Tryd.ntmps46
  go_wp2
  refine wp_loop_rounds 6 ?_
  iterate 5 (rw [rounds_succ]; go_wp2; go_region; go_wp2)
  rw [rounds_succ]
  go_wp2_with fail
  refine (carried_any _ _ _ _ _ _ (by omega) (by omega) (by omega) (by omega) (by omega) (by omega) (by omega) (by omega) (by omega) (by omega)).mono ?_
  rintro e w1 ⟨z0, z1, z2, z3, z4, hF, rfl, hu⟩
  have Hb := Lib.hid (hu.blk (show Blk _ (w.heap.size + 1 + 1) 39 #[.int .u64 0, .int .u64 0, .int .u64 0, .int .u64 0, .int .u64 0] from ((Blk.at3 w _ _ _ _).alloc _)) (fun h => h))
  have Hu := Lib.hid (((((((((((Upd.refl (fun _ => False) w).alloc _).alloc _).alloc _).alloc _).drew).drew).drew).drew).drew).trans hu)
  have HF := Lib.hid (hF.to HM.out)
  have Hone := Lib.hid (one5 z0 z1 z2 z3 z4)
  clear hF hu HM
  go_wp2_with (refine wpList_storeBlk2 rfl 39 _ _ rfl (w.heap.size + 1 + 1) 0 5 rfl #[.int .u64 z0, .int .u64 z1, .int .u64 z2, .int .u64 z3, .int .u64 z4] rfl 39 _ Hb.out info28 rfl (by simp) Hone.out ?_; intro wz hbz huz hzz)
  rw [splice_all _ _ 5 rfl rfl] at hbz
  exact bodyPost_ret (v := .agg #[.int .u64 z0, .int .u64 z1, .int .u64 z2, .int .u64 z3, .int .u64 z4]) (results_cell_row (fn := Tryd.f46) (p := 4) (ty := 39) rfl _ _ (w.heap.size + 1 + 1) 39 _ (0, 0) _ rfl hbz Tryd.underlying39 rfl info28) rfl ⟨_, _, _, _, _, HF.out, rfl, Hu.out.step huz (fun i hi h => by omega)⟩

theorem fits_zero : Fits 0 0 0 0 0 0 := ⟨by omega, by omega, by omega, by omega, by omega, by omega, by omega, by omega, by omega, by omega, ⟨0, by decide⟩⟩
set_option maxHeartbeats 2000000 in
theorem neg_any (x0 x1 x2 x3 x4 m : Int) (w : World) (hT : Tw w) (hx : Fits x0 x1 x2 x3 x4 m) :
    Calls Tryd.prog 63 #[.agg #[.int .u64 x0, .int .u64 x1, .int .u64 x2, .int .u64 x3, .int .u64 x4]] w (RetE (-m) w) := by
  have Hx := Lib.hid hx
  have HT := Lib.hid hT
  clear hx hT
  go_enter Tryd.func63, Tryd.ntmps63
  go_wp2_with fail
  refine (sub_any 0 0 0 0 0 x0 x1 x2 x3 x4 0 m _ (HT.out.upd (((Upd.refl _ w).alloc _).alloc _)) fits_zero Hx.out).mono ?_
  rintro e w1 ⟨z0, z1, z2, z3, z4, hF, rfl, hu⟩
  have Hb := Lib.hid (hu.blk (Blk.at2 w _ _ _) (fun h => h))
  have Hu := Lib.hid ((((Upd.refl (fun _ => False) w).alloc _).alloc _).trans hu)
  have HF := Lib.hid hF
  have Hone := Lib.hid (one5 z0 z1 z2 z3 z4)
  clear hF hu
  go_wp2_with (refine wpList_storeBlk2 rfl 39 _ _ rfl (w.heap.size + 1) 0 5 rfl #[.int .u64 z0, .int .u64 z1, .int .u64 z2, .int .u64 z3, .int .u64 z4] rfl 39 _ Hb.out info28 rfl (by simp) Hone.out ?_; intro wz hbz huz hzz)
  rw [splice_all _ _ 5 rfl rfl] at hbz
  refine bodyPost_ret (v := .agg #[.int .u64 z0, .int .u64 z1, .int .u64 z2, .int .u64 z3, .int .u64 z4]) (results_cell_row (fn := Tryd.f63) (p := 2) (ty := 39) rfl _ _ (w.heap.size + 1) 39 _ (0, 0) _ rfl hbz Tryd.underlying39 rfl info28) rfl ⟨_, _, _, _, _, HF.out.to ?_, rfl, Hu.out.step huz (fun i hi h => by omega)⟩
  rw [Int.zero_sub]
  exact Cong.refl _
set_option maxHeartbeats 2000000 in
theorem swapT_any (x0 x1 x2 x3 x4 y0 y1 y2 y3 y4 : Int) (w : World) :
    Calls Tryd.prog 85 #[.bool true, .agg #[.int .u64 x0, .int .u64 x1, .int .u64 x2, .int .u64 x3, .int .u64 x4], .agg #[.int .u64 y0, .int .u64 y1, .int .u64 y2, .int .u64 y3, .int .u64 y4]] w fun e w' => e = .returned (.tuple #[.agg #[.int .u64 y0, .int .u64 y1, .int .u64 y2, .int .u64 y3, .int .u64 y4], .agg #[.int .u64 x0, .int .u64 x1, .int .u64 x2, .int .u64 x3, .int .u64 x4]]) ∧ Upd (fun _ => False) w w' := by
  go_enter Tryd.func85, Tryd.ntmps85
  go_wp2
  go_region
  all_goals
    go_wp2
    exact bodyPost_ret (v := .tuple #[.agg #[.int .u64 y0, .int .u64 y1, .int .u64 y2, .int .u64 y3, .int .u64 y4], .agg #[.int .u64 x0, .int .u64 x1, .int .u64 x2, .int .u64 x3, .int .u64 x4]]) (by simp [results, Tryd.results85, go_sem]) rfl ⟨rfl, ((((Upd.refl _ w).alloc _).alloc _).alloc _).alloc _ |>.drew⟩
set_option maxHeartbeats 2000000 in
theorem swapF_any (x0 x1 x2 x3 x4 y0 y1 y2 y3 y4 : Int) (w : World) :
    Calls Tryd.prog 85 #[.bool false, .agg #[.int .u64 x0, .int .u64 x1, .int .u64 x2, .int .u64 x3, .int .u64 x4], .agg #[.int .u64 y0, .int .u64 y1, .int .u64 y2, .int .u64 y3, .int .u64 y4]] w fun e w' => e = .returned (.tuple #[.agg #[.int .u64 x0, .int .u64 x1, .int .u64 x2, .int .u64 x3, .int .u64 x4], .agg #[.int .u64 y0, .int .u64 y1, .int .u64 y2, .int .u64 y3, .int .u64 y4]]) ∧ Upd (fun _ => False) w w' := by
  go_enter Tryd.func85, Tryd.ntmps85
  go_wp2
  go_region
  all_goals
    go_wp2
    exact bodyPost_ret (v := .tuple #[.agg #[.int .u64 x0, .int .u64 x1, .int .u64 x2, .int .u64 x3, .int .u64 x4], .agg #[.int .u64 y0, .int .u64 y1, .int .u64 y2, .int .u64 y3, .int .u64 y4]]) (by simp [results, Tryd.results85, go_sem]) rfl ⟨rfl, ((((Upd.refl _ w).alloc _).alloc _).alloc _).alloc _ |>.drew⟩
end Go.Proofs.YtdpafemcpbhlfaaDoor
