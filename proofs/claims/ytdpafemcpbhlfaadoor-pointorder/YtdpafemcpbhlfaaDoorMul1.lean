/-
  Walks of point: Zero, Multiply.
-/
import Derived.Test.YtdpafemcpbhlfaaDoorPtBase
import Derived.Test.YtdpafemcpbhlfaaDoorClamp
namespace Go.Proofs.YtdpafemcpbhlfaaDoor
set_option maxRecDepth 100000
open Go.RowKit

set_option maxHeartbeats 4000000 in
theorem zeroP (w : World) :
    Calls Tryd.prog 33 #[] w (RetC 5 RE [fv 0, fv 1, fv 1, (fv 0) * (fv 1)] w) := by
  have HU := hh (Upd.refl (fun _ => False) w)
  go_enter Tryd.func33, Tryd.ntmps33
  refine wp_seq_k fun K0 hK0 => ?_
  refine wp_region_qSD 1 #[true] [] ([.blk ptrTo 41 (Ch 5 RE [0, 0, 0, 0])] : List SQ) (by kernel_rfl) (by kernel_rfl) (by kernel_rfl) (by kernel_rfl) ?_ ?_
  · intro i o listed an wn ho hls hst hun hdep hI hD hpre K' hK'
    rcases slot_cases (l := [0]) rfl ho hst with rfl | ⟨⟨⟩⟩
    · obtain rfl := Option.some.inj ho
      exact hI.newQ hD hls (Nat.le_refl _) (newsQ_spec (l := [0]) (by kernel_rfl) ⟨⟨_, _, rfl⟩, trivial⟩) rfl rfl rfl 41 zPt _ (run_allocQ rfl zPt_run wn) rfl zPt_ch hK'
  intro an w1 hI
  obtain ⟨vr0_0, hvr0_0, br0_0, zr0_0, rfl, hnr0_0, hbr0_0, hzr0_0⟩ := hI.hq 0 _ 0 _ rfl rfl rfl rfl
  have hupd := hI.upd
  have ha := hI.act [(0, ptrTo br0_0)] (by simp [hvr0_0]) (by kernel_rfl)
  clear hI hvr0_0
  subst ha
  simp only [List.foldl_cons, List.foldl_nil, List.setIfInBounds_toArray, List.set_cons_zero]
  have hger0_0 := geB HU hnr0_0
  have Bxr0y0 := hh hbr0_0
  have HU0 := hh (HU.out.trans hupd)
  clear hupd
  refine wpOps_nil ?_
  refine hK0 _ _ ?_
  clear hK0
  refine wp_seq_k fun K1 hK1 => ?_
  refine wp_region_qSD 3 #[true, true, true, false] [3] ([.like (IsC 5 RE [fv 0]), .like (IsC 5 RE [fv 1]), .like (IsC 5 RE [fv 0, fv 1, fv 1, (fv 0) * (fv 1)]), .val undef] : List SQ) (by kernel_rfl) (by kernel_rfl) (by kernel_rfl) (by kernel_rfl) ?_ ?_
  · intro i o listed an wn ho hls hst hun hdep hI hD hpre K' hK'
    rcases slot_cases (l := [0, 1, 2]) rfl ho hst with rfl | rfl | rfl | ⟨⟨⟩⟩
    · obtain rfl := Option.some.inj ho
      exact hI.cq hD hls rfl rfl rfl 43 #[.const (.int .u32 0)] _ rfl #[.int .u32 0] (by simp [Act.eval]) (run_enter Tryd.func43 (by kernel_rfl) (by kernel_rfl)) (.like (IsC 5 RE [fv 0])) rfl rfl ((smallE 0 (by decide) (by decide)).mono fun _ _ h => h.sq) hK'
    · obtain rfl := Option.some.inj ho
      exact hI.cq hD hls rfl rfl rfl 43 #[.const (.int .u32 1)] _ rfl #[.int .u32 1] (by simp [Act.eval]) (run_enter Tryd.func43 (by kernel_rfl) (by kernel_rfl)) (.like (IsC 5 RE [fv 1])) rfl rfl ((smallE 1 (by decide) (by decide)).mono fun _ _ h => h.sq) hK'
    · obtain rfl := Option.some.inj ho
      obtain ⟨vp, hvp, ap, rfl, hCp⟩ := hI.hq 0 _ 1 _ rfl rfl rfl (dp hdep 0 rfl rfl)
      obtain ⟨vq, hvq, aq, rfl, hCq⟩ := hI.hq 1 _ 2 _ rfl rfl rfl (dp hdep 1 rfl rfl)
      exact hI.cq hD hls rfl rfl rfl 64 #[.tmp 1, .tmp 2] _ rfl #[.agg ap, .agg aq] (by simp [eval_of hvp, eval_of hvq]) (run_enter Tryd.func64 (by kernel_rfl) (by kernel_rfl)) (.like (IsC 5 RE [fv 0, fv 1, fv 1, (fv 0) * (fv 1)])) rfl rfl ((ofP _ hCp hCq).mono fun _ _ h => h.sq) hK'
  intro an w2 hI
  obtain ⟨vr1_0, hvr1_0, ar1_0, rfl, hCr1_0⟩ := hI.hq 0 _ 1 _ rfl rfl rfl rfl
  obtain ⟨vr1_1, hvr1_1, ar1_1, rfl, hCr1_1⟩ := hI.hq 1 _ 2 _ rfl rfl rfl rfl
  obtain ⟨vr1_2, hvr1_2, ar1_2, rfl, hCr1_2⟩ := hI.hq 2 _ 3 _ rfl rfl rfl rfl
  have hupd := hI.upd
  have ha := hI.act [(1, .agg ar1_0), (2, .agg ar1_1), (3, .agg ar1_2)] (by simp [hvr1_0, hvr1_1, hvr1_2]) (by kernel_rfl)
  clear hI hvr1_0 hvr1_1 hvr1_2
  subst ha
  simp only [List.foldl_cons, List.foldl_nil, List.setIfInBounds_toArray, List.set_cons_zero, List.set_cons_succ]
  have Bxr0y0_1 := hupd.keep Bxr0y0
  have HU1 := hh (HU0.out.trans hupd)
  clear hupd
  refine wpOps_storeQ 3 rfl rfl rfl 41 (.tmp 0) (.tmp 3) rfl br0_0 0 20 rfl ar1_2 rfl 41 zr0_0 Bxr0y0_1.out szPt hCr1_2.size (by rw [hzr0_0.size]; exact Nat.le_of_ble_eq_true rfl) hCr1_2.one' ?_
  intro ws1_0 hs1_0 hus1_0
  rw [splice_all _ _ 20 hzr0_0.size hCr1_2.size] at hs1_0
  have Bxr0y0_s1_0 := hh hs1_0
  have HU1_0 := hh (HU1.out.step hus1_0 (fun i hi h => absurd hi (Nat.not_lt.2 (h.symm ▸ hger0_0.out))))
  clear hs1_0 hus1_0
  refine wpOps_nil ?_
  refine hK1 _ _ ?_
  clear hK1
  refine wp_ret ?_
  try dsimp only [Exit.then]
  try dsimp only [Exit.inBlock]
  exact bodyPost_ret (v := .agg ar1_2) (results_cell_row (fn := Tryd.f33) (p := 0) (ty := 41) rfl _ _ br0_0 41 _ (0, 0) _ rfl Bxr0y0_s1_0.out Tryd.underlying41 rfl (by rw [hCr1_2.size]; exact szPt)) rfl ⟨_, rfl, hCr1_2, HU1_0.out⟩
set_option maxHeartbeats 4000000 in
theorem multiplyP {p : P4} {l : List Int} {a : Array Value} (w : World) (hT : Tw w) (ha : Ch 5 RE [p.x, p.y, p.z, p.t] a) (hl : l.length = 32) (hd : Digs 256 l) :
    Calls Tryd.prog 36 #[.agg a, .agg (numsA .u8 l)] w (RetC 5 RE [(mulF l p 0).x, (mulF l p 0).y, (mulF l p 0).z, (mulF l p 0).t] w) := by
  have HT := hh hT
  clear hT
  have HU := hh (Upd.refl (fun _ => False) w)
  go_enter Tryd.func36, Tryd.ntmps36
  refine wp_seq_k fun K0 hK0 => ?_
  refine wp_region_qSD 3 #[true, true, true] [] ([.blk ptrTo 41 (Ch 5 RE [p.x, p.y, p.z, p.t]), .blk ptrTo 23 (fun z => z = numsA .u8 l), .blk ptrTo 41 (Ch 5 RE [0, 0, 0, 0])] : List SQ) (by kernel_rfl) (by kernel_rfl) (by kernel_rfl) (by kernel_rfl) ?_ ?_
  · intro i o listed an wn ho hls hst hun hdep hI hD hpre K' hK'
    rcases slot_cases (l := [0, 1, 2]) rfl ho hst with rfl | rfl | rfl | ⟨⟨⟩⟩
    · obtain rfl := Option.some.inj ho
      have hvp : an.eval (.tmp 0) = .agg a := hI.oq (by kernel_rfl) rfl
      exact hI.newQ hD hls (Nat.le_refl _) (newsQ_spec (l := [0, 1, 2]) (by kernel_rfl) ⟨⟨_, _, rfl⟩, ⟨_, _, rfl⟩, ⟨_, _, rfl⟩, trivial⟩) rfl rfl rfl 41 a _ (run_boxQ rfl hvp wn) rfl ha hK'
    · obtain rfl := Option.some.inj ho
      have hvp : an.eval (.tmp 1) = .agg (numsA .u8 l) := hI.oq (by kernel_rfl) rfl
      exact hI.newQ hD hls (Nat.le_refl _) (newsQ_spec (l := [0, 1, 2]) (by kernel_rfl) ⟨⟨_, _, rfl⟩, ⟨_, _, rfl⟩, ⟨_, _, rfl⟩, trivial⟩) rfl rfl rfl 23 _ (fun z => z = numsA .u8 l) (run_boxQ rfl hvp wn) rfl rfl hK'
    · obtain rfl := Option.some.inj ho
      exact hI.newQ hD hls (Nat.le_refl _) (newsQ_spec (l := [0, 1, 2]) (by kernel_rfl) ⟨⟨_, _, rfl⟩, ⟨_, _, rfl⟩, ⟨_, _, rfl⟩, trivial⟩) rfl rfl rfl 41 zPt _ (run_allocQ rfl zPt_run wn) rfl zPt_ch hK'
  intro an w1 hI
  obtain ⟨vr0_0, hvr0_0, br0_0, zr0_0, rfl, hnr0_0, hbr0_0, hzr0_0⟩ := hI.hq 0 _ 2 _ rfl rfl rfl rfl
  obtain ⟨vr0_1, hvr0_1, br0_1, zr0_1, rfl, hnr0_1, hbr0_1, hzr0_1⟩ := hI.hq 1 _ 3 _ rfl rfl rfl rfl
  rw [hzr0_1] at hbr0_1
  clear hzr0_1
  obtain ⟨vr0_2, hvr0_2, br0_2, zr0_2, rfl, hnr0_2, hbr0_2, hzr0_2⟩ := hI.hq 2 _ 4 _ rfl rfl rfl rfl
  have hupd := hI.upd
  have hner0_0_r0_1 := hh (show br0_0 ≠ br0_1 from fun e => hI.apart 0 1 _ _ 2 3 (by omega) rfl rfl rfl rfl rfl rfl rfl rfl (by rw [hvr0_0, hvr0_1, e]))
  have hner0_0_r0_2 := hh (show br0_0 ≠ br0_2 from fun e => hI.apart 0 2 _ _ 2 4 (by omega) rfl rfl rfl rfl rfl rfl rfl rfl (by rw [hvr0_0, hvr0_2, e]))
  have hner0_1_r0_2 := hh (show br0_1 ≠ br0_2 from fun e => hI.apart 1 2 _ _ 3 4 (by omega) rfl rfl rfl rfl rfl rfl rfl rfl (by rw [hvr0_1, hvr0_2, e]))
  have ha := hI.act [(2, ptrTo br0_0), (3, ptrTo br0_1), (4, ptrTo br0_2)] (by simp [hvr0_0, hvr0_1, hvr0_2]) (by kernel_rfl)
  clear hI hvr0_0 hvr0_1 hvr0_2
  subst ha
  simp only [List.foldl_cons, List.foldl_nil, List.setIfInBounds_toArray, List.set_cons_zero, List.set_cons_succ]
  have hger0_0 := geB HU hnr0_0
  have hger0_1 := geB HU hnr0_1
  have hger0_2 := geB HU hnr0_2
  have Bxr0y0 := hh hbr0_0
  have Bxr0y1 := hh hbr0_1
  have Bxr0y2 := hh hbr0_2
  have HU0 := hh (HU.out.trans hupd)
  clear hupd
  refine wpOps_nil ?_
  refine hK0 _ _ ?_
  clear hK0
  refine wp_seq_k fun K1 hK1 => ?_
  refine wp_region_qSD 2 #[true, true, false] [2] ([.like (IsC 5 RE [fv 0, fv 1, fv 1, fv 0 * fv 1]), .blk ptrTo 41 (Ch 5 RE [0, 0, 0, 0]), .val undef] : List SQ) (by kernel_rfl) (by kernel_rfl) (by kernel_rfl) (by kernel_rfl) ?_ ?_
  · intro i o listed an wn ho hls hst hun hdep hI hD hpre K' hK'
    rcases slot_cases (l := [0, 1]) rfl ho hst with rfl | rfl | ⟨⟨⟩⟩
    · obtain rfl := Option.some.inj ho
      exact hI.cq hD hls rfl rfl rfl 33 #[] _ rfl #[] (by simp) (run_enter Tryd.func33 (by kernel_rfl) (by kernel_rfl)) (.like (IsC 5 RE [fv 0, fv 1, fv 1, fv 0 * fv 1])) rfl rfl ((zeroP _).mono fun _ _ h => h.sq) hK'
    · obtain rfl := Option.some.inj ho
      exact hI.newQ hD hls (Nat.le_refl _) (newsQ_spec (l := [1]) (by kernel_rfl) ⟨⟨_, _, rfl⟩, trivial⟩) rfl rfl rfl 41 zPt _ (run_allocQ rfl zPt_run wn) rfl zPt_ch hK'
  intro an w2 hI
  obtain ⟨vr1_0, hvr1_0, ar1_0, rfl, hCr1_0⟩ := hI.hq 0 _ 7 _ rfl rfl rfl rfl
  obtain ⟨vr1_1, hvr1_1, br1_1, zr1_1, rfl, hnr1_1, hbr1_1, hzr1_1⟩ := hI.hq 1 _ 5 _ rfl rfl rfl rfl
  have hupd := hI.upd
  have ha := hI.act [(7, .agg ar1_0), (5, ptrTo br1_1)] (by simp [hvr1_0, hvr1_1]) (by kernel_rfl)
  clear hI hvr1_0 hvr1_1
  subst ha
  simp only [List.foldl_cons, List.foldl_nil, List.setIfInBounds_toArray, List.set_cons_zero, List.set_cons_succ]
  have hner1_1_Bxr0y0 := apartB Bxr0y0 hnr1_1
  have hner1_1_Bxr0y1 := apartB Bxr0y1 hnr1_1
  have hner1_1_Bxr0y2 := apartB Bxr0y2 hnr1_1
  have hger1_1 := geB HU0 hnr1_1
  have Bxr0y0_1 := hupd.keep Bxr0y0
  have Bxr0y1_1 := hupd.keep Bxr0y1
  have Bxr0y2_1 := hupd.keep Bxr0y2
  have Bxr1y1 := hh hbr1_1
  have HU1 := hh (HU0.out.trans hupd)
  clear hupd
  refine wpOps_storeQ 2 rfl rfl rfl 41 (.tmp 5) (.tmp 7) rfl br1_1 0 20 rfl ar1_0 rfl 41 zr1_1 Bxr1y1.out szPt hCr1_0.size (by rw [hzr1_1.size]; exact Nat.le_of_ble_eq_true rfl) hCr1_0.one' ?_
  intro ws1_0 hs1_0 hus1_0
  rw [splice_all _ _ 20 hzr1_1.size hCr1_0.size] at hs1_0
  have Bxr0y0_s1_0 := hus1_0.keepS Bxr0y0_1 (fun e => hner1_1_Bxr0y0.out e.symm)
  have Bxr0y1_s1_0 := hus1_0.keepS Bxr0y1_1 (fun e => hner1_1_Bxr0y1.out e.symm)
  have Bxr0y2_s1_0 := hus1_0.keepS Bxr0y2_1 (fun e => hner1_1_Bxr0y2.out e.symm)
  have Bxr1y1_s1_0 := hh hs1_0
  have HU1_0 := hh (HU1.out.step hus1_0 (fun i hi h => absurd hi (Nat.not_lt.2 (h.symm ▸ hger1_1.out))))
  clear hs1_0 hus1_0
  refine wpOps_nil ?_
  refine hK1 _ _ ?_
  clear hK1
  refine wp_seq_k fun K2 hK2 => ?_
  refine wp_seq_k fun K3 hK3 => ?_
  refine wp_region_qSD 1 #[true] [] ([.val (.int .i64 255)] : List SQ) (by kernel_rfl) (by kernel_rfl) (by kernel_rfl) (by kernel_rfl) ?_ ?_
  · intro i o listed an wn ho hls hst hun hdep hI hD hpre K' hK'
    rcases slot_cases (l := [0]) rfl ho hst with rfl | ⟨⟨⟩⟩
    · obtain rfl := Option.some.inj ho
      exact hI.pq hD hls rfl rfl rfl _ (run_moveQ (.inr rfl) (show an.eval (.const (.int .i64 255)) = .int .i64 255 from rfl) wn) (.val (.int .i64 255)) rfl rfl rfl hK'
  intro an w3 hI
  obtain ⟨vr2_0, hvr2_0, rfl⟩ := hI.hq 0 _ 6 _ rfl rfl rfl rfl
  have hupd := hI.upd
  have ha := hI.act [(6, .int .i64 255)] (by simp [hvr2_0]) (by kernel_rfl)
  clear hI hvr2_0
  subst ha
  simp only [List.foldl_cons, List.foldl_nil, List.setIfInBounds_toArray, List.set_cons_zero, List.set_cons_succ]
  have Bxr0y0_2 := hupd.keep Bxr0y0_s1_0
  have Bxr0y1_2 := hupd.keep Bxr0y1_s1_0
  have Bxr0y2_2 := hupd.keep Bxr0y2_s1_0
  have Bxr1y1_2 := hupd.keep Bxr1y1_s1_0
  have HU2 := hh (HU1_0.out.trans hupd)
  clear hupd
  refine wpOps_nil ?_
  refine hK3 _ _ ?_
  clear hK3
  refine wp_block ?_
  refine wp_loop (fun a' w' => ∃ (k : Nat) (u4_8 u4_9 u4_10 u4_11 u4_12 u4_13 u4_14 u4_15 u4_16 u4_17 u4_18 u4_19 u4_20 u4_21 u4_22 u4_23 u4_24 u4_25 u4_26 : Value) (A4_5 : Array Value), k ≤ 256 ∧ a' = ⟨#[.agg a, .agg (numsA .u8 l), ptrTo br0_0, ptrTo br0_1, ptrTo br0_2, ptrTo br1_1, .int .i64 ((k : Int) - 1), .agg ar1_0, u4_8, u4_9, u4_10, u4_11, u4_12, u4_13, u4_14, u4_15, u4_16, u4_17, u4_18, u4_19, u4_20, u4_21, u4_22, u4_23, u4_24, u4_25, u4_26, undef], []⟩ ∧ Upd (fun _ => False) w w' ∧ Blk w' br1_1 41 A4_5 ∧ Ch 5 RE [(mulF l p k).x, (mulF l p k).y, (mulF l p k).z, (mulF l p k).t] A4_5 ∧ Blk w' br0_0 41 zr0_0 ∧ Blk w' br0_1 23 (numsA .u8 l) ∧ Blk w' br0_2 41 zr0_2) (fun a' _ => (intOf (a'.tmps.getD 6 undef) + 1).toNat) ?_ ?_
  · exact ⟨256, undef, undef, undef, undef, undef, undef, undef, undef, undef, undef, undef, undef, undef, undef, undef, undef, undef, undef, undef, ar1_0, Nat.le_refl _, rfl, HU2.out, Bxr1y1_2.out, hCr1_0.to (by rw [mulF_top]; rfl), Bxr0y0_2.out, Bxr0y1_2.out, Bxr0y2_2.out⟩
  rintro a' wl4 ⟨k, u4_8, u4_9, u4_10, u4_11, u4_12, u4_13, u4_14, u4_15, u4_16, u4_17, u4_18, u4_19, u4_20, u4_21, u4_22, u4_23, u4_24, u4_25, u4_26, A4_5, hk4, rfl, hul, hbl5, hcl5, hol0, hol1, hol2⟩
  have HUl4 := hh hul
  have Bxr1y1_l4 := hh hbl5
  have Bxr0y0_l4 := hh hol0
  have Bxr0y1_l4 := hh hol1
  have Bxr0y2_l4 := hh hol2
  clear hul hbl5 hol0 hol1 hol2
  by_cases hlt : 0 < k
  · obtain ⟨j, rfl⟩ : ∃ j, k = j + 1 := ⟨k - 1, by omega⟩
    rw [show ((j + 1 : Nat) : Int) - 1 = (j : Int) by omega]
    clear hlt
    refine wp_seq_k fun K5 hK5 => ?_
    refine wp_seq_k fun K6 hK6 => ?_
    have hq3_1 : decide (((0 : Int) ≤ (j : Int) : Prop)) = true := decide_eq_true (by omega)
    refine wp_region_qSD 2 #[true, true] [] ([.val (.int .i64 (j : Int)), .val (.bool true)] : List SQ) (by kernel_rfl) (by kernel_rfl) (by kernel_rfl) (by kernel_rfl) ?_ ?_
    · intro i o listed an wn ho hls hst hun hdep hI hD hpre K' hK'
      rcases slot_cases (l := [0, 1]) rfl ho hst with rfl | rfl | ⟨⟨⟩⟩
      · obtain rfl := Option.some.inj ho
        have hvp : an.eval (.tmp 6) = .int .i64 (j : Int) := hI.oq (by kernel_rfl) rfl
        exact hI.pq hD hls rfl rfl rfl _ (run_moveQ (.inl rfl) hvp wn) (.val (.int .i64 (j : Int))) rfl rfl rfl hK'
      · obtain rfl := Option.some.inj ho
        obtain ⟨vp, hvp, rfl⟩ := hI.hq 0 _ 8 _ rfl rfl rfl (dp hdep 0 rfl rfl)
        exact hI.pq hD hls rfl rfl rfl _ (run_geq rfl (eval_of hvp) rfl hq3_1 wn) (.val (.bool true)) rfl rfl rfl hK'
    intro an w4 hI
    obtain ⟨vr3_0, hvr3_0, rfl⟩ := hI.hq 0 _ 8 _ rfl rfl rfl rfl
    obtain ⟨vr3_1, hvr3_1, rfl⟩ := hI.hq 1 _ 9 _ rfl rfl rfl rfl
    have hupd := hI.upd
    have ha := hI.act [(8, .int .i64 (j : Int)), (9, .bool true)] (by simp [hvr3_0, hvr3_1]) (by kernel_rfl)
    clear hI hvr3_0 hvr3_1
    subst ha
    simp only [List.foldl_cons, List.foldl_nil, List.setIfInBounds_toArray, List.set_cons_zero, List.set_cons_succ]
    have Bxr0y0_3 := hupd.keep Bxr0y0_l4
    have Bxr0y1_3 := hupd.keep Bxr0y1_l4
    have Bxr0y2_3 := hupd.keep Bxr0y2_l4
    have Bxr1y1_3 := hupd.keep Bxr1y1_l4
    have HU3 := hh (HUl4.out.trans hupd)
    clear hupd
    refine wpOps_nil ?_
    refine hK6 _ _ ?_
    clear hK6
    refine wp_cond_true rfl ?_
    refine wp_skip ?_
    refine hK5 _ _ ?_
    clear hK5
    refine wp_seq_k fun K7 hK7 => ?_
    refine wp_block ?_
    refine wp_seq_k fun K8 hK8 => ?_
    refine wp_region_qSD 3 #[true, true, true, false] [3] ([.val (.agg A4_5), .val (.agg A4_5), .like (IsC 5 RE [(((mulF l p (j + 1)).x) * ((mulF l p (j + 1)).y) + ((mulF l p (j + 1)).x) * ((mulF l p (j + 1)).y)) * (((mulF l p (j + 1)).z) * ((mulF l p (j + 1)).z) - dC * (((mulF l p (j + 1)).t) * ((mulF l p (j + 1)).t))), (((mulF l p (j + 1)).y) * ((mulF l p (j + 1)).y) + ((mulF l p (j + 1)).x) * ((mulF l p (j + 1)).x)) * (((mulF l p (j + 1)).z) * ((mulF l p (j + 1)).z) + dC * (((mulF l p (j + 1)).t) * ((mulF l p (j + 1)).t))), (((mulF l p (j + 1)).z) * ((mulF l p (j + 1)).z) + dC * (((mulF l p (j + 1)).t) * ((mulF l p (j + 1)).t))) * (((mulF l p (j + 1)).z) * ((mulF l p (j + 1)).z) - dC * (((mulF l p (j + 1)).t) * ((mulF l p (j + 1)).t))), (((mulF l p (j + 1)).x) * ((mulF l p (j + 1)).y) + ((mulF l p (j + 1)).x) * ((mulF l p (j + 1)).y)) * (((mulF l p (j + 1)).y) * ((mulF l p (j + 1)).y) + ((mulF l p (j + 1)).x) * ((mulF l p (j + 1)).x))]), .val undef] : List SQ) (by kernel_rfl) (by kernel_rfl) (by kernel_rfl) (by kernel_rfl) ?_ ?_
    · intro i o listed an wn ho hls hst hun hdep hI hD hpre K' hK'
      rcases slot_cases (l := [0, 1, 2]) rfl ho hst with rfl | rfl | rfl | ⟨⟨⟩⟩
      · obtain rfl := Option.some.inj ho
        have hvp : an.eval (.tmp 5) = ptrTo br1_1 := hI.oq (by kernel_rfl) rfl
        exact hI.pq hD hls rfl rfl rfl _ (run_loadQ rfl hvp wn (hI.upd.keep Bxr1y1_3).out Tryd.underlying41 rfl szPt (by rw [hcl5.size]; exact Nat.le_of_ble_eq_true rfl)) (.val (.agg A4_5)) rfl (congrArg Value.agg (extract_all _ 20 hcl5.size)) rfl hK'
      · obtain rfl := Option.some.inj ho
        have hvp : an.eval (.tmp 5) = ptrTo br1_1 := hI.oq (by kernel_rfl) rfl
        exact hI.pq hD hls rfl rfl rfl _ (run_loadQ rfl hvp wn (hI.upd.keep Bxr1y1_3).out Tryd.underlying41 rfl szPt (by rw [hcl5.size]; exact Nat.le_of_ble_eq_true rfl)) (.val (.agg A4_5)) rfl (congrArg Value.agg (extract_all _ 20 hcl5.size)) rfl hK'
      · obtain rfl := Option.some.inj ho
        obtain ⟨vp, hvp, rfl⟩ := hI.hq 0 _ 12 _ rfl rfl rfl (dp hdep 0 rfl rfl)
        obtain ⟨vq, hvq, rfl⟩ := hI.hq 1 _ 13 _ rfl rfl rfl (dp hdep 1 rfl rfl)
        exact hI.cq hD hls rfl rfl rfl 70 #[.tmp 12, .tmp 13] _ rfl #[.agg A4_5, .agg A4_5] (by simp [eval_of hvp, eval_of hvq]) (run_enter Tryd.func70 (by kernel_rfl) (by kernel_rfl)) (.like (IsC 5 RE [(((mulF l p (j + 1)).x) * ((mulF l p (j + 1)).y) + ((mulF l p (j + 1)).x) * ((mulF l p (j + 1)).y)) * (((mulF l p (j + 1)).z) * ((mulF l p (j + 1)).z) - dC * (((mulF l p (j + 1)).t) * ((mulF l p (j + 1)).t))), (((mulF l p (j + 1)).y) * ((mulF l p (j + 1)).y) + ((mulF l p (j + 1)).x) * ((mulF l p (j + 1)).x)) * (((mulF l p (j + 1)).z) * ((mulF l p (j + 1)).z) + dC * (((mulF l p (j + 1)).t) * ((mulF l p (j + 1)).t))), (((mulF l p (j + 1)).z) * ((mulF l p (j + 1)).z) + dC * (((mulF l p (j + 1)).t) * ((mulF l p (j + 1)).t))) * (((mulF l p (j + 1)).z) * ((mulF l p (j + 1)).z) - dC * (((mulF l p (j + 1)).t) * ((mulF l p (j + 1)).t))), (((mulF l p (j + 1)).x) * ((mulF l p (j + 1)).y) + ((mulF l p (j + 1)).x) * ((mulF l p (j + 1)).y)) * (((mulF l p (j + 1)).y) * ((mulF l p (j + 1)).y) + ((mulF l p (j + 1)).x) * ((mulF l p (j + 1)).x))])) rfl rfl ((togetherP _ (HT.out.upd (HU3.out.trans hI.upd)) hcl5 hcl5).mono fun _ _ h => h.sq) hK'
    intro an w5 hI
    obtain ⟨vr4_0, hvr4_0, rfl⟩ := hI.hq 0 _ 12 _ rfl rfl rfl rfl
    obtain ⟨vr4_1, hvr4_1, rfl⟩ := hI.hq 1 _ 13 _ rfl rfl rfl rfl
    obtain ⟨vr4_2, hvr4_2, ar4_2, rfl, hCr4_2⟩ := hI.hq 2 _ 14 _ rfl rfl rfl rfl
    have hupd := hI.upd
    have ha := hI.act [(12, .agg A4_5), (13, .agg A4_5), (14, .agg ar4_2)] (by simp [hvr4_0, hvr4_1, hvr4_2]) (by kernel_rfl)
    clear hI hvr4_0 hvr4_1 hvr4_2
    subst ha
    simp only [List.foldl_cons, List.foldl_nil, List.setIfInBounds_toArray, List.set_cons_zero, List.set_cons_succ]
    have Bxr0y0_4 := hupd.keep Bxr0y0_3
    have Bxr0y1_4 := hupd.keep Bxr0y1_3
    have Bxr0y2_4 := hupd.keep Bxr0y2_3
    have Bxr1y1_4 := hupd.keep Bxr1y1_3
    have HU4 := hh (HU3.out.trans hupd)
    clear hupd
    refine wpOps_storeQ 3 rfl rfl rfl 41 (.tmp 5) (.tmp 14) rfl br1_1 0 20 rfl ar4_2 rfl 41 A4_5 Bxr1y1_4.out szPt hCr4_2.size (by rw [hcl5.size]; exact Nat.le_of_ble_eq_true rfl) hCr4_2.one' ?_
    intro ws4_0 hs4_0 hus4_0
    rw [splice_all _ _ 20 hcl5.size hCr4_2.size] at hs4_0
    have Bxr0y0_s4_0 := hus4_0.keepS Bxr0y0_4 (fun e => hner1_1_Bxr0y0.out e.symm)
    have Bxr0y1_s4_0 := hus4_0.keepS Bxr0y1_4 (fun e => hner1_1_Bxr0y1.out e.symm)
    have Bxr0y2_s4_0 := hus4_0.keepS Bxr0y2_4 (fun e => hner1_1_Bxr0y2.out e.symm)
    have Bxr1y1_s4_0 := hh hs4_0
    have HU4_0 := hh (HU4.out.step hus4_0 (fun i hi h => absurd hi (Nat.not_lt.2 (h.symm ▸ hger1_1.out))))
    clear hs4_0 hus4_0
    refine wpOps_nil ?_
    refine hK8 _ _ ?_
    clear hK8
    refine wp_seq_k fun K9 hK9 => ?_
    refine wp_region_qSD 9 #[true, true, true, true, true, true, true, true, true] [] ([.val (.int .i64 (j : Int)), .val (.int .i64 ((j / 8 : Nat) : Int)), .val (.pointer (some ⟨br0_1, 0 + (j / 8), none⟩)), .val (.int .u8 (l.getD (j / 8) 0)), .val (.int .i64 (j : Int)), .val (.int .i64 ((j % 8 : Nat) : Int)), .val (.int .u8 ((l.getD (j / 8) 0) / 2 ^ (j % 8))), .val (.int .u8 (((l.getD (j / 8) 0) / 2 ^ (j % 8)) % 2)), .val (.bool (kb l j))] : List SQ) (by kernel_rfl) (by kernel_rfl) (by kernel_rfl) (by kernel_rfl) ?_ ?_
    · intro i o listed an wn ho hls hst hun hdep hI hD hpre K' hK'
      rcases slot_cases (l := [0, 1, 2, 3, 4, 5, 6, 7, 8]) rfl ho hst with rfl | rfl | rfl | rfl | rfl | rfl | rfl | rfl | rfl | ⟨⟨⟩⟩
      · obtain rfl := Option.some.inj ho
        have hvp : an.eval (.tmp 6) = .int .i64 (j : Int) := hI.oq (by kernel_rfl) rfl
        exact hI.pq hD hls rfl rfl rfl _ (run_moveQ (.inl rfl) hvp wn) (.val (.int .i64 (j : Int))) rfl rfl rfl hK'
      · obtain rfl := Option.some.inj ho
        obtain ⟨vp, hvp, rfl⟩ := hI.hq 0 _ 15 _ rfl rfl rfl (dp hdep 0 rfl rfl)
        exact hI.pq hD hls rfl rfl rfl _ (run_quo rfl (eval_of hvp) rfl (by decide) (quo8 _ (by omega)) wn) (.val (.int .i64 ((j / 8 : Nat) : Int))) rfl rfl rfl hK'
      · obtain rfl := Option.some.inj ho
        have hvp : an.eval (.tmp 3) = ptrTo br0_1 := hI.oq (by kernel_rfl) rfl
        obtain ⟨vq, hvq, rfl⟩ := hI.hq 1 _ 16 _ rfl rfl rfl (dp hdep 0 rfl rfl)
        exact hI.pq hD hls rfl rfl rfl _ (run_adr (off := 0) (i := (j / 8)) rfl Tryd.underlying23 size5 hvp (eval_of hvq) (by omega) wn) (.val (.pointer (some ⟨br0_1, 0 + (j / 8), none⟩))) rfl rfl rfl hK'
      · obtain rfl := Option.some.inj ho
        obtain ⟨vp, hvp, rfl⟩ := hI.hq 2 _ 17 _ rfl rfl rfl (dp hdep 0 rfl rfl)
        exact hI.pq hD hls rfl rfl rfl _ (run_cellQ rfl Tryd.underlying5 (eval_of hvp) wn (hI.upd.keep Bxr0y1_s4_0).out (by rw [Nat.zero_add]; exact numsA_get _ _ _ (by rw [hl]; omega))) (.val (.int .u8 (l.getD (j / 8) 0))) rfl rfl rfl hK'
      · obtain rfl := Option.some.inj ho
        have hvp : an.eval (.tmp 6) = .int .i64 (j : Int) := hI.oq (by kernel_rfl) rfl
        exact hI.pq hD hls rfl rfl rfl _ (run_moveQ (.inl rfl) hvp wn) (.val (.int .i64 (j : Int))) rfl rfl rfl hK'
      · obtain rfl := Option.some.inj ho
        obtain ⟨vp, hvp, rfl⟩ := hI.hq 4 _ 19 _ rfl rfl rfl (dp hdep 0 rfl rfl)
        exact hI.pq hD hls rfl rfl rfl _ (run_rem rfl (eval_of hvp) rfl (by decide) (rem8 _) wn) (.val (.int .i64 ((j % 8 : Nat) : Int))) rfl rfl rfl hK'
      · obtain rfl := Option.some.inj ho
        obtain ⟨vp, hvp, rfl⟩ := hI.hq 3 _ 18 _ rfl rfl rfl (dp hdep 0 rfl rfl)
        obtain ⟨vq, hvq, rfl⟩ := hI.hq 5 _ 20 _ rfl rfl rfl (dp hdep 1 rfl rfl)
        exact hI.pq hD hls rfl rfl rfl _ (run_shr8 rfl (eval_of hvp) (eval_of hvq) (Nat.mod_lt _ (by decide)) wn) (.val (.int .u8 ((l.getD (j / 8) 0) / 2 ^ (j % 8)))) rfl rfl rfl hK'
      · obtain rfl := Option.some.inj ho
        obtain ⟨vp, hvp, rfl⟩ := hI.hq 6 _ 21 _ rfl rfl rfl (dp hdep 0 rfl rfl)
        exact hI.pq hD hls rfl rfl rfl _ (run_and8 rfl (eval_of hvp) rfl (byte_shift _ (Digs.get (B := 256) (by decide) hd _) _) wn) (.val (.int .u8 (((l.getD (j / 8) 0) / 2 ^ (j % 8)) % 2))) rfl rfl rfl hK'
      · obtain rfl := Option.some.inj ho
        obtain ⟨vp, hvp, rfl⟩ := hI.hq 7 _ 22 _ rfl rfl rfl (dp hdep 0 rfl rfl)
        exact hI.pq hD hls rfl rfl rfl _ (run_eql rfl (eval_of hvp) rfl rfl wn) (.val (.bool (kb l j))) rfl rfl rfl hK'
    intro an w6 hI
    obtain ⟨vr5_0, hvr5_0, rfl⟩ := hI.hq 0 _ 15 _ rfl rfl rfl rfl
    obtain ⟨vr5_1, hvr5_1, rfl⟩ := hI.hq 1 _ 16 _ rfl rfl rfl rfl
    obtain ⟨vr5_2, hvr5_2, rfl⟩ := hI.hq 2 _ 17 _ rfl rfl rfl rfl
    obtain ⟨vr5_3, hvr5_3, rfl⟩ := hI.hq 3 _ 18 _ rfl rfl rfl rfl
    obtain ⟨vr5_4, hvr5_4, rfl⟩ := hI.hq 4 _ 19 _ rfl rfl rfl rfl
    obtain ⟨vr5_5, hvr5_5, rfl⟩ := hI.hq 5 _ 20 _ rfl rfl rfl rfl
    obtain ⟨vr5_6, hvr5_6, rfl⟩ := hI.hq 6 _ 21 _ rfl rfl rfl rfl
    obtain ⟨vr5_7, hvr5_7, rfl⟩ := hI.hq 7 _ 22 _ rfl rfl rfl rfl
    obtain ⟨vr5_8, hvr5_8, rfl⟩ := hI.hq 8 _ 23 _ rfl rfl rfl rfl
    have hupd := hI.upd
    have ha := hI.act [(15, .int .i64 (j : Int)), (16, .int .i64 ((j / 8 : Nat) : Int)), (17, .pointer (some ⟨br0_1, 0 + (j / 8), none⟩)), (18, .int .u8 (l.getD (j / 8) 0)), (19, .int .i64 (j : Int)), (20, .int .i64 ((j % 8 : Nat) : Int)), (21, .int .u8 ((l.getD (j / 8) 0) / 2 ^ (j % 8))), (22, .int .u8 (((l.getD (j / 8) 0) / 2 ^ (j % 8)) % 2)), (23, .bool (kb l j))] (by simp [hvr5_0, hvr5_1, hvr5_2, hvr5_3, hvr5_4, hvr5_5, hvr5_6, hvr5_7, hvr5_8]) (by kernel_rfl)
    clear hI hvr5_0 hvr5_1 hvr5_2 hvr5_3 hvr5_4 hvr5_5 hvr5_6 hvr5_7 hvr5_8
    subst ha
    simp only [List.foldl_cons, List.foldl_nil, List.setIfInBounds_toArray, List.set_cons_zero, List.set_cons_succ]
    have Bxr0y0_5 := hupd.keep Bxr0y0_s4_0
    have Bxr0y1_5 := hupd.keep Bxr0y1_s4_0
    have Bxr0y2_5 := hupd.keep Bxr0y2_s4_0
    have Bxr1y1_5 := hupd.keep Bxr1y1_s4_0
    have HU5 := hh (HU4_0.out.trans hupd)
    clear hupd
    refine wpOps_nil ?_
    refine hK9 _ _ ?_
    clear hK9
    refine wp_cond_split (t := (kb l j)) rfl (fun hcd => ?_) (fun hcd => ?_)
    · have Hcd10 := hh hcd
      clear hcd
      refine wp_region_qSD 3 #[true, true, true, false] [3] ([.val (.agg ar4_2), .val (.agg zr0_0), .like (IsC 5 RE [(((((mulF l p (j + 1)).x) * ((mulF l p (j + 1)).y) + ((mulF l p (j + 1)).x) * ((mulF l p (j + 1)).y)) * (((mulF l p (j + 1)).z) * ((mulF l p (j + 1)).z) - dC * (((mulF l p (j + 1)).t) * ((mulF l p (j + 1)).t)))) * p.y + p.x * ((((mulF l p (j + 1)).y) * ((mulF l p (j + 1)).y) + ((mulF l p (j + 1)).x) * ((mulF l p (j + 1)).x)) * (((mulF l p (j + 1)).z) * ((mulF l p (j + 1)).z) + dC * (((mulF l p (j + 1)).t) * ((mulF l p (j + 1)).t))))) * (((((mulF l p (j + 1)).z) * ((mulF l p (j + 1)).z) + dC * (((mulF l p (j + 1)).t) * ((mulF l p (j + 1)).t))) * (((mulF l p (j + 1)).z) * ((mulF l p (j + 1)).z) - dC * (((mulF l p (j + 1)).t) * ((mulF l p (j + 1)).t)))) * p.z - dC * (((((mulF l p (j + 1)).x) * ((mulF l p (j + 1)).y) + ((mulF l p (j + 1)).x) * ((mulF l p (j + 1)).y)) * (((mulF l p (j + 1)).y) * ((mulF l p (j + 1)).y) + ((mulF l p (j + 1)).x) * ((mulF l p (j + 1)).x))) * p.t)), (((((mulF l p (j + 1)).y) * ((mulF l p (j + 1)).y) + ((mulF l p (j + 1)).x) * ((mulF l p (j + 1)).x)) * (((mulF l p (j + 1)).z) * ((mulF l p (j + 1)).z) + dC * (((mulF l p (j + 1)).t) * ((mulF l p (j + 1)).t)))) * p.y + ((((mulF l p (j + 1)).x) * ((mulF l p (j + 1)).y) + ((mulF l p (j + 1)).x) * ((mulF l p (j + 1)).y)) * (((mulF l p (j + 1)).z) * ((mulF l p (j + 1)).z) - dC * (((mulF l p (j + 1)).t) * ((mulF l p (j + 1)).t)))) * p.x) * (((((mulF l p (j + 1)).z) * ((mulF l p (j + 1)).z) + dC * (((mulF l p (j + 1)).t) * ((mulF l p (j + 1)).t))) * (((mulF l p (j + 1)).z) * ((mulF l p (j + 1)).z) - dC * (((mulF l p (j + 1)).t) * ((mulF l p (j + 1)).t)))) * p.z + dC * (((((mulF l p (j + 1)).x) * ((mulF l p (j + 1)).y) + ((mulF l p (j + 1)).x) * ((mulF l p (j + 1)).y)) * (((mulF l p (j + 1)).y) * ((mulF l p (j + 1)).y) + ((mulF l p (j + 1)).x) * ((mulF l p (j + 1)).x))) * p.t)), (((((mulF l p (j + 1)).z) * ((mulF l p (j + 1)).z) + dC * (((mulF l p (j + 1)).t) * ((mulF l p (j + 1)).t))) * (((mulF l p (j + 1)).z) * ((mulF l p (j + 1)).z) - dC * (((mulF l p (j + 1)).t) * ((mulF l p (j + 1)).t)))) * p.z + dC * (((((mulF l p (j + 1)).x) * ((mulF l p (j + 1)).y) + ((mulF l p (j + 1)).x) * ((mulF l p (j + 1)).y)) * (((mulF l p (j + 1)).y) * ((mulF l p (j + 1)).y) + ((mulF l p (j + 1)).x) * ((mulF l p (j + 1)).x))) * p.t)) * (((((mulF l p (j + 1)).z) * ((mulF l p (j + 1)).z) + dC * (((mulF l p (j + 1)).t) * ((mulF l p (j + 1)).t))) * (((mulF l p (j + 1)).z) * ((mulF l p (j + 1)).z) - dC * (((mulF l p (j + 1)).t) * ((mulF l p (j + 1)).t)))) * p.z - dC * (((((mulF l p (j + 1)).x) * ((mulF l p (j + 1)).y) + ((mulF l p (j + 1)).x) * ((mulF l p (j + 1)).y)) * (((mulF l p (j + 1)).y) * ((mulF l p (j + 1)).y) + ((mulF l p (j + 1)).x) * ((mulF l p (j + 1)).x))) * p.t)), (((((mulF l p (j + 1)).x) * ((mulF l p (j + 1)).y) + ((mulF l p (j + 1)).x) * ((mulF l p (j + 1)).y)) * (((mulF l p (j + 1)).z) * ((mulF l p (j + 1)).z) - dC * (((mulF l p (j + 1)).t) * ((mulF l p (j + 1)).t)))) * p.y + p.x * ((((mulF l p (j + 1)).y) * ((mulF l p (j + 1)).y) + ((mulF l p (j + 1)).x) * ((mulF l p (j + 1)).x)) * (((mulF l p (j + 1)).z) * ((mulF l p (j + 1)).z) + dC * (((mulF l p (j + 1)).t) * ((mulF l p (j + 1)).t))))) * (((((mulF l p (j + 1)).y) * ((mulF l p (j + 1)).y) + ((mulF l p (j + 1)).x) * ((mulF l p (j + 1)).x)) * (((mulF l p (j + 1)).z) * ((mulF l p (j + 1)).z) + dC * (((mulF l p (j + 1)).t) * ((mulF l p (j + 1)).t)))) * p.y + ((((mulF l p (j + 1)).x) * ((mulF l p (j + 1)).y) + ((mulF l p (j + 1)).x) * ((mulF l p (j + 1)).y)) * (((mulF l p (j + 1)).z) * ((mulF l p (j + 1)).z) - dC * (((mulF l p (j + 1)).t) * ((mulF l p (j + 1)).t)))) * p.x)]), .val undef] : List SQ) (by kernel_rfl) (by kernel_rfl) (by kernel_rfl) (by kernel_rfl) ?_ ?_
      · intro i o listed an wn ho hls hst hun hdep hI hD hpre K' hK'
        rcases slot_cases (l := [0, 1, 2]) rfl ho hst with rfl | rfl | rfl | ⟨⟨⟩⟩
        · obtain rfl := Option.some.inj ho
          have hvp : an.eval (.tmp 5) = ptrTo br1_1 := hI.oq (by kernel_rfl) rfl
          exact hI.pq hD hls rfl rfl rfl _ (run_loadQ rfl hvp wn (hI.upd.keep Bxr1y1_5).out Tryd.underlying41 rfl szPt (by rw [hCr4_2.size]; exact Nat.le_of_ble_eq_true rfl)) (.val (.agg ar4_2)) rfl (congrArg Value.agg (extract_all _ 20 hCr4_2.size)) rfl hK'
        · obtain rfl := Option.some.inj ho
          have hvp : an.eval (.tmp 2) = ptrTo br0_0 := hI.oq (by kernel_rfl) rfl
          exact hI.pq hD hls rfl rfl rfl _ (run_loadQ rfl hvp wn (hI.upd.keep Bxr0y0_5).out Tryd.underlying41 rfl szPt (by rw [hzr0_0.size]; exact Nat.le_of_ble_eq_true rfl)) (.val (.agg zr0_0)) rfl (congrArg Value.agg (extract_all _ 20 hzr0_0.size)) rfl hK'
        · obtain rfl := Option.some.inj ho
          obtain ⟨vp, hvp, rfl⟩ := hI.hq 0 _ 24 _ rfl rfl rfl (dp hdep 0 rfl rfl)
          obtain ⟨vq, hvq, rfl⟩ := hI.hq 1 _ 25 _ rfl rfl rfl (dp hdep 1 rfl rfl)
          exact hI.cq hD hls rfl rfl rfl 70 #[.tmp 24, .tmp 25] _ rfl #[.agg ar4_2, .agg zr0_0] (by simp [eval_of hvp, eval_of hvq]) (run_enter Tryd.func70 (by kernel_rfl) (by kernel_rfl)) (.like (IsC 5 RE [(((((mulF l p (j + 1)).x) * ((mulF l p (j + 1)).y) + ((mulF l p (j + 1)).x) * ((mulF l p (j + 1)).y)) * (((mulF l p (j + 1)).z) * ((mulF l p (j + 1)).z) - dC * (((mulF l p (j + 1)).t) * ((mulF l p (j + 1)).t)))) * p.y + p.x * ((((mulF l p (j + 1)).y) * ((mulF l p (j + 1)).y) + ((mulF l p (j + 1)).x) * ((mulF l p (j + 1)).x)) * (((mulF l p (j + 1)).z) * ((mulF l p (j + 1)).z) + dC * (((mulF l p (j + 1)).t) * ((mulF l p (j + 1)).t))))) * (((((mulF l p (j + 1)).z) * ((mulF l p (j + 1)).z) + dC * (((mulF l p (j + 1)).t) * ((mulF l p (j + 1)).t))) * (((mulF l p (j + 1)).z) * ((mulF l p (j + 1)).z) - dC * (((mulF l p (j + 1)).t) * ((mulF l p (j + 1)).t)))) * p.z - dC * (((((mulF l p (j + 1)).x) * ((mulF l p (j + 1)).y) + ((mulF l p (j + 1)).x) * ((mulF l p (j + 1)).y)) * (((mulF l p (j + 1)).y) * ((mulF l p (j + 1)).y) + ((mulF l p (j + 1)).x) * ((mulF l p (j + 1)).x))) * p.t)), (((((mulF l p (j + 1)).y) * ((mulF l p (j + 1)).y) + ((mulF l p (j + 1)).x) * ((mulF l p (j + 1)).x)) * (((mulF l p (j + 1)).z) * ((mulF l p (j + 1)).z) + dC * (((mulF l p (j + 1)).t) * ((mulF l p (j + 1)).t)))) * p.y + ((((mulF l p (j + 1)).x) * ((mulF l p (j + 1)).y) + ((mulF l p (j + 1)).x) * ((mulF l p (j + 1)).y)) * (((mulF l p (j + 1)).z) * ((mulF l p (j + 1)).z) - dC * (((mulF l p (j + 1)).t) * ((mulF l p (j + 1)).t)))) * p.x) * (((((mulF l p (j + 1)).z) * ((mulF l p (j + 1)).z) + dC * (((mulF l p (j + 1)).t) * ((mulF l p (j + 1)).t))) * (((mulF l p (j + 1)).z) * ((mulF l p (j + 1)).z) - dC * (((mulF l p (j + 1)).t) * ((mulF l p (j + 1)).t)))) * p.z + dC * (((((mulF l p (j + 1)).x) * ((mulF l p (j + 1)).y) + ((mulF l p (j + 1)).x) * ((mulF l p (j + 1)).y)) * (((mulF l p (j + 1)).y) * ((mulF l p (j + 1)).y) + ((mulF l p (j + 1)).x) * ((mulF l p (j + 1)).x))) * p.t)), (((((mulF l p (j + 1)).z) * ((mulF l p (j + 1)).z) + dC * (((mulF l p (j + 1)).t) * ((mulF l p (j + 1)).t))) * (((mulF l p (j + 1)).z) * ((mulF l p (j + 1)).z) - dC * (((mulF l p (j + 1)).t) * ((mulF l p (j + 1)).t)))) * p.z + dC * (((((mulF l p (j + 1)).x) * ((mulF l p (j + 1)).y) + ((mulF l p (j + 1)).x) * ((mulF l p (j + 1)).y)) * (((mulF l p (j + 1)).y) * ((mulF l p (j + 1)).y) + ((mulF l p (j + 1)).x) * ((mulF l p (j + 1)).x))) * p.t)) * (((((mulF l p (j + 1)).z) * ((mulF l p (j + 1)).z) + dC * (((mulF l p (j + 1)).t) * ((mulF l p (j + 1)).t))) * (((mulF l p (j + 1)).z) * ((mulF l p (j + 1)).z) - dC * (((mulF l p (j + 1)).t) * ((mulF l p (j + 1)).t)))) * p.z - dC * (((((mulF l p (j + 1)).x) * ((mulF l p (j + 1)).y) + ((mulF l p (j + 1)).x) * ((mulF l p (j + 1)).y)) * (((mulF l p (j + 1)).y) * ((mulF l p (j + 1)).y) + ((mulF l p (j + 1)).x) * ((mulF l p (j + 1)).x))) * p.t)), (((((mulF l p (j + 1)).x) * ((mulF l p (j + 1)).y) + ((mulF l p (j + 1)).x) * ((mulF l p (j + 1)).y)) * (((mulF l p (j + 1)).z) * ((mulF l p (j + 1)).z) - dC * (((mulF l p (j + 1)).t) * ((mulF l p (j + 1)).t)))) * p.y + p.x * ((((mulF l p (j + 1)).y) * ((mulF l p (j + 1)).y) + ((mulF l p (j + 1)).x) * ((mulF l p (j + 1)).x)) * (((mulF l p (j + 1)).z) * ((mulF l p (j + 1)).z) + dC * (((mulF l p (j + 1)).t) * ((mulF l p (j + 1)).t))))) * (((((mulF l p (j + 1)).y) * ((mulF l p (j + 1)).y) + ((mulF l p (j + 1)).x) * ((mulF l p (j + 1)).x)) * (((mulF l p (j + 1)).z) * ((mulF l p (j + 1)).z) + dC * (((mulF l p (j + 1)).t) * ((mulF l p (j + 1)).t)))) * p.y + ((((mulF l p (j + 1)).x) * ((mulF l p (j + 1)).y) + ((mulF l p (j + 1)).x) * ((mulF l p (j + 1)).y)) * (((mulF l p (j + 1)).z) * ((mulF l p (j + 1)).z) - dC * (((mulF l p (j + 1)).t) * ((mulF l p (j + 1)).t)))) * p.x)])) rfl rfl ((togetherP _ (HT.out.upd (HU5.out.trans hI.upd)) hCr4_2 hzr0_0).mono fun _ _ h => h.sq) hK'
      intro an w7 hI
      obtain ⟨vr6_0, hvr6_0, rfl⟩ := hI.hq 0 _ 24 _ rfl rfl rfl rfl
      obtain ⟨vr6_1, hvr6_1, rfl⟩ := hI.hq 1 _ 25 _ rfl rfl rfl rfl
      obtain ⟨vr6_2, hvr6_2, ar6_2, rfl, hCr6_2⟩ := hI.hq 2 _ 26 _ rfl rfl rfl rfl
      have hupd := hI.upd
      have ha := hI.act [(24, .agg ar4_2), (25, .agg zr0_0), (26, .agg ar6_2)] (by simp [hvr6_0, hvr6_1, hvr6_2]) (by kernel_rfl)
      clear hI hvr6_0 hvr6_1 hvr6_2
      subst ha
      simp only [List.foldl_cons, List.foldl_nil, List.setIfInBounds_toArray, List.set_cons_zero, List.set_cons_succ]
      have Bxr0y0_6 := hupd.keep Bxr0y0_5
      have Bxr0y1_6 := hupd.keep Bxr0y1_5
      have Bxr0y2_6 := hupd.keep Bxr0y2_5
      have Bxr1y1_6 := hupd.keep Bxr1y1_5
      have HU6 := hh (HU5.out.trans hupd)
      clear hupd
      refine wpOps_storeQ 3 rfl rfl rfl 41 (.tmp 5) (.tmp 26) rfl br1_1 0 20 rfl ar6_2 rfl 41 ar4_2 Bxr1y1_6.out szPt hCr6_2.size (by rw [hCr4_2.size]; exact Nat.le_of_ble_eq_true rfl) hCr6_2.one' ?_
      intro ws6_0 hs6_0 hus6_0
      rw [splice_all _ _ 20 hCr4_2.size hCr6_2.size] at hs6_0
      have Bxr0y0_s6_0 := hus6_0.keepS Bxr0y0_6 (fun e => hner1_1_Bxr0y0.out e.symm)
      have Bxr0y1_s6_0 := hus6_0.keepS Bxr0y1_6 (fun e => hner1_1_Bxr0y1.out e.symm)
      have Bxr0y2_s6_0 := hus6_0.keepS Bxr0y2_6 (fun e => hner1_1_Bxr0y2.out e.symm)
      have Bxr1y1_s6_0 := hh hs6_0
      have HU6_0 := hh (HU6.out.step hus6_0 (fun i hi h => absurd hi (Nat.not_lt.2 (h.symm ▸ hger1_1.out))))
      clear hs6_0 hus6_0
      refine wpOps_nil ?_
      refine hK7 _ _ ?_
      clear hK7
      have hq7_1 : IntKind.wrap .i64 ((j : Int) - 1) = (j : Int) - 1 := IntWalk.i64_in _ (by omega)
      refine wp_region_qSD 3 #[true, true, true] [] ([.val (.int .i64 (j : Int)), .val (.int .i64 ((j : Int) - 1)), .val (.int .i64 ((j : Int) - 1))] : List SQ) (by kernel_rfl) (by kernel_rfl) (by kernel_rfl) (by kernel_rfl) ?_ ?_
      · intro i o listed an wn ho hls hst hun hdep hI hD hpre K' hK'
        rcases slot_cases (l := [0, 1, 2]) rfl ho hst with rfl | rfl | rfl | ⟨⟨⟩⟩
        · obtain rfl := Option.some.inj ho
          have hvp : an.eval (.tmp 6) = .int .i64 (j : Int) := hI.oldS hpre (by kernel_rfl) rfl
          exact hI.pq hD hls rfl rfl rfl _ (run_moveQ (.inl rfl) hvp wn) (.val (.int .i64 (j : Int))) rfl rfl rfl hK'
        · obtain rfl := Option.some.inj ho
          obtain ⟨vp, hvp, rfl⟩ := hI.hq 0 _ 10 _ rfl rfl rfl (dp hdep 0 rfl rfl)
          exact hI.pq hD hls rfl rfl rfl _ (run_sub rfl (eval_of hvp) rfl hq7_1 wn) (.val (.int .i64 ((j : Int) - 1))) rfl rfl rfl hK'
        · obtain rfl := Option.some.inj ho
          obtain ⟨vp, hvp, rfl⟩ := hI.hq 1 _ 11 _ rfl rfl rfl (dp hdep 0 rfl rfl)
          exact hI.pq hD hls rfl rfl rfl _ (run_moveQ (.inr rfl) (eval_of hvp) wn) (.val (.int .i64 ((j : Int) - 1))) rfl rfl rfl hK'
      intro an w8 hI
      obtain ⟨vr7_0, hvr7_0, rfl⟩ := hI.hq 0 _ 10 _ rfl rfl rfl rfl
      obtain ⟨vr7_1, hvr7_1, rfl⟩ := hI.hq 1 _ 11 _ rfl rfl rfl rfl
      obtain ⟨vr7_2, hvr7_2, rfl⟩ := hI.hq 2 _ 6 _ rfl rfl rfl rfl
      have hupd := hI.upd
      have ha := hI.act [(10, .int .i64 (j : Int)), (11, .int .i64 ((j : Int) - 1)), (6, .int .i64 ((j : Int) - 1))] (by simp [hvr7_0, hvr7_1, hvr7_2]) (by kernel_rfl)
      clear hI hvr7_0 hvr7_1 hvr7_2
      subst ha
      simp only [List.foldl_cons, List.foldl_nil, List.setIfInBounds_toArray, List.set_cons_zero, List.set_cons_succ]
      have Bxr0y0_7 := hupd.keep Bxr0y0_s6_0
      have Bxr0y1_7 := hupd.keep Bxr0y1_s6_0
      have Bxr0y2_7 := hupd.keep Bxr0y2_s6_0
      have Bxr1y1_7 := hupd.keep Bxr1y1_s6_0
      have HU7 := hh (HU6_0.out.trans hupd)
      clear hupd
      refine wpOps_nil ?_
      exact ⟨⟨j, _, _, _, _, _, _, _, _, _, _, _, _, _, _, _, _, _, _, _, _, by omega, rfl, HU7.out, Bxr1y1_7.out, hCr6_2.to (by rw [mulF_step l p j (by omega), Hcd10.out]; rfl), Bxr0y0_7.out, Bxr0y1_7.out, Bxr0y2_7.out⟩, by show ((j : Int) - 1 + 1).toNat < ((j : Int) + 1).toNat; omega⟩
    have Hcd11 := hh hcd
    clear hcd
    refine wp_skip ?_
    refine hK7 _ _ ?_
    clear hK7
    have hq8_1 : IntKind.wrap .i64 ((j : Int) - 1) = (j : Int) - 1 := IntWalk.i64_in _ (by omega)
    refine wp_region_qSD 3 #[true, true, true] [] ([.val (.int .i64 (j : Int)), .val (.int .i64 ((j : Int) - 1)), .val (.int .i64 ((j : Int) - 1))] : List SQ) (by kernel_rfl) (by kernel_rfl) (by kernel_rfl) (by kernel_rfl) ?_ ?_
    · intro i o listed an wn ho hls hst hun hdep hI hD hpre K' hK'
      rcases slot_cases (l := [0, 1, 2]) rfl ho hst with rfl | rfl | rfl | ⟨⟨⟩⟩
      · obtain rfl := Option.some.inj ho
        have hvp : an.eval (.tmp 6) = .int .i64 (j : Int) := hI.oldS hpre (by kernel_rfl) rfl
        exact hI.pq hD hls rfl rfl rfl _ (run_moveQ (.inl rfl) hvp wn) (.val (.int .i64 (j : Int))) rfl rfl rfl hK'
      · obtain rfl := Option.some.inj ho
        obtain ⟨vp, hvp, rfl⟩ := hI.hq 0 _ 10 _ rfl rfl rfl (dp hdep 0 rfl rfl)
        exact hI.pq hD hls rfl rfl rfl _ (run_sub rfl (eval_of hvp) rfl hq8_1 wn) (.val (.int .i64 ((j : Int) - 1))) rfl rfl rfl hK'
      · obtain rfl := Option.some.inj ho
        obtain ⟨vp, hvp, rfl⟩ := hI.hq 1 _ 11 _ rfl rfl rfl (dp hdep 0 rfl rfl)
        exact hI.pq hD hls rfl rfl rfl _ (run_moveQ (.inr rfl) (eval_of hvp) wn) (.val (.int .i64 ((j : Int) - 1))) rfl rfl rfl hK'
    intro an w9 hI
    obtain ⟨vr8_0, hvr8_0, rfl⟩ := hI.hq 0 _ 10 _ rfl rfl rfl rfl
    obtain ⟨vr8_1, hvr8_1, rfl⟩ := hI.hq 1 _ 11 _ rfl rfl rfl rfl
    obtain ⟨vr8_2, hvr8_2, rfl⟩ := hI.hq 2 _ 6 _ rfl rfl rfl rfl
    have hupd := hI.upd
    have ha := hI.act [(10, .int .i64 (j : Int)), (11, .int .i64 ((j : Int) - 1)), (6, .int .i64 ((j : Int) - 1))] (by simp [hvr8_0, hvr8_1, hvr8_2]) (by kernel_rfl)
    clear hI hvr8_0 hvr8_1 hvr8_2
    subst ha
    simp only [List.foldl_cons, List.foldl_nil, List.setIfInBounds_toArray, List.set_cons_zero, List.set_cons_succ]
    have Bxr0y0_8 := hupd.keep Bxr0y0_5
    have Bxr0y1_8 := hupd.keep Bxr0y1_5
    have Bxr0y2_8 := hupd.keep Bxr0y2_5
    have Bxr1y1_8 := hupd.keep Bxr1y1_5
    have HU8 := hh (HU5.out.trans hupd)
    clear hupd
    refine wpOps_nil ?_
    exact ⟨⟨j, _, _, _, _, _, _, _, _, _, _, _, _, _, _, _, _, _, _, _, _, by omega, rfl, HU8.out, Bxr1y1_8.out, hCr4_2.to (by rw [mulF_step l p j (by omega), Hcd11.out]; rfl), Bxr0y0_8.out, Bxr0y1_8.out, Bxr0y2_8.out⟩, by show ((j : Int) - 1 + 1).toNat < ((j : Int) + 1).toNat; omega⟩
  obtain rfl : k = 0 := by omega
  rw [show ((0 : Nat) : Int) - 1 = -1 by omega]
  clear hlt
  refine wp_seq_k fun K12 hK12 => ?_
  refine wp_seq_k fun K13 hK13 => ?_
  have hq9_1 : decide (((0 : Int) ≤ (-1) : Prop)) = false := decide_eq_false (by omega)
  refine wp_region_qSD 2 #[true, true] [] ([.val (.int .i64 (-1)), .val (.bool false)] : List SQ) (by kernel_rfl) (by kernel_rfl) (by kernel_rfl) (by kernel_rfl) ?_ ?_
  · intro i o listed an wn ho hls hst hun hdep hI hD hpre K' hK'
    rcases slot_cases (l := [0, 1]) rfl ho hst with rfl | rfl | ⟨⟨⟩⟩
    · obtain rfl := Option.some.inj ho
      have hvp : an.eval (.tmp 6) = .int .i64 (-1) := hI.oq (by kernel_rfl) rfl
      exact hI.pq hD hls rfl rfl rfl _ (run_moveQ (.inl rfl) hvp wn) (.val (.int .i64 (-1))) rfl rfl rfl hK'
    · obtain rfl := Option.some.inj ho
      obtain ⟨vp, hvp, rfl⟩ := hI.hq 0 _ 8 _ rfl rfl rfl (dp hdep 0 rfl rfl)
      exact hI.pq hD hls rfl rfl rfl _ (run_geq rfl (eval_of hvp) rfl hq9_1 wn) (.val (.bool false)) rfl rfl rfl hK'
  intro an w10 hI
  obtain ⟨vr9_0, hvr9_0, rfl⟩ := hI.hq 0 _ 8 _ rfl rfl rfl rfl
  obtain ⟨vr9_1, hvr9_1, rfl⟩ := hI.hq 1 _ 9 _ rfl rfl rfl rfl
  have hupd := hI.upd
  have ha := hI.act [(8, .int .i64 (-1)), (9, .bool false)] (by simp [hvr9_0, hvr9_1]) (by kernel_rfl)
  clear hI hvr9_0 hvr9_1
  subst ha
  simp only [List.foldl_cons, List.foldl_nil, List.setIfInBounds_toArray, List.set_cons_zero, List.set_cons_succ]
  have Bxr0y0_9 := hupd.keep Bxr0y0_l4
  have Bxr0y1_9 := hupd.keep Bxr0y1_l4
  have Bxr0y2_9 := hupd.keep Bxr0y2_l4
  have Bxr1y1_9 := hupd.keep Bxr1y1_l4
  have HU9 := hh (HUl4.out.trans hupd)
  clear hupd
  refine wpOps_nil ?_
  refine hK13 _ _ ?_
  clear hK13
  refine wp_cond_false rfl ?_
  refine wp_exit_then ?_
  refine hK2 _ _ ?_
  clear hK2
  refine wp_seq_k fun K14 hK14 => ?_
  refine wp_region_qSD 1 #[true, false] [1] ([.val (.agg A4_5), .val undef] : List SQ) (by kernel_rfl) (by kernel_rfl) (by kernel_rfl) (by kernel_rfl) ?_ ?_
  · intro i o listed an wn ho hls hst hun hdep hI hD hpre K' hK'
    rcases slot_cases (l := [0]) rfl ho hst with rfl | ⟨⟨⟩⟩
    · obtain rfl := Option.some.inj ho
      have hvp : an.eval (.tmp 5) = ptrTo br1_1 := hI.oq (by kernel_rfl) rfl
      exact hI.pq hD hls rfl rfl rfl _ (run_loadQ rfl hvp wn (hI.upd.keep Bxr1y1_9).out Tryd.underlying41 rfl szPt (by rw [hcl5.size]; exact Nat.le_of_ble_eq_true rfl)) (.val (.agg A4_5)) rfl (congrArg Value.agg (extract_all _ 20 hcl5.size)) rfl hK'
  intro an w11 hI
  obtain ⟨vr10_0, hvr10_0, rfl⟩ := hI.hq 0 _ 27 _ rfl rfl rfl rfl
  have hupd := hI.upd
  have ha := hI.act [(27, .agg A4_5)] (by simp [hvr10_0]) (by kernel_rfl)
  clear hI hvr10_0
  subst ha
  simp only [List.foldl_cons, List.foldl_nil, List.setIfInBounds_toArray, List.set_cons_zero, List.set_cons_succ]
  have Bxr0y0_10 := hupd.keep Bxr0y0_9
  have Bxr0y1_10 := hupd.keep Bxr0y1_9
  have Bxr0y2_10 := hupd.keep Bxr0y2_9
  have Bxr1y1_10 := hupd.keep Bxr1y1_9
  have HU10 := hh (HU9.out.trans hupd)
  clear hupd
  refine wpOps_storeQ 1 rfl rfl rfl 41 (.tmp 4) (.tmp 27) rfl br0_2 0 20 rfl A4_5 rfl 41 zr0_2 Bxr0y2_10.out szPt hcl5.size (by rw [hzr0_2.size]; exact Nat.le_of_ble_eq_true rfl) hcl5.one' ?_
  intro ws10_0 hs10_0 hus10_0
  rw [splice_all _ _ 20 hzr0_2.size hcl5.size] at hs10_0
  have Bxr0y0_s10_0 := hus10_0.keepS Bxr0y0_10 (fun e => hner0_0_r0_2.out e)
  have Bxr0y1_s10_0 := hus10_0.keepS Bxr0y1_10 (fun e => hner0_1_r0_2.out e)
  have Bxr1y1_s10_0 := hus10_0.keepS Bxr1y1_10 (fun e => hner1_1_Bxr0y2.out e)
  have Bxr0y2_s10_0 := hh hs10_0
  have HU10_0 := hh (HU10.out.step hus10_0 (fun i hi h => absurd hi (Nat.not_lt.2 (h.symm ▸ hger0_2.out))))
  clear hs10_0 hus10_0
  refine wpOps_nil ?_
  refine hK14 _ _ ?_
  clear hK14
  refine wp_ret ?_
  try dsimp only [Exit.then]
  try dsimp only [Exit.inBlock]
  exact bodyPost_ret (v := .agg A4_5) (results_cell_row (fn := Tryd.f36) (p := 4) (ty := 41) rfl _ _ br0_2 41 _ (0, 0) _ rfl Bxr0y2_s10_0.out Tryd.underlying41 rfl (by rw [hcl5.size]; exact szPt)) rfl ⟨_, rfl, hcl5, HU10_0.out⟩
end Go.Proofs.YtdpafemcpbhlfaaDoor
