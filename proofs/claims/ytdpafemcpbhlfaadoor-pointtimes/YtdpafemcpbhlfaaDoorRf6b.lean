/-
  Walks of the reference of layer 6: Encode, minusOne, root.
-/
import Derived.Test.YtdpafemcpbhlfaaDoorR6Math
namespace Go.Proofs.YtdpafemcpbhlfaaDoor
set_option maxRecDepth 100000
open Go.RowKit

set_option maxHeartbeats 4000000 in
theorem rencodeP {x1 y1 z1 : Fp} {a : Array Value} (w : World) (ha : Ch 16 RN [x1, y1, z1] a) :
    Calls Tryd.prog 27 #[.agg a] w fun e w' => e = .returned (.agg (numsA .u8 (encL (x1 * finv z1) (y1 * finv z1)))) ∧ Upd (fun _ => False) w w' := by
  have HU := hh (Upd.refl (fun _ => False) w)
  have h1 := keyOf_last (y1 * (finv z1))
  have h2 : 0 ≤ (keyOf (y1 * (finv z1))).getD 31 0 + 128 ∧ (keyOf (y1 * (finv z1))).getD 31 0 + 128 < 256 := by omega
  go_enter Tryd.func27, Tryd.ntmps27
  refine wp_seq_k fun K0 hK0 => ?_
  refine wp_region_qSD 2 #[true, true] [] ([.blk ptrTo 47 (Ch 16 RN [x1, y1, z1]), .blk ptrTo 23 (fun z => z = numsA .u8 zeroKL)] : List SQ) (by kernel_rfl) (by kernel_rfl) (by kernel_rfl) (by kernel_rfl) ?_ ?_
  · intro i o listed an wn ho hls hst hun hdep hI hD hpre K' hK'
    rcases slot_cases (l := [0, 1]) rfl ho hst with rfl | rfl | ⟨⟨⟩⟩
    · obtain rfl := Option.some.inj ho
      have hvp : an.eval (.tmp 0) = .agg a := hI.oq (by kernel_rfl) rfl
      exact hI.newQ hD hls (Nat.le_refl _) (newsQ_spec (l := [0, 1]) (by kernel_rfl) ⟨⟨_, _, rfl⟩, ⟨_, _, rfl⟩, trivial⟩) rfl rfl rfl 47 a _ (run_boxQ rfl hvp wn) rfl ha hK'
    · obtain rfl := Option.some.inj ho
      exact hI.newQ hD hls (Nat.le_refl _) (newsQ_spec (l := [0, 1]) (by kernel_rfl) ⟨⟨_, _, rfl⟩, ⟨_, _, rfl⟩, trivial⟩) rfl rfl rfl 23 _ (fun z => z = numsA .u8 zeroKL) (run_allocQ rfl zeroK_run wn) rfl rfl hK'
  intro an w1 hI
  obtain ⟨vr0_0, hvr0_0, br0_0, zr0_0, rfl, hnr0_0, hbr0_0, hzr0_0⟩ := hI.hq 0 _ 1 _ rfl rfl rfl rfl
  obtain ⟨vr0_1, hvr0_1, br0_1, zr0_1, rfl, hnr0_1, hbr0_1, hzr0_1⟩ := hI.hq 1 _ 2 _ rfl rfl rfl rfl
  rw [hzr0_1] at hbr0_1
  clear hzr0_1
  have hupd := hI.upd
  have hner0_0_r0_1 := hh (show br0_0 ≠ br0_1 from fun e => hI.apart 0 1 _ _ 1 2 (by omega) rfl rfl rfl rfl rfl rfl rfl rfl (by rw [hvr0_0, hvr0_1, e]))
  have ha := hI.act [(1, ptrTo br0_0), (2, ptrTo br0_1)] (by simp [hvr0_0, hvr0_1]) (by kernel_rfl)
  clear hI hvr0_0 hvr0_1
  subst ha
  simp only [List.foldl_cons, List.foldl_nil, List.setIfInBounds_toArray, List.set_cons_zero, List.set_cons_succ]
  have hger0_0 := geB HU hnr0_0
  have hger0_1 := geB HU hnr0_1
  have Bxr0y0 := hh hbr0_0
  have Bxr0y1 := hh hbr0_1
  have HU0 := hh (HU.out.trans hupd)
  clear hupd
  refine wpOps_nil ?_
  refine hK0 _ _ ?_
  clear hK0
  refine wp_seq_k fun K1 hK1 => ?_
  refine wp_region_qSD 4 #[true, true, true, true, false] [4] ([.val (.pointer (some ⟨br0_0, 0 + 32, none⟩)), .val (.agg (zr0_0.extract (0 + 32) (0 + 32 + 16))), .like (IsC 16 RN [finv z1]), .blk ptrTo 45 (Ch 16 RN [0]), .val undef] : List SQ) (by kernel_rfl) (by kernel_rfl) (by kernel_rfl) (by kernel_rfl) ?_ ?_
  · intro i o listed an wn ho hls hst hun hdep hI hD hpre K' hK'
    rcases slot_cases (l := [0, 1, 2, 3]) rfl ho hst with rfl | rfl | rfl | rfl | ⟨⟨⟩⟩
    · obtain rfl := Option.some.inj ho
      have hvp : an.eval (.tmp 1) = ptrTo br0_0 := hI.oq (by kernel_rfl) rfl
      exact hI.pq hD hls rfl rfl rfl _ (run_fieldQ (g := br0_0) (off := 0) (k := 32) rfl hvp Tryd.underlying47 rfl (by rfl) szN wn) (.val (.pointer (some ⟨br0_0, 0 + 32, none⟩))) rfl rfl rfl hK'
    · obtain rfl := Option.some.inj ho
      obtain ⟨vp, hvp, rfl⟩ := hI.hq 0 _ 6 _ rfl rfl rfl (dp hdep 0 rfl rfl)
      exact hI.pq hD hls rfl rfl rfl _ (run_loadQ rfl (eval_of hvp) wn (hI.upd.keep Bxr0y0).out Tryd.underlying45 rfl szN (by rw [hzr0_0.size]; exact Nat.le_of_ble_eq_true rfl)) (.val (.agg (zr0_0.extract (0 + 32) (0 + 32 + 16)))) rfl rfl rfl hK'
    · obtain rfl := Option.some.inj ho
      obtain ⟨vp, hvp, rfl⟩ := hI.hq 1 _ 7 _ rfl rfl rfl (dp hdep 0 rfl rfl)
      exact hI.cq hD hls rfl rfl rfl 59 #[.tmp 7] _ rfl #[.agg (zr0_0.extract (0 + 32) (0 + 32 + 16))] (by simp [eval_of hvp]) (run_enter Tryd.func59 (by kernel_rfl) (by kernel_rfl)) (.like (IsC 16 RN [finv z1])) rfl rfl ((rInvE (hzr0_0.at 2 (0 + 32) rfl rfl)).mono fun _ _ h => h.sq) hK'
    · obtain rfl := Option.some.inj ho
      exact hI.newQ hD hls (Nat.le_refl _) (newsQ_spec (l := [3]) (by kernel_rfl) ⟨⟨_, _, rfl⟩, trivial⟩) rfl rfl rfl 45 zeroN _ (run_allocQ rfl zN_run wn) rfl zN_ch hK'
  intro an w2 hI
  obtain ⟨vr1_0, hvr1_0, rfl⟩ := hI.hq 0 _ 6 _ rfl rfl rfl rfl
  obtain ⟨vr1_1, hvr1_1, rfl⟩ := hI.hq 1 _ 7 _ rfl rfl rfl rfl
  obtain ⟨vr1_2, hvr1_2, ar1_2, rfl, hCr1_2⟩ := hI.hq 2 _ 8 _ rfl rfl rfl rfl
  obtain ⟨vr1_3, hvr1_3, br1_3, zr1_3, rfl, hnr1_3, hbr1_3, hzr1_3⟩ := hI.hq 3 _ 3 _ rfl rfl rfl rfl
  have hupd := hI.upd
  have ha := hI.act [(6, .pointer (some ⟨br0_0, 0 + 32, none⟩)), (7, .agg (zr0_0.extract (0 + 32) (0 + 32 + 16))), (8, .agg ar1_2), (3, ptrTo br1_3)] (by simp [hvr1_0, hvr1_1, hvr1_2, hvr1_3]) (by kernel_rfl)
  clear hI hvr1_0 hvr1_1 hvr1_2 hvr1_3
  subst ha
  simp only [List.foldl_cons, List.foldl_nil, List.setIfInBounds_toArray, List.set_cons_zero, List.set_cons_succ]
  have hner1_3_Bxr0y0 := apartB Bxr0y0 hnr1_3
  have hner1_3_Bxr0y1 := apartB Bxr0y1 hnr1_3
  have hger1_3 := geB HU0 hnr1_3
  have Bxr0y0_1 := hupd.keep Bxr0y0
  have Bxr0y1_1 := hupd.keep Bxr0y1
  have Bxr1y3 := hh hbr1_3
  have HU1 := hh (HU0.out.trans hupd)
  clear hupd
  refine wpOps_storeQ 4 rfl rfl rfl 45 (.tmp 3) (.tmp 8) rfl br1_3 0 16 rfl ar1_2 rfl 45 zr1_3 Bxr1y3.out szN hCr1_2.size (by rw [hzr1_3.size]; exact Nat.le_of_ble_eq_true rfl) hCr1_2.one' ?_
  intro ws1_0 hs1_0 hus1_0
  rw [splice_all _ _ 16 hzr1_3.size hCr1_2.size] at hs1_0
  have Bxr0y0_s1_0 := hus1_0.keepS Bxr0y0_1 (fun e => hner1_3_Bxr0y0.out e.symm)
  have Bxr0y1_s1_0 := hus1_0.keepS Bxr0y1_1 (fun e => hner1_3_Bxr0y1.out e.symm)
  have Bxr1y3_s1_0 := hh hs1_0
  have HU1_0 := hh (HU1.out.step hus1_0 (fun i hi h => absurd hi (Nat.not_lt.2 (h.symm ▸ hger1_3.out))))
  clear hs1_0 hus1_0
  refine wpOps_nil ?_
  refine hK1 _ _ ?_
  clear hK1
  refine wp_seq_k fun K2 hK2 => ?_
  refine wp_region_qSD 6 #[true, true, true, true, true, true, false] [6] ([.val (.pointer (some ⟨br0_0, 0 + 16, none⟩)), .val (.agg (zr0_0.extract (0 + 16) (0 + 16 + 16))), .val (.agg ar1_2), .like (IsC 16 RN [y1 * (finv z1)]), .val (.agg (numsA .u8 (keyOf (y1 * (finv z1))))), .blk ptrTo 23 (fun z => z = numsA .u8 zeroKL), .val undef] : List SQ) (by kernel_rfl) (by kernel_rfl) (by kernel_rfl) (by kernel_rfl) ?_ ?_
  · intro i o listed an wn ho hls hst hun hdep hI hD hpre K' hK'
    rcases slot_cases (l := [0, 1, 2, 3, 4, 5]) rfl ho hst with rfl | rfl | rfl | rfl | rfl | rfl | ⟨⟨⟩⟩
    · obtain rfl := Option.some.inj ho
      have hvp : an.eval (.tmp 1) = ptrTo br0_0 := hI.oq (by kernel_rfl) rfl
      exact hI.pq hD hls rfl rfl rfl _ (run_fieldQ (g := br0_0) (off := 0) (k := 16) rfl hvp Tryd.underlying47 rfl (by rfl) szN wn) (.val (.pointer (some ⟨br0_0, 0 + 16, none⟩))) rfl rfl rfl hK'
    · obtain rfl := Option.some.inj ho
      obtain ⟨vp, hvp, rfl⟩ := hI.hq 0 _ 9 _ rfl rfl rfl (dp hdep 0 rfl rfl)
      exact hI.pq hD hls rfl rfl rfl _ (run_loadQ rfl (eval_of hvp) wn (hI.upd.keep Bxr0y0_s1_0).out Tryd.underlying45 rfl szN (by rw [hzr0_0.size]; exact Nat.le_of_ble_eq_true rfl)) (.val (.agg (zr0_0.extract (0 + 16) (0 + 16 + 16)))) rfl rfl rfl hK'
    · obtain rfl := Option.some.inj ho
      have hvp : an.eval (.tmp 3) = ptrTo br1_3 := hI.oq (by kernel_rfl) rfl
      exact hI.pq hD hls rfl rfl rfl _ (run_loadQ rfl hvp wn (hI.upd.keep Bxr1y3_s1_0).out Tryd.underlying45 rfl szN (by rw [hCr1_2.size]; exact Nat.le_of_ble_eq_true rfl)) (.val (.agg ar1_2)) rfl (congrArg Value.agg (extract_all _ 16 hCr1_2.size)) rfl hK'
    · obtain rfl := Option.some.inj ho
      obtain ⟨vp, hvp, rfl⟩ := hI.hq 1 _ 10 _ rfl rfl rfl (dp hdep 0 rfl rfl)
      obtain ⟨vq, hvq, rfl⟩ := hI.hq 2 _ 11 _ rfl rfl rfl (dp hdep 1 rfl rfl)
      exact hI.cq hD hls rfl rfl rfl 58 #[.tmp 10, .tmp 11] _ rfl #[.agg (zr0_0.extract (0 + 16) (0 + 16 + 16)), .agg ar1_2] (by simp [eval_of hvp, eval_of hvq]) (run_enter Tryd.func58 (by kernel_rfl) (by kernel_rfl)) (.like (IsC 16 RN [y1 * (finv z1)])) rfl rfl ((rMulE (hzr0_0.at 1 (0 + 16) rfl rfl) hCr1_2).mono fun _ _ h => h.sq) hK'
    · obtain rfl := Option.some.inj ho
      obtain ⟨vp, hvp, ap, rfl, hCp⟩ := hI.hq 3 _ 12 _ rfl rfl rfl (dp hdep 0 rfl rfl)
      exact hI.cq hD hls rfl rfl rfl 57 #[.tmp 12] _ rfl #[.agg ap] (by simp [eval_of hvp]) (run_enter Tryd.func57 (by kernel_rfl) (by kernel_rfl)) (.val (.agg (numsA .u8 (keyOf (y1 * (finv z1)))))) rfl rfl ((rBytesE hCp).mono fun _ _ h => ret_val h) hK'
    · obtain rfl := Option.some.inj ho
      exact hI.newQ hD hls (Nat.le_refl _) (newsQ_spec (l := [5]) (by kernel_rfl) ⟨⟨_, _, rfl⟩, trivial⟩) rfl rfl rfl 23 _ (fun z => z = numsA .u8 zeroKL) (run_allocQ rfl zeroK_run wn) rfl rfl hK'
  intro an w3 hI
  obtain ⟨vr2_0, hvr2_0, rfl⟩ := hI.hq 0 _ 9 _ rfl rfl rfl rfl
  obtain ⟨vr2_1, hvr2_1, rfl⟩ := hI.hq 1 _ 10 _ rfl rfl rfl rfl
  obtain ⟨vr2_2, hvr2_2, rfl⟩ := hI.hq 2 _ 11 _ rfl rfl rfl rfl
  obtain ⟨vr2_3, hvr2_3, ar2_3, rfl, hCr2_3⟩ := hI.hq 3 _ 12 _ rfl rfl rfl rfl
  obtain ⟨vr2_4, hvr2_4, rfl⟩ := hI.hq 4 _ 13 _ rfl rfl rfl rfl
  obtain ⟨vr2_5, hvr2_5, br2_5, zr2_5, rfl, hnr2_5, hbr2_5, hzr2_5⟩ := hI.hq 5 _ 4 _ rfl rfl rfl rfl
  rw [hzr2_5] at hbr2_5
  clear hzr2_5
  have hupd := hI.upd
  have ha := hI.act [(9, .pointer (some ⟨br0_0, 0 + 16, none⟩)), (10, .agg (zr0_0.extract (0 + 16) (0 + 16 + 16))), (11, .agg ar1_2), (12, .agg ar2_3), (13, .agg (numsA .u8 (keyOf (y1 * (finv z1))))), (4, ptrTo br2_5)] (by simp [hvr2_0, hvr2_1, hvr2_2, hvr2_3, hvr2_4, hvr2_5]) (by kernel_rfl)
  clear hI hvr2_0 hvr2_1 hvr2_2 hvr2_3 hvr2_4 hvr2_5
  subst ha
  simp only [List.foldl_cons, List.foldl_nil, List.setIfInBounds_toArray, List.set_cons_zero, List.set_cons_succ]
  have hner2_5_Bxr0y0_s1_0 := apartB Bxr0y0_s1_0 hnr2_5
  have hner2_5_Bxr0y1_s1_0 := apartB Bxr0y1_s1_0 hnr2_5
  have hner2_5_Bxr1y3_s1_0 := apartB Bxr1y3_s1_0 hnr2_5
  have hger2_5 := geB HU1_0 hnr2_5
  have Bxr0y0_2 := hupd.keep Bxr0y0_s1_0
  have Bxr0y1_2 := hupd.keep Bxr0y1_s1_0
  have Bxr1y3_2 := hupd.keep Bxr1y3_s1_0
  have Bxr2y5 := hh hbr2_5
  have HU2 := hh (HU1_0.out.trans hupd)
  clear hupd
  refine wpOps_storeQ 6 rfl rfl rfl 23 (.tmp 4) (.tmp 13) rfl br2_5 0 32 rfl (numsA .u8 (keyOf (y1 * (finv z1)))) rfl 23 (numsA .u8 zeroKL) Bxr2y5.out sizeKey (by rw [numsA_size]; exact keyOf_length _) (by rw [(show (numsA _ _).size = 32 by rw [numsA_size]; exact zeroKL_length)]; exact Nat.le_of_ble_eq_true rfl) (numsA_one _ _) ?_
  intro ws2_0 hs2_0 hus2_0
  rw [splice_all _ _ 32 (show (numsA _ _).size = 32 by rw [numsA_size]; exact zeroKL_length) (by rw [numsA_size]; exact keyOf_length _)] at hs2_0
  have Bxr0y0_s2_0 := hus2_0.keepS Bxr0y0_2 (fun e => hner2_5_Bxr0y0_s1_0.out e.symm)
  have Bxr0y1_s2_0 := hus2_0.keepS Bxr0y1_2 (fun e => hner2_5_Bxr0y1_s1_0.out e.symm)
  have Bxr1y3_s2_0 := hus2_0.keepS Bxr1y3_2 (fun e => hner2_5_Bxr1y3_s1_0.out e.symm)
  have Bxr2y5_s2_0 := hh hs2_0
  have HU2_0 := hh (HU2.out.step hus2_0 (fun i hi h => absurd hi (Nat.not_lt.2 (h.symm ▸ hger2_5.out))))
  clear hs2_0 hus2_0
  refine wpOps_nil ?_
  refine hK2 _ _ ?_
  clear hK2
  refine wp_seq_k fun K3 hK3 => ?_
  refine wp_region_qSD 6 #[true, true, true, true, true, true, false] [6] ([.val (.pointer (some ⟨br0_0, 0 + 0, none⟩)), .val (.agg (zr0_0.extract (0 + 0) (0 + 0 + 16))), .val (.agg ar1_2), .like (IsC 16 RN [x1 * (finv z1)]), .val (.agg (numsA .u8 (keyOf (x1 * (finv z1))))), .blk ptrTo 23 (fun z => z = numsA .u8 zeroKL), .val undef] : List SQ) (by kernel_rfl) (by kernel_rfl) (by kernel_rfl) (by kernel_rfl) ?_ ?_
  · intro i o listed an wn ho hls hst hun hdep hI hD hpre K' hK'
    rcases slot_cases (l := [0, 1, 2, 3, 4, 5]) rfl ho hst with rfl | rfl | rfl | rfl | rfl | rfl | ⟨⟨⟩⟩
    · obtain rfl := Option.some.inj ho
      have hvp : an.eval (.tmp 1) = ptrTo br0_0 := hI.oq (by kernel_rfl) rfl
      exact hI.pq hD hls rfl rfl rfl _ (run_fieldQ (g := br0_0) (off := 0) (k := 0) rfl hvp Tryd.underlying47 rfl (by rfl) szN wn) (.val (.pointer (some ⟨br0_0, 0 + 0, none⟩))) rfl rfl rfl hK'
    · obtain rfl := Option.some.inj ho
      obtain ⟨vp, hvp, rfl⟩ := hI.hq 0 _ 14 _ rfl rfl rfl (dp hdep 0 rfl rfl)
      exact hI.pq hD hls rfl rfl rfl _ (run_loadQ rfl (eval_of hvp) wn (hI.upd.keep Bxr0y0_s2_0).out Tryd.underlying45 rfl szN (by rw [hzr0_0.size]; exact Nat.le_of_ble_eq_true rfl)) (.val (.agg (zr0_0.extract (0 + 0) (0 + 0 + 16)))) rfl rfl rfl hK'
    · obtain rfl := Option.some.inj ho
      have hvp : an.eval (.tmp 3) = ptrTo br1_3 := hI.oq (by kernel_rfl) rfl
      exact hI.pq hD hls rfl rfl rfl _ (run_loadQ rfl hvp wn (hI.upd.keep Bxr1y3_s2_0).out Tryd.underlying45 rfl szN (by rw [hCr1_2.size]; exact Nat.le_of_ble_eq_true rfl)) (.val (.agg ar1_2)) rfl (congrArg Value.agg (extract_all _ 16 hCr1_2.size)) rfl hK'
    · obtain rfl := Option.some.inj ho
      obtain ⟨vp, hvp, rfl⟩ := hI.hq 1 _ 15 _ rfl rfl rfl (dp hdep 0 rfl rfl)
      obtain ⟨vq, hvq, rfl⟩ := hI.hq 2 _ 16 _ rfl rfl rfl (dp hdep 1 rfl rfl)
      exact hI.cq hD hls rfl rfl rfl 58 #[.tmp 15, .tmp 16] _ rfl #[.agg (zr0_0.extract (0 + 0) (0 + 0 + 16)), .agg ar1_2] (by simp [eval_of hvp, eval_of hvq]) (run_enter Tryd.func58 (by kernel_rfl) (by kernel_rfl)) (.like (IsC 16 RN [x1 * (finv z1)])) rfl rfl ((rMulE (hzr0_0.at 0 (0 + 0) rfl rfl) hCr1_2).mono fun _ _ h => h.sq) hK'
    · obtain rfl := Option.some.inj ho
      obtain ⟨vp, hvp, ap, rfl, hCp⟩ := hI.hq 3 _ 17 _ rfl rfl rfl (dp hdep 0 rfl rfl)
      exact hI.cq hD hls rfl rfl rfl 57 #[.tmp 17] _ rfl #[.agg ap] (by simp [eval_of hvp]) (run_enter Tryd.func57 (by kernel_rfl) (by kernel_rfl)) (.val (.agg (numsA .u8 (keyOf (x1 * (finv z1)))))) rfl rfl ((rBytesE hCp).mono fun _ _ h => ret_val h) hK'
    · obtain rfl := Option.some.inj ho
      exact hI.newQ hD hls (Nat.le_refl _) (newsQ_spec (l := [5]) (by kernel_rfl) ⟨⟨_, _, rfl⟩, trivial⟩) rfl rfl rfl 23 _ (fun z => z = numsA .u8 zeroKL) (run_allocQ rfl zeroK_run wn) rfl rfl hK'
  intro an w4 hI
  obtain ⟨vr3_0, hvr3_0, rfl⟩ := hI.hq 0 _ 14 _ rfl rfl rfl rfl
  obtain ⟨vr3_1, hvr3_1, rfl⟩ := hI.hq 1 _ 15 _ rfl rfl rfl rfl
  obtain ⟨vr3_2, hvr3_2, rfl⟩ := hI.hq 2 _ 16 _ rfl rfl rfl rfl
  obtain ⟨vr3_3, hvr3_3, ar3_3, rfl, hCr3_3⟩ := hI.hq 3 _ 17 _ rfl rfl rfl rfl
  obtain ⟨vr3_4, hvr3_4, rfl⟩ := hI.hq 4 _ 18 _ rfl rfl rfl rfl
  obtain ⟨vr3_5, hvr3_5, br3_5, zr3_5, rfl, hnr3_5, hbr3_5, hzr3_5⟩ := hI.hq 5 _ 5 _ rfl rfl rfl rfl
  rw [hzr3_5] at hbr3_5
  clear hzr3_5
  have hupd := hI.upd
  have ha := hI.act [(14, .pointer (some ⟨br0_0, 0 + 0, none⟩)), (15, .agg (zr0_0.extract (0 + 0) (0 + 0 + 16))), (16, .agg ar1_2), (17, .agg ar3_3), (18, .agg (numsA .u8 (keyOf (x1 * (finv z1))))), (5, ptrTo br3_5)] (by simp [hvr3_0, hvr3_1, hvr3_2, hvr3_3, hvr3_4, hvr3_5]) (by kernel_rfl)
  clear hI hvr3_0 hvr3_1 hvr3_2 hvr3_3 hvr3_4 hvr3_5
  subst ha
  simp only [List.foldl_cons, List.foldl_nil, List.setIfInBounds_toArray, List.set_cons_zero, List.set_cons_succ]
  have hner3_5_Bxr0y0_s2_0 := apartB Bxr0y0_s2_0 hnr3_5
  have hner3_5_Bxr0y1_s2_0 := apartB Bxr0y1_s2_0 hnr3_5
  have hner3_5_Bxr1y3_s2_0 := apartB Bxr1y3_s2_0 hnr3_5
  have hner3_5_Bxr2y5_s2_0 := apartB Bxr2y5_s2_0 hnr3_5
  have hger3_5 := geB HU2_0 hnr3_5
  have Bxr0y0_3 := hupd.keep Bxr0y0_s2_0
  have Bxr0y1_3 := hupd.keep Bxr0y1_s2_0
  have Bxr1y3_3 := hupd.keep Bxr1y3_s2_0
  have Bxr2y5_3 := hupd.keep Bxr2y5_s2_0
  have Bxr3y5 := hh hbr3_5
  have HU3 := hh (HU2_0.out.trans hupd)
  clear hupd
  refine wpOps_storeQ 6 rfl rfl rfl 23 (.tmp 5) (.tmp 18) rfl br3_5 0 32 rfl (numsA .u8 (keyOf (x1 * (finv z1)))) rfl 23 (numsA .u8 zeroKL) Bxr3y5.out sizeKey (by rw [numsA_size]; exact keyOf_length _) (by rw [(show (numsA _ _).size = 32 by rw [numsA_size]; exact zeroKL_length)]; exact Nat.le_of_ble_eq_true rfl) (numsA_one _ _) ?_
  intro ws3_0 hs3_0 hus3_0
  rw [splice_all _ _ 32 (show (numsA _ _).size = 32 by rw [numsA_size]; exact zeroKL_length) (by rw [numsA_size]; exact keyOf_length _)] at hs3_0
  have Bxr0y0_s3_0 := hus3_0.keepS Bxr0y0_3 (fun e => hner3_5_Bxr0y0_s2_0.out e.symm)
  have Bxr0y1_s3_0 := hus3_0.keepS Bxr0y1_3 (fun e => hner3_5_Bxr0y1_s2_0.out e.symm)
  have Bxr1y3_s3_0 := hus3_0.keepS Bxr1y3_3 (fun e => hner3_5_Bxr1y3_s2_0.out e.symm)
  have Bxr2y5_s3_0 := hus3_0.keepS Bxr2y5_3 (fun e => hner3_5_Bxr2y5_s2_0.out e.symm)
  have Bxr3y5_s3_0 := hh hs3_0
  have HU3_0 := hh (HU3.out.step hus3_0 (fun i hi h => absurd hi (Nat.not_lt.2 (h.symm ▸ hger3_5.out))))
  clear hs3_0 hus3_0
  refine wpOps_nil ?_
  refine hK3 _ _ ?_
  clear hK3
  refine wp_seq_k fun K4 hK4 => ?_
  refine wp_seq_k fun K5 hK5 => ?_
  refine wp_region_qSD 4 #[true, true, true, true] [] ([.val (.pointer (some ⟨br3_5, 0 + 0, none⟩)), .val (.int .u8 ((keyOf (x1 * (finv z1))).getD 0 0)), .val (.int .u8 (((keyOf (x1 * (finv z1))).getD 0 0) % 2)), .val (.bool (decide ((((keyOf (x1 * (finv z1))).getD 0 0) % 2) = 1)))] : List SQ) (by kernel_rfl) (by kernel_rfl) (by kernel_rfl) (by kernel_rfl) ?_ ?_
  · intro i o listed an wn ho hls hst hun hdep hI hD hpre K' hK'
    rcases slot_cases (l := [0, 1, 2, 3]) rfl ho hst with rfl | rfl | rfl | rfl | ⟨⟨⟩⟩
    · obtain rfl := Option.some.inj ho
      have hvp : an.eval (.tmp 5) = ptrTo br3_5 := hI.oq (by kernel_rfl) rfl
      exact hI.pq hD hls rfl rfl rfl _ (run_adr (off := 0) (i := 0) rfl Tryd.underlying23 size5 hvp rfl (by omega) wn) (.val (.pointer (some ⟨br3_5, 0 + 0, none⟩))) rfl rfl rfl hK'
    · obtain rfl := Option.some.inj ho
      obtain ⟨vp, hvp, rfl⟩ := hI.hq 0 _ 19 _ rfl rfl rfl (dp hdep 0 rfl rfl)
      exact hI.pq hD hls rfl rfl rfl _ (run_cellQ rfl Tryd.underlying5 (eval_of hvp) wn (hI.upd.keep Bxr3y5_s3_0).out (by rw [Nat.zero_add]; exact numsA_get _ _ _ (by rw [keyOf_length _]; omega))) (.val (.int .u8 ((keyOf (x1 * (finv z1))).getD 0 0))) rfl rfl rfl hK'
    · obtain rfl := Option.some.inj ho
      obtain ⟨vp, hvp, rfl⟩ := hI.hq 1 _ 20 _ rfl rfl rfl (dp hdep 0 rfl rfl)
      exact hI.pq hD hls rfl rfl rfl _ (run_rem rfl (eval_of hvp) rfl (by decide) (Int.tmod_eq_emod_of_nonneg (Digs.get (B := 256) (by decide) (keyOf_digs _) _).1) wn) (.val (.int .u8 (((keyOf (x1 * (finv z1))).getD 0 0) % 2))) rfl rfl rfl hK'
    · obtain rfl := Option.some.inj ho
      obtain ⟨vp, hvp, rfl⟩ := hI.hq 2 _ 21 _ rfl rfl rfl (dp hdep 0 rfl rfl)
      exact hI.pq hD hls rfl rfl rfl _ (run_eql rfl (eval_of hvp) rfl rfl wn) (.val (.bool (decide ((((keyOf (x1 * (finv z1))).getD 0 0) % 2) = 1)))) rfl rfl rfl hK'
  intro an w5 hI
  obtain ⟨vr4_0, hvr4_0, rfl⟩ := hI.hq 0 _ 19 _ rfl rfl rfl rfl
  obtain ⟨vr4_1, hvr4_1, rfl⟩ := hI.hq 1 _ 20 _ rfl rfl rfl rfl
  obtain ⟨vr4_2, hvr4_2, rfl⟩ := hI.hq 2 _ 21 _ rfl rfl rfl rfl
  obtain ⟨vr4_3, hvr4_3, rfl⟩ := hI.hq 3 _ 22 _ rfl rfl rfl rfl
  have hupd := hI.upd
  have ha := hI.act [(19, .pointer (some ⟨br3_5, 0 + 0, none⟩)), (20, .int .u8 ((keyOf (x1 * (finv z1))).getD 0 0)), (21, .int .u8 (((keyOf (x1 * (finv z1))).getD 0 0) % 2)), (22, .bool (decide ((((keyOf (x1 * (finv z1))).getD 0 0) % 2) = 1)))] (by simp [hvr4_0, hvr4_1, hvr4_2, hvr4_3]) (by kernel_rfl)
  clear hI hvr4_0 hvr4_1 hvr4_2 hvr4_3
  subst ha
  simp only [List.foldl_cons, List.foldl_nil, List.setIfInBounds_toArray, List.set_cons_zero, List.set_cons_succ]
  have Bxr0y0_4 := hupd.keep Bxr0y0_s3_0
  have Bxr0y1_4 := hupd.keep Bxr0y1_s3_0
  have Bxr1y3_4 := hupd.keep Bxr1y3_s3_0
  have Bxr2y5_4 := hupd.keep Bxr2y5_s3_0
  have Bxr3y5_4 := hupd.keep Bxr3y5_s3_0
  have HU4 := hh (HU3_0.out.trans hupd)
  clear hupd
  refine wpOps_nil ?_
  refine hK5 _ _ ?_
  clear hK5
  refine wp_cond_split (t := (decide ((((keyOf (x1 * (finv z1))).getD 0 0) % 2) = 1))) rfl (fun hcd => ?_) (fun hcd => ?_)
  · have Hcd6 := hh hcd
    clear hcd
    refine wp_region_qSD 4 #[true, true, true, true, false] [4] ([.val (.pointer (some ⟨br2_5, 0 + 31, none⟩)), .val (.int .u8 ((keyOf (y1 * (finv z1))).getD 31 0)), .val (.int .u8 (((keyOf (y1 * (finv z1))).getD 31 0) + 128)), .val (.pointer (some ⟨br2_5, 0 + 31, none⟩)), .val undef] : List SQ) (by kernel_rfl) (by kernel_rfl) (by kernel_rfl) (by kernel_rfl) ?_ ?_
    · intro i o listed an wn ho hls hst hun hdep hI hD hpre K' hK'
      rcases slot_cases (l := [0, 1, 2, 3]) rfl ho hst with rfl | rfl | rfl | rfl | ⟨⟨⟩⟩
      · obtain rfl := Option.some.inj ho
        have hvp : an.eval (.tmp 4) = ptrTo br2_5 := hI.oq (by kernel_rfl) rfl
        exact hI.pq hD hls rfl rfl rfl _ (run_adr (off := 0) (i := 31) rfl Tryd.underlying23 size5 hvp rfl (by omega) wn) (.val (.pointer (some ⟨br2_5, 0 + 31, none⟩))) rfl rfl rfl hK'
      · obtain rfl := Option.some.inj ho
        obtain ⟨vp, hvp, rfl⟩ := hI.hq 0 _ 23 _ rfl rfl rfl (dp hdep 0 rfl rfl)
        exact hI.pq hD hls rfl rfl rfl _ (run_cellQ rfl Tryd.underlying5 (eval_of hvp) wn (hI.upd.keep Bxr2y5_4).out (by rw [Nat.zero_add]; exact numsA_get _ _ _ (by rw [keyOf_length _]; omega))) (.val (.int .u8 ((keyOf (y1 * (finv z1))).getD 31 0))) rfl rfl rfl hK'
      · obtain rfl := Option.some.inj ho
        obtain ⟨vp, hvp, rfl⟩ := hI.hq 1 _ 24 _ rfl rfl rfl (dp hdep 0 rfl rfl)
        exact hI.pq hD hls rfl rfl rfl _ (run_add rfl (eval_of hvp) rfl (IntWalk.u8_in _ (by omega)) wn) (.val (.int .u8 (((keyOf (y1 * (finv z1))).getD 31 0) + 128))) rfl rfl rfl hK'
      · obtain rfl := Option.some.inj ho
        have hvp : an.eval (.tmp 4) = ptrTo br2_5 := hI.oq (by kernel_rfl) rfl
        exact hI.pq hD hls rfl rfl rfl _ (run_adr (off := 0) (i := 31) rfl Tryd.underlying23 size5 hvp rfl (by omega) wn) (.val (.pointer (some ⟨br2_5, 0 + 31, none⟩))) rfl rfl rfl hK'
    intro an w6 hI
    obtain ⟨vr5_0, hvr5_0, rfl⟩ := hI.hq 0 _ 23 _ rfl rfl rfl rfl
    obtain ⟨vr5_1, hvr5_1, rfl⟩ := hI.hq 1 _ 24 _ rfl rfl rfl rfl
    obtain ⟨vr5_2, hvr5_2, rfl⟩ := hI.hq 2 _ 25 _ rfl rfl rfl rfl
    obtain ⟨vr5_3, hvr5_3, rfl⟩ := hI.hq 3 _ 26 _ rfl rfl rfl rfl
    have hupd := hI.upd
    have ha := hI.act [(23, .pointer (some ⟨br2_5, 0 + 31, none⟩)), (24, .int .u8 ((keyOf (y1 * (finv z1))).getD 31 0)), (25, .int .u8 (((keyOf (y1 * (finv z1))).getD 31 0) + 128)), (26, .pointer (some ⟨br2_5, 0 + 31, none⟩))] (by simp [hvr5_0, hvr5_1, hvr5_2, hvr5_3]) (by kernel_rfl)
    clear hI hvr5_0 hvr5_1 hvr5_2 hvr5_3
    subst ha
    simp only [List.foldl_cons, List.foldl_nil, List.setIfInBounds_toArray, List.set_cons_zero, List.set_cons_succ]
    have Bxr0y0_5 := hupd.keep Bxr0y0_4
    have Bxr0y1_5 := hupd.keep Bxr0y1_4
    have Bxr1y3_5 := hupd.keep Bxr1y3_4
    have Bxr2y5_5 := hupd.keep Bxr2y5_4
    have Bxr3y5_5 := hupd.keep Bxr3y5_4
    have HU5 := hh (HU4.out.trans hupd)
    clear hupd
    refine wpOps_storeB 4 rfl rfl rfl 5 (.tmp 26) (.tmp 25) rfl size5 br2_5 (0 + 31) rfl (((keyOf (y1 * (finv z1))).getD 31 0) + 128) rfl 23 (keyOf (y1 * (finv z1))) Bxr2y5_5.out (by rw [keyOf_length _]; omega) ?_
    rw [Nat.zero_add]
    intro ws5_0 hs5_0 hus5_0
    have Bxr0y0_s5_0 := hus5_0.keepS Bxr0y0_5 (fun e => hner2_5_Bxr0y0_s1_0.out e.symm)
    have Bxr0y1_s5_0 := hus5_0.keepS Bxr0y1_5 (fun e => hner2_5_Bxr0y1_s1_0.out e.symm)
    have Bxr1y3_s5_0 := hus5_0.keepS Bxr1y3_5 (fun e => hner2_5_Bxr1y3_s1_0.out e.symm)
    have Bxr3y5_s5_0 := hus5_0.keepS Bxr3y5_5 (fun e => hner3_5_Bxr2y5_s2_0.out e)
    have Bxr2y5_s5_0 := hh hs5_0
    have HU5_0 := hh (HU5.out.step hus5_0 (fun i hi h => absurd hi (Nat.not_lt.2 (h.symm ▸ hger2_5.out))))
    clear hs5_0 hus5_0
    refine wpOps_nil ?_
    refine hK4 _ _ ?_
    clear hK4
    refine wp_seq_k fun K7 hK7 => ?_
    refine wp_region_qSD 1 #[true, false] [1] ([.val (.agg (numsA .u8 ((keyOf (y1 * (finv z1))).set 31 (((keyOf (y1 * (finv z1))).getD 31 0) + 128)))), .val undef] : List SQ) (by kernel_rfl) (by kernel_rfl) (by kernel_rfl) (by kernel_rfl) ?_ ?_
    · intro i o listed an wn ho hls hst hun hdep hI hD hpre K' hK'
      rcases slot_cases (l := [0]) rfl ho hst with rfl | ⟨⟨⟩⟩
      · obtain rfl := Option.some.inj ho
        have hvp : an.eval (.tmp 4) = ptrTo br2_5 := hI.oq (by kernel_rfl) rfl
        exact hI.pq hD hls rfl rfl rfl _ (run_loadQ rfl hvp wn (hI.upd.keep Bxr2y5_s5_0).out Tryd.underlying23 rfl sizeKey (by rw [numsA_size, (set_length (keyOf_length _) _ _)]; omega)) (.val (.agg (numsA .u8 ((keyOf (y1 * (finv z1))).set 31 (((keyOf (y1 * (finv z1))).getD 31 0) + 128))))) rfl (congrArg Value.agg (extract_all _ 32 (by rw [numsA_size]; exact (set_length (keyOf_length _) _ _)))) rfl hK'
    intro an w7 hI
    obtain ⟨vr6_0, hvr6_0, rfl⟩ := hI.hq 0 _ 27 _ rfl rfl rfl rfl
    have hupd := hI.upd
    have ha := hI.act [(27, .agg (numsA .u8 ((keyOf (y1 * (finv z1))).set 31 (((keyOf (y1 * (finv z1))).getD 31 0) + 128))))] (by simp [hvr6_0]) (by kernel_rfl)
    clear hI hvr6_0
    subst ha
    simp only [List.foldl_cons, List.foldl_nil, List.setIfInBounds_toArray, List.set_cons_zero, List.set_cons_succ]
    have Bxr0y0_6 := hupd.keep Bxr0y0_s5_0
    have Bxr0y1_6 := hupd.keep Bxr0y1_s5_0
    have Bxr1y3_6 := hupd.keep Bxr1y3_s5_0
    have Bxr2y5_6 := hupd.keep Bxr2y5_s5_0
    have Bxr3y5_6 := hupd.keep Bxr3y5_s5_0
    have HU6 := hh (HU5_0.out.trans hupd)
    clear hupd
    refine wpOps_storeQ 1 rfl rfl rfl 23 (.tmp 2) (.tmp 27) rfl br0_1 0 32 rfl (numsA .u8 ((keyOf (y1 * (finv z1))).set 31 (((keyOf (y1 * (finv z1))).getD 31 0) + 128))) rfl 23 (numsA .u8 zeroKL) Bxr0y1_6.out sizeKey (by rw [numsA_size]; exact (set_length (keyOf_length _) _ _)) (by rw [(show (numsA _ _).size = 32 by rw [numsA_size]; exact zeroKL_length)]; exact Nat.le_of_ble_eq_true rfl) (numsA_one _ _) ?_
    intro ws6_0 hs6_0 hus6_0
    rw [splice_all _ _ 32 (show (numsA _ _).size = 32 by rw [numsA_size]; exact zeroKL_length) (by rw [numsA_size]; exact (set_length (keyOf_length _) _ _))] at hs6_0
    have Bxr0y0_s6_0 := hus6_0.keepS Bxr0y0_6 (fun e => hner0_0_r0_1.out e)
    have Bxr1y3_s6_0 := hus6_0.keepS Bxr1y3_6 (fun e => hner1_3_Bxr0y1.out e)
    have Bxr2y5_s6_0 := hus6_0.keepS Bxr2y5_6 (fun e => hner2_5_Bxr0y1_s1_0.out e)
    have Bxr3y5_s6_0 := hus6_0.keepS Bxr3y5_6 (fun e => hner3_5_Bxr0y1_s2_0.out e)
    have Bxr0y1_s6_0 := hh hs6_0
    have HU6_0 := hh (HU6.out.step hus6_0 (fun i hi h => absurd hi (Nat.not_lt.2 (h.symm ▸ hger0_1.out))))
    clear hs6_0 hus6_0
    refine wpOps_nil ?_
    refine hK7 _ _ ?_
    clear hK7
    refine wp_ret ?_
    try dsimp only [Exit.then]
    try dsimp only [Exit.inBlock]
    exact bodyPost_ret (v := .agg (numsA .u8 ((keyOf (y1 * (finv z1))).set 31 (((keyOf (y1 * (finv z1))).getD 31 0) + 128)))) (results_cell_row (fn := Tryd.f27) (p := 2) (ty := 23) rfl _ _ br0_1 23 _ (0, 0) _ rfl Bxr0y1_s6_0.out Tryd.underlying23 rfl (by rw [numsA_size, (set_length (keyOf_length _) _ _)]; exact sizeKey)) rfl ⟨by rw [encL_tr (of_decide_eq_true Hcd6.out)], HU6_0.out⟩
  have Hcd8 := hh hcd
  clear hcd
  refine wp_skip ?_
  refine hK4 _ _ ?_
  clear hK4
  refine wp_seq_k fun K9 hK9 => ?_
  refine wp_region_qSD 1 #[true, false] [1] ([.val (.agg (numsA .u8 (keyOf (y1 * (finv z1))))), .val undef] : List SQ) (by kernel_rfl) (by kernel_rfl) (by kernel_rfl) (by kernel_rfl) ?_ ?_
  · intro i o listed an wn ho hls hst hun hdep hI hD hpre K' hK'
    rcases slot_cases (l := [0]) rfl ho hst with rfl | ⟨⟨⟩⟩
    · obtain rfl := Option.some.inj ho
      have hvp : an.eval (.tmp 4) = ptrTo br2_5 := hI.oq (by kernel_rfl) rfl
      exact hI.pq hD hls rfl rfl rfl _ (run_loadQ rfl hvp wn (hI.upd.keep Bxr2y5_4).out Tryd.underlying23 rfl sizeKey (by rw [numsA_size, keyOf_length _]; omega)) (.val (.agg (numsA .u8 (keyOf (y1 * (finv z1)))))) rfl (congrArg Value.agg (extract_all _ 32 (by rw [numsA_size]; exact keyOf_length _))) rfl hK'
  intro an w8 hI
  obtain ⟨vr7_0, hvr7_0, rfl⟩ := hI.hq 0 _ 27 _ rfl rfl rfl rfl
  have hupd := hI.upd
  have ha := hI.act [(27, .agg (numsA .u8 (keyOf (y1 * (finv z1)))))] (by simp [hvr7_0]) (by kernel_rfl)
  clear hI hvr7_0
  subst ha
  simp only [List.foldl_cons, List.foldl_nil, List.setIfInBounds_toArray, List.set_cons_zero, List.set_cons_succ]
  have Bxr0y0_7 := hupd.keep Bxr0y0_4
  have Bxr0y1_7 := hupd.keep Bxr0y1_4
  have Bxr1y3_7 := hupd.keep Bxr1y3_4
  have Bxr2y5_7 := hupd.keep Bxr2y5_4
  have Bxr3y5_7 := hupd.keep Bxr3y5_4
  have HU7 := hh (HU4.out.trans hupd)
  clear hupd
  refine wpOps_storeQ 1 rfl rfl rfl 23 (.tmp 2) (.tmp 27) rfl br0_1 0 32 rfl (numsA .u8 (keyOf (y1 * (finv z1)))) rfl 23 (numsA .u8 zeroKL) Bxr0y1_7.out sizeKey (by rw [numsA_size]; exact keyOf_length _) (by rw [(show (numsA _ _).size = 32 by rw [numsA_size]; exact zeroKL_length)]; exact Nat.le_of_ble_eq_true rfl) (numsA_one _ _) ?_
  intro ws7_0 hs7_0 hus7_0
  rw [splice_all _ _ 32 (show (numsA _ _).size = 32 by rw [numsA_size]; exact zeroKL_length) (by rw [numsA_size]; exact keyOf_length _)] at hs7_0
  have Bxr0y0_s7_0 := hus7_0.keepS Bxr0y0_7 (fun e => hner0_0_r0_1.out e)
  have Bxr1y3_s7_0 := hus7_0.keepS Bxr1y3_7 (fun e => hner1_3_Bxr0y1.out e)
  have Bxr2y5_s7_0 := hus7_0.keepS Bxr2y5_7 (fun e => hner2_5_Bxr0y1_s1_0.out e)
  have Bxr3y5_s7_0 := hus7_0.keepS Bxr3y5_7 (fun e => hner3_5_Bxr0y1_s2_0.out e)
  have Bxr0y1_s7_0 := hh hs7_0
  have HU7_0 := hh (HU7.out.step hus7_0 (fun i hi h => absurd hi (Nat.not_lt.2 (h.symm ▸ hger0_1.out))))
  clear hs7_0 hus7_0
  refine wpOps_nil ?_
  refine hK9 _ _ ?_
  clear hK9
  refine wp_ret ?_
  try dsimp only [Exit.then]
  try dsimp only [Exit.inBlock]
  exact bodyPost_ret (v := .agg (numsA .u8 (keyOf (y1 * (finv z1))))) (results_cell_row (fn := Tryd.f27) (p := 2) (ty := 23) rfl _ _ br0_1 23 _ (0, 0) _ rfl Bxr0y1_s7_0.out Tryd.underlying23 rfl (by rw [numsA_size, keyOf_length _]; exact sizeKey)) rfl ⟨by rw [encL_fr (of_decide_eq_false Hcd8.out)], HU7_0.out⟩
set_option maxHeartbeats 4000000 in
theorem minusOneP (w : World) :
    Calls Tryd.prog 95 #[] w (RetC 16 RN [fpw (fv 2) e4I.toNat] w) := by
  have HU := hh (Upd.refl (fun _ => False) w)
  have hlow := pp_low
  go_enter Tryd.func95, Tryd.ntmps95
  refine wp_seq_k fun K0 hK0 => ?_
  refine wp_region_qSD 1 #[true] [] ([.blk ptrTo 45 (Ch 16 RN [0])] : List SQ) (by kernel_rfl) (by kernel_rfl) (by kernel_rfl) (by kernel_rfl) ?_ ?_
  · intro i o listed an wn ho hls hst hun hdep hI hD hpre K' hK'
    rcases slot_cases (l := [0]) rfl ho hst with rfl | ⟨⟨⟩⟩
    · obtain rfl := Option.some.inj ho
      exact hI.newQ hD hls (Nat.le_refl _) (newsQ_spec (l := [0]) (by kernel_rfl) ⟨⟨_, _, rfl⟩, trivial⟩) rfl rfl rfl 45 zeroN _ (run_allocQ rfl zN_run wn) rfl zN_ch hK'
  intro an w1 hI
  obtain ⟨vr0_0, hvr0_0, br0_0, zr0_0, rfl, hnr0_0, hbr0_0, hzr0_0⟩ := hI.hq 0 _ 0 _ rfl rfl rfl rfl
  have hupd := hI.upd
  have ha := hI.act [(0, ptrTo br0_0)] (by simp [hvr0_0]) (by kernel_rfl)
  clear hI hvr0_0
  subst ha
  simp only [List.foldl_cons, List.foldl_nil, List.setIfInBounds_toArray, List.set_cons_zero]
  have hger0_0 := geB HU hnr0_0
  have Bxr0y0 := hh hbr0_0
  have HU0 := hh (HU.out.trans hupd)
  clear hupd
  refine wpOps_nil ?_
  refine hK0 _ _ ?_
  clear hK0
  refine wp_seq_k fun K1 hK1 => ?_
  refine wp_region_qSD 2 #[true, true, false] [2] ([.val (.agg (numsA .u64 (digits 65536 16 pp))), .blk ptrTo 45 (Ch 16 RN [0]), .val undef] : List SQ) (by kernel_rfl) (by kernel_rfl) (by kernel_rfl) (by kernel_rfl) ?_ ?_
  · intro i o listed an wn ho hls hst hun hdep hI hD hpre K' hK'
    rcases slot_cases (l := [0, 1]) rfl ho hst with rfl | rfl | ⟨⟨⟩⟩
    · obtain rfl := Option.some.inj ho
      exact hI.cq hD hls rfl rfl rfl 92 #[] _ rfl #[] (by simp) (run_enter Tryd.func92 (by kernel_rfl) (by kernel_rfl)) (.val (.agg (numsA .u64 (digits 65536 16 pp)))) rfl rfl ((rprimeE _).mono fun _ _ h => ret_val h) hK'
    · obtain rfl := Option.some.inj ho
      exact hI.newQ hD hls (Nat.le_refl _) (newsQ_spec (l := [1]) (by kernel_rfl) ⟨⟨_, _, rfl⟩, trivial⟩) rfl rfl rfl 45 zeroN _ (run_allocQ rfl zN_run wn) rfl zN_ch hK'
  intro an w2 hI
  obtain ⟨vr1_0, hvr1_0, rfl⟩ := hI.hq 0 _ 6 _ rfl rfl rfl rfl
  obtain ⟨vr1_1, hvr1_1, br1_1, zr1_1, rfl, hnr1_1, hbr1_1, hzr1_1⟩ := hI.hq 1 _ 1 _ rfl rfl rfl rfl
  have hupd := hI.upd
  have ha := hI.act [(6, .agg (numsA .u64 (digits 65536 16 pp))), (1, ptrTo br1_1)] (by simp [hvr1_0, hvr1_1]) (by kernel_rfl)
  clear hI hvr1_0 hvr1_1
  subst ha
  simp only [List.foldl_cons, List.foldl_nil, List.setIfInBounds_toArray, List.set_cons_zero, List.set_cons_succ]
  have hner1_1_Bxr0y0 := apartB Bxr0y0 hnr1_1
  have hger1_1 := geB HU0 hnr1_1
  have Bxr0y0_1 := hupd.keep Bxr0y0
  have Bxr1y1 := hh hbr1_1
  have HU1 := hh (HU0.out.trans hupd)
  clear hupd
  refine wpOps_storeQ 2 rfl rfl rfl 45 (.tmp 1) (.tmp 6) rfl br1_1 0 16 rfl (numsA .u64 (digits 65536 16 pp)) rfl 45 zr1_1 Bxr1y1.out szN (by rw [numsA_size]; exact (digits_length _ _ _)) (by rw [hzr1_1.size]; exact Nat.le_of_ble_eq_true rfl) (numsA_one _ _) ?_
  intro ws1_0 hs1_0 hus1_0
  rw [splice_all _ _ 16 hzr1_1.size (by rw [numsA_size]; exact (digits_length _ _ _))] at hs1_0
  have Bxr0y0_s1_0 := hus1_0.keepS Bxr0y0_1 (fun e => hner1_1_Bxr0y0.out e.symm)
  have Bxr1y1_s1_0 := hh hs1_0
  have HU1_0 := hh (HU1.out.step hus1_0 (fun i hi h => absurd hi (Nat.not_lt.2 (h.symm ▸ hger1_1.out))))
  clear hs1_0 hus1_0
  refine wpOps_nil ?_
  refine hK1 _ _ ?_
  clear hK1
  refine wp_seq_k fun K2 hK2 => ?_
  have hq2_2 : IntKind.wrap .u64 (((digits 65536 16 pp).getD 0 0) - 1) = ((digits 65536 16 pp).getD 0 0) - 1 := IntWalk.u64_in _ (by omega)
  refine wp_region_qSD 4 #[true, true, true, true, false] [4] ([.val (.pointer (some ⟨br1_1, 0 + 0, none⟩)), .val (.int .u64 ((digits 65536 16 pp).getD 0 0)), .val (.int .u64 (((digits 65536 16 pp).getD 0 0) - 1)), .val (.pointer (some ⟨br1_1, 0 + 0, none⟩)), .val undef] : List SQ) (by kernel_rfl) (by kernel_rfl) (by kernel_rfl) (by kernel_rfl) ?_ ?_
  · intro i o listed an wn ho hls hst hun hdep hI hD hpre K' hK'
    rcases slot_cases (l := [0, 1, 2, 3]) rfl ho hst with rfl | rfl | rfl | rfl | ⟨⟨⟩⟩
    · obtain rfl := Option.some.inj ho
      have hvp : an.eval (.tmp 1) = ptrTo br1_1 := hI.oq (by kernel_rfl) rfl
      exact hI.pq hD hls rfl rfl rfl _ (run_adr (off := 0) (i := 0) rfl Tryd.underlying45 (by kernel_rfl) hvp rfl (by omega) wn) (.val (.pointer (some ⟨br1_1, 0 + 0, none⟩))) rfl rfl rfl hK'
    · obtain rfl := Option.some.inj ho
      obtain ⟨vp, hvp, rfl⟩ := hI.hq 0 _ 7 _ rfl rfl rfl (dp hdep 0 rfl rfl)
      exact hI.pq hD hls rfl rfl rfl _ (run_cellQ rfl Tryd.underlying36 (eval_of hvp) wn (hI.upd.keep Bxr1y1_s1_0).out (by rw [Nat.zero_add]; exact numsA_get _ _ _ (by rw [(digits_length _ _ _)]; omega))) (.val (.int .u64 ((digits 65536 16 pp).getD 0 0))) rfl rfl rfl hK'
    · obtain rfl := Option.some.inj ho
      obtain ⟨vp, hvp, rfl⟩ := hI.hq 1 _ 8 _ rfl rfl rfl (dp hdep 0 rfl rfl)
      exact hI.pq hD hls rfl rfl rfl _ (run_sub rfl (eval_of hvp) rfl hq2_2 wn) (.val (.int .u64 (((digits 65536 16 pp).getD 0 0) - 1))) rfl rfl rfl hK'
    · obtain rfl := Option.some.inj ho
      have hvp : an.eval (.tmp 1) = ptrTo br1_1 := hI.oq (by kernel_rfl) rfl
      exact hI.pq hD hls rfl rfl rfl _ (run_adr (off := 0) (i := 0) rfl Tryd.underlying45 (by kernel_rfl) hvp rfl (by omega) wn) (.val (.pointer (some ⟨br1_1, 0 + 0, none⟩))) rfl rfl rfl hK'
  intro an w3 hI
  obtain ⟨vr2_0, hvr2_0, rfl⟩ := hI.hq 0 _ 7 _ rfl rfl rfl rfl
  obtain ⟨vr2_1, hvr2_1, rfl⟩ := hI.hq 1 _ 8 _ rfl rfl rfl rfl
  obtain ⟨vr2_2, hvr2_2, rfl⟩ := hI.hq 2 _ 9 _ rfl rfl rfl rfl
  obtain ⟨vr2_3, hvr2_3, rfl⟩ := hI.hq 3 _ 10 _ rfl rfl rfl rfl
  have hupd := hI.upd
  have ha := hI.act [(7, .pointer (some ⟨br1_1, 0 + 0, none⟩)), (8, .int .u64 ((digits 65536 16 pp).getD 0 0)), (9, .int .u64 (((digits 65536 16 pp).getD 0 0) - 1)), (10, .pointer (some ⟨br1_1, 0 + 0, none⟩))] (by simp [hvr2_0, hvr2_1, hvr2_2, hvr2_3]) (by kernel_rfl)
  clear hI hvr2_0 hvr2_1 hvr2_2 hvr2_3
  subst ha
  simp only [List.foldl_cons, List.foldl_nil, List.setIfInBounds_toArray, List.set_cons_zero, List.set_cons_succ]
  have Bxr0y0_2 := hupd.keep Bxr0y0_s1_0
  have Bxr1y1_2 := hupd.keep Bxr1y1_s1_0
  have HU2 := hh (HU1_0.out.trans hupd)
  clear hupd
  refine wpOps_storeK 4 rfl rfl rfl 36 (.tmp 10) (.tmp 9) rfl (by kernel_rfl) br1_1 (0 + 0) rfl .u64 (((digits 65536 16 pp).getD 0 0) - 1) rfl 45 (digits 65536 16 pp) Bxr1y1_2.out (by rw [(digits_length _ _ _)]; omega) ?_
  rw [Nat.zero_add]
  intro ws2_0 hs2_0 hus2_0
  rw [pm1L_eq] at hs2_0
  have Bxr0y0_s2_0 := hus2_0.keepS Bxr0y0_2 (fun e => hner1_1_Bxr0y0.out e.symm)
  have Bxr1y1_s2_0 := hh hs2_0
  have HU2_0 := hh (HU2.out.step hus2_0 (fun i hi h => absurd hi (Nat.not_lt.2 (h.symm ▸ hger1_1.out))))
  clear hs2_0 hus2_0
  refine wpOps_nil ?_
  refine hK2 _ _ ?_
  clear hK2
  refine wp_seq_k fun K3 hK3 => ?_
  refine wp_seq_k fun K4 hK4 => ?_
  refine wp_region_qSD 1 #[true] [] ([.val (.int .i64 0)] : List SQ) (by kernel_rfl) (by kernel_rfl) (by kernel_rfl) (by kernel_rfl) ?_ ?_
  · intro i o listed an wn ho hls hst hun hdep hI hD hpre K' hK'
    rcases slot_cases (l := [0]) rfl ho hst with rfl | ⟨⟨⟩⟩
    · obtain rfl := Option.some.inj ho
      exact hI.pq hD hls rfl rfl rfl _ (run_moveQ (.inr rfl) (show an.eval (.const (.int .i64 0)) = .int .i64 0 from rfl) wn) (.val (.int .i64 0)) rfl rfl rfl hK'
  intro an w4 hI
  obtain ⟨vr3_0, hvr3_0, rfl⟩ := hI.hq 0 _ 2 _ rfl rfl rfl rfl
  have hupd := hI.upd
  have ha := hI.act [(2, .int .i64 0)] (by simp [hvr3_0]) (by kernel_rfl)
  clear hI hvr3_0
  subst ha
  simp only [List.foldl_cons, List.foldl_nil, List.setIfInBounds_toArray, List.set_cons_zero, List.set_cons_succ]
  have Bxr0y0_3 := hupd.keep Bxr0y0_s2_0
  have Bxr1y1_3 := hupd.keep Bxr1y1_s2_0
  have HU3 := hh (HU2_0.out.trans hupd)
  clear hupd
  refine wpOps_nil ?_
  refine hK4 _ _ ?_
  clear hK4
  refine wp_block ?_
  refine wp_loop (fun a' w' => ∃ (k : Nat) (u5_3 u5_4 u5_5 u5_11 u5_12 u5_13 u5_14 u5_15 u5_16 u5_17 u5_18 u5_19 u5_20 u5_21 u5_22 u5_23 u5_24 u5_25 u5_26 u5_27 u5_28 u5_29 u5_30 : Value), k ≤ 2 ∧ a' = ⟨#[ptrTo br0_0, ptrTo br1_1, .int .i64 (k : Int), u5_3, u5_4, u5_5, .agg (numsA .u64 (digits 65536 16 pp)), .pointer (some ⟨br1_1, 0 + 0, none⟩), .int .u64 ((digits 65536 16 pp).getD 0 0), .int .u64 (((digits 65536 16 pp).getD 0 0) - 1), .pointer (some ⟨br1_1, 0 + 0, none⟩), u5_11, u5_12, u5_13, u5_14, u5_15, u5_16, u5_17, u5_18, u5_19, u5_20, u5_21, u5_22, u5_23, u5_24, u5_25, u5_26, u5_27, u5_28, u5_29, u5_30, undef, undef, undef], []⟩ ∧ Upd (fun _ => False) w w' ∧ Blk w' br1_1 45 (numsA .u64 (hit pm1L k)) ∧ Blk w' br0_0 45 zr0_0) (fun a' _ => (2) - (intOf (a'.tmps.getD 2 undef)).toNat) ?_ ?_
  · exact ⟨0, undef, undef, undef, undef, undef, undef, undef, undef, undef, undef, undef, undef, undef, undef, undef, undef, undef, undef, undef, undef, undef, undef, undef, Nat.zero_le _, rfl, HU3.out, Bxr1y1_3.out, Bxr0y0_3.out⟩
  rintro a' wl5 ⟨k, u5_3, u5_4, u5_5, u5_11, u5_12, u5_13, u5_14, u5_15, u5_16, u5_17, u5_18, u5_19, u5_20, u5_21, u5_22, u5_23, u5_24, u5_25, u5_26, u5_27, u5_28, u5_29, u5_30, hk5, rfl, hul, hll1, hol0⟩
  have HUl5 := hh hul
  have Bxr1y1_l5 := hh hll1
  have Bxr0y0_l5 := hh hol0
  clear hul hll1 hol0
  by_cases hlt : k < 2
  · have Hlt5 := hh hlt
    refine wp_seq_k fun K6 hK6 => ?_
    refine wp_seq_k fun K7 hK7 => ?_
    have hq4_1 : decide ((((k : Int) : Int) < 2 : Prop)) = true := decide_eq_true (by omega)
    refine wp_region_qSD 2 #[true, true] [] ([.val (.int .i64 (k : Int)), .val (.bool true)] : List SQ) (by kernel_rfl) (by kernel_rfl) (by kernel_rfl) (by kernel_rfl) ?_ ?_
    · intro i o listed an wn ho hls hst hun hdep hI hD hpre K' hK'
      rcases slot_cases (l := [0, 1]) rfl ho hst with rfl | rfl | ⟨⟨⟩⟩
      · obtain rfl := Option.some.inj ho
        have hvp : an.eval (.tmp 2) = .int .i64 (k : Int) := hI.oq (by kernel_rfl) rfl
        exact hI.pq hD hls rfl rfl rfl _ (run_moveQ (.inl rfl) hvp wn) (.val (.int .i64 (k : Int))) rfl rfl rfl hK'
      · obtain rfl := Option.some.inj ho
        obtain ⟨vp, hvp, rfl⟩ := hI.hq 0 _ 11 _ rfl rfl rfl (dp hdep 0 rfl rfl)
        exact hI.pq hD hls rfl rfl rfl _ (run_lss rfl (eval_of hvp) rfl hq4_1 wn) (.val (.bool true)) rfl rfl rfl hK'
    intro an w5 hI
    obtain ⟨vr4_0, hvr4_0, rfl⟩ := hI.hq 0 _ 11 _ rfl rfl rfl rfl
    obtain ⟨vr4_1, hvr4_1, rfl⟩ := hI.hq 1 _ 12 _ rfl rfl rfl rfl
    have hupd := hI.upd
    have ha := hI.act [(11, .int .i64 (k : Int)), (12, .bool true)] (by simp [hvr4_0, hvr4_1]) (by kernel_rfl)
    clear hI hvr4_0 hvr4_1
    subst ha
    simp only [List.foldl_cons, List.foldl_nil, List.setIfInBounds_toArray, List.set_cons_zero, List.set_cons_succ]
    have Bxr0y0_4 := hupd.keep Bxr0y0_l5
    have Bxr1y1_4 := hupd.keep Bxr1y1_l5
    have HU4 := hh (HUl5.out.trans hupd)
    clear hupd
    refine wpOps_nil ?_
    refine hK7 _ _ ?_
    clear hK7
    refine wp_cond_true rfl ?_
    refine wp_skip ?_
    refine hK6 _ _ ?_
    clear hK6
    refine wp_seq_k fun K8 hK8 => ?_
    refine wp_block ?_
    refine wp_seq_k fun K9 hK9 => ?_
    refine wp_region_qSD 1 #[true] [] ([.val (.int .u64 0)] : List SQ) (by kernel_rfl) (by kernel_rfl) (by kernel_rfl) (by kernel_rfl) ?_ ?_
    · intro i o listed an wn ho hls hst hun hdep hI hD hpre K' hK'
      rcases slot_cases (l := [0]) rfl ho hst with rfl | ⟨⟨⟩⟩
      · obtain rfl := Option.some.inj ho
        exact hI.pq hD hls rfl rfl rfl _ (run_moveQ (.inr rfl) (show an.eval (.const (.int .u64 0)) = .int .u64 0 from rfl) wn) (.val (.int .u64 0)) rfl rfl rfl hK'
    intro an w6 hI
    obtain ⟨vr5_0, hvr5_0, rfl⟩ := hI.hq 0 _ 3 _ rfl rfl rfl rfl
    have hupd := hI.upd
    have ha := hI.act [(3, .int .u64 0)] (by simp [hvr5_0]) (by kernel_rfl)
    clear hI hvr5_0
    subst ha
    simp only [List.foldl_cons, List.foldl_nil, List.setIfInBounds_toArray, List.set_cons_zero, List.set_cons_succ]
    have Bxr0y0_5 := hupd.keep Bxr0y0_4
    have Bxr1y1_5 := hupd.keep Bxr1y1_4
    have HU5 := hh (HU4.out.trans hupd)
    clear hupd
    refine wpOps_nil ?_
    refine hK9 _ _ ?_
    clear hK9
    refine wp_seq_k fun K10 hK10 => ?_
    refine wp_region_qSD 1 #[true] [] ([.val (.int .i64 15)] : List SQ) (by kernel_rfl) (by kernel_rfl) (by kernel_rfl) (by kernel_rfl) ?_ ?_
    · intro i o listed an wn ho hls hst hun hdep hI hD hpre K' hK'
      rcases slot_cases (l := [0]) rfl ho hst with rfl | ⟨⟨⟩⟩
      · obtain rfl := Option.some.inj ho
        exact hI.pq hD hls rfl rfl rfl _ (run_moveQ (.inr rfl) (show an.eval (.const (.int .i64 15)) = .int .i64 15 from rfl) wn) (.val (.int .i64 15)) rfl rfl rfl hK'
    intro an w7 hI
    obtain ⟨vr6_0, hvr6_0, rfl⟩ := hI.hq 0 _ 4 _ rfl rfl rfl rfl
    have hupd := hI.upd
    have ha := hI.act [(4, .int .i64 15)] (by simp [hvr6_0]) (by kernel_rfl)
    clear hI hvr6_0
    subst ha
    simp only [List.foldl_cons, List.foldl_nil, List.setIfInBounds_toArray, List.set_cons_zero, List.set_cons_succ]
    have Bxr0y0_6 := hupd.keep Bxr0y0_5
    have Bxr1y1_6 := hupd.keep Bxr1y1_5
    have HU6 := hh (HU5.out.trans hupd)
    clear hupd
    refine wpOps_nil ?_
    refine hK10 _ _ ?_
    clear hK10
    refine wp_block ?_
    refine wp_loop (fun a' w' => ∃ (i : Nat) (u11_5 u11_15 u11_16 u11_17 u11_18 u11_19 u11_20 u11_21 u11_22 u11_23 u11_24 u11_25 u11_26 u11_27 u11_28 u11_29 u11_30 : Value), i ≤ 16 ∧ a' = ⟨#[ptrTo br0_0, ptrTo br1_1, .int .i64 (k : Int), .int .u64 (hsF (hit pm1L k) i).2, .int .i64 ((i : Int) - 1), u11_5, .agg (numsA .u64 (digits 65536 16 pp)), .pointer (some ⟨br1_1, 0 + 0, none⟩), .int .u64 ((digits 65536 16 pp).getD 0 0), .int .u64 (((digits 65536 16 pp).getD 0 0) - 1), .pointer (some ⟨br1_1, 0 + 0, none⟩), .int .i64 (k : Int), .bool true, u5_13, u5_14, u11_15, u11_16, u11_17, u11_18, u11_19, u11_20, u11_21, u11_22, u11_23, u11_24, u11_25, u11_26, u11_27, u11_28, u11_29, u11_30, undef, undef, undef], []⟩ ∧ Upd (fun _ => False) w w' ∧ Blk w' br1_1 45 (numsA .u64 ((hsF (hit pm1L k) i).1)) ∧ Blk w' br0_0 45 zr0_0) (fun a' _ => (intOf (a'.tmps.getD 4 undef) + 1).toNat) ?_ ?_
    · exact ⟨16, u5_5, u5_15, u5_16, u5_17, u5_18, u5_19, u5_20, u5_21, u5_22, u5_23, u5_24, u5_25, u5_26, u5_27, u5_28, u5_29, u5_30, Nat.le_refl _, rfl, HU6.out, Bxr1y1_6.out, Bxr0y0_6.out⟩
    rintro a' wl11 ⟨i, u11_5, u11_15, u11_16, u11_17, u11_18, u11_19, u11_20, u11_21, u11_22, u11_23, u11_24, u11_25, u11_26, u11_27, u11_28, u11_29, u11_30, hk11, rfl, hul, hll1, hol0⟩
    have HUl11 := hh hul
    have Bxr1y1_l11 := hh hll1
    have Bxr0y0_l11 := hh hol0
    clear hul hll1 hol0
    by_cases hlt : 0 < i
    · obtain ⟨c, rfl⟩ : ∃ c, i = c + 1 := ⟨i - 1, by omega⟩
      rw [show ((c + 1 : Nat) : Int) - 1 = (c : Int) by omega]
      have Hlt11 : Hid (c < 16) := hh (by omega)
      clear hlt
      have hb1 := hsF_ok (hit_ok pm1L_length pm1L_digs k).1 (hit_ok pm1L_length pm1L_digs k).2 (c + 1)
      have hb2 := hb1.2.1.get (B := 65536) (by omega) c
      have hb3 := hb1.2.2
      clear hb1
      refine wp_seq_k fun K12 hK12 => ?_
      refine wp_seq_k fun K13 hK13 => ?_
      have hq7_1 : decide (((0 : Int) ≤ (c : Int) : Prop)) = true := decide_eq_true (by omega)
      refine wp_region_qSD 2 #[true, true] [] ([.val (.int .i64 (c : Int)), .val (.bool true)] : List SQ) (by kernel_rfl) (by kernel_rfl) (by kernel_rfl) (by kernel_rfl) ?_ ?_
      · intro i o listed an wn ho hls hst hun hdep hI hD hpre K' hK'
        rcases slot_cases (l := [0, 1]) rfl ho hst with rfl | rfl | ⟨⟨⟩⟩
        · obtain rfl := Option.some.inj ho
          have hvp : an.eval (.tmp 4) = .int .i64 (c : Int) := hI.oq (by kernel_rfl) rfl
          exact hI.pq hD hls rfl rfl rfl _ (run_moveQ (.inl rfl) hvp wn) (.val (.int .i64 (c : Int))) rfl rfl rfl hK'
        · obtain rfl := Option.some.inj ho
          obtain ⟨vp, hvp, rfl⟩ := hI.hq 0 _ 15 _ rfl rfl rfl (dp hdep 0 rfl rfl)
          exact hI.pq hD hls rfl rfl rfl _ (run_geq rfl (eval_of hvp) rfl hq7_1 wn) (.val (.bool true)) rfl rfl rfl hK'
      intro an w8 hI
      obtain ⟨vr7_0, hvr7_0, rfl⟩ := hI.hq 0 _ 15 _ rfl rfl rfl rfl
      obtain ⟨vr7_1, hvr7_1, rfl⟩ := hI.hq 1 _ 16 _ rfl rfl rfl rfl
      have hupd := hI.upd
      have ha := hI.act [(15, .int .i64 (c : Int)), (16, .bool true)] (by simp [hvr7_0, hvr7_1]) (by kernel_rfl)
      clear hI hvr7_0 hvr7_1
      subst ha
      simp only [List.foldl_cons, List.foldl_nil, List.setIfInBounds_toArray, List.set_cons_zero, List.set_cons_succ]
      have Bxr0y0_7 := hupd.keep Bxr0y0_l11
      have Bxr1y1_7 := hupd.keep Bxr1y1_l11
      have HU7 := hh (HUl11.out.trans hupd)
      clear hupd
      refine wpOps_nil ?_
      refine hK13 _ _ ?_
      clear hK13
      refine wp_cond_true rfl ?_
      refine wp_skip ?_
      refine hK12 _ _ ?_
      clear hK12
      refine wp_seq_k fun K14 hK14 => ?_
      refine wp_block ?_
      refine wp_seq_k fun K15 hK15 => ?_
      have hq8_4 : IntKind.wrap .u64 ((hsF (hit pm1L k) (c + 1)).2 * 65536) = ((hsF (hit pm1L k) (c + 1)).2 * 65536) := IntWalk.u64_in _ (by omega)
      have hq8_5 : IntKind.wrap .u64 ((((hsF (hit pm1L k) (c + 1)).1).getD c 0) + ((hsF (hit pm1L k) (c + 1)).2 * 65536)) = (((hsF (hit pm1L k) (c + 1)).1).getD c 0) + ((hsF (hit pm1L k) (c + 1)).2 * 65536) := IntWalk.u64_in _ (by omega)
      refine wp_region_qSD 7 #[true, true, true, true, true, true, true] [] ([.val (.int .i64 (c : Int)), .val (.pointer (some ⟨br1_1, 0 + c, none⟩)), .val (.int .u64 (((hsF (hit pm1L k) (c + 1)).1).getD c 0)), .val (.int .u64 (hsF (hit pm1L k) (c + 1)).2), .val (.int .u64 ((hsF (hit pm1L k) (c + 1)).2 * 65536)), .val (.int .u64 ((((hsF (hit pm1L k) (c + 1)).1).getD c 0) + ((hsF (hit pm1L k) (c + 1)).2 * 65536))), .val (.int .u64 ((((hsF (hit pm1L k) (c + 1)).1).getD c 0) + ((hsF (hit pm1L k) (c + 1)).2 * 65536)))] : List SQ) (by kernel_rfl) (by kernel_rfl) (by kernel_rfl) (by kernel_rfl) ?_ ?_
      · intro i o listed an wn ho hls hst hun hdep hI hD hpre K' hK'
        rcases slot_cases (l := [0, 1, 2, 3, 4, 5, 6]) rfl ho hst with rfl | rfl | rfl | rfl | rfl | rfl | rfl | ⟨⟨⟩⟩
        · obtain rfl := Option.some.inj ho
          have hvp : an.eval (.tmp 4) = .int .i64 (c : Int) := hI.oq (by kernel_rfl) rfl
          exact hI.pq hD hls rfl rfl rfl _ (run_moveQ (.inl rfl) hvp wn) (.val (.int .i64 (c : Int))) rfl rfl rfl hK'
        · obtain rfl := Option.some.inj ho
          have hvp : an.eval (.tmp 1) = ptrTo br1_1 := hI.oq (by kernel_rfl) rfl
          obtain ⟨vq, hvq, rfl⟩ := hI.hq 0 _ 19 _ rfl rfl rfl (dp hdep 0 rfl rfl)
          exact hI.pq hD hls rfl rfl rfl _ (run_adr (off := 0) (i := c) rfl Tryd.underlying45 (by kernel_rfl) hvp (eval_of hvq) (by omega) wn) (.val (.pointer (some ⟨br1_1, 0 + c, none⟩))) rfl rfl rfl hK'
        · obtain rfl := Option.some.inj ho
          obtain ⟨vp, hvp, rfl⟩ := hI.hq 1 _ 20 _ rfl rfl rfl (dp hdep 0 rfl rfl)
          exact hI.pq hD hls rfl rfl rfl _ (run_cellQ rfl Tryd.underlying36 (eval_of hvp) wn (hI.upd.keep Bxr1y1_7).out (by rw [Nat.zero_add]; exact numsA_get _ _ _ (by rw [(hsF_ok (hit_ok pm1L_length pm1L_digs k).1 (hit_ok pm1L_length pm1L_digs k).2 _).1]; omega))) (.val (.int .u64 (((hsF (hit pm1L k) (c + 1)).1).getD c 0))) rfl rfl rfl hK'
        · obtain rfl := Option.some.inj ho
          have hvp : an.eval (.tmp 3) = .int .u64 (hsF (hit pm1L k) (c + 1)).2 := hI.oq (by kernel_rfl) rfl
          exact hI.pq hD hls rfl rfl rfl _ (run_moveQ (.inl rfl) hvp wn) (.val (.int .u64 (hsF (hit pm1L k) (c + 1)).2)) rfl rfl rfl hK'
        · obtain rfl := Option.some.inj ho
          obtain ⟨vp, hvp, rfl⟩ := hI.hq 3 _ 22 _ rfl rfl rfl (dp hdep 0 rfl rfl)
          exact hI.pq hD hls rfl rfl rfl _ (run_mul rfl (eval_of hvp) rfl hq8_4 wn) (.val (.int .u64 ((hsF (hit pm1L k) (c + 1)).2 * 65536))) rfl rfl rfl hK'
        · obtain rfl := Option.some.inj ho
          obtain ⟨vp, hvp, rfl⟩ := hI.hq 2 _ 21 _ rfl rfl rfl (dp hdep 0 rfl rfl)
          obtain ⟨vq, hvq, rfl⟩ := hI.hq 4 _ 23 _ rfl rfl rfl (dp hdep 1 rfl rfl)
          exact hI.pq hD hls rfl rfl rfl _ (run_add rfl (eval_of hvp) (eval_of hvq) hq8_5 wn) (.val (.int .u64 ((((hsF (hit pm1L k) (c + 1)).1).getD c 0) + ((hsF (hit pm1L k) (c + 1)).2 * 65536)))) rfl rfl rfl hK'
        · obtain rfl := Option.some.inj ho
          obtain ⟨vp, hvp, rfl⟩ := hI.hq 5 _ 24 _ rfl rfl rfl (dp hdep 0 rfl rfl)
          exact hI.pq hD hls rfl rfl rfl _ (run_moveQ (.inr rfl) (eval_of hvp) wn) (.val (.int .u64 ((((hsF (hit pm1L k) (c + 1)).1).getD c 0) + ((hsF (hit pm1L k) (c + 1)).2 * 65536)))) rfl rfl rfl hK'
      intro an w9 hI
      obtain ⟨vr8_0, hvr8_0, rfl⟩ := hI.hq 0 _ 19 _ rfl rfl rfl rfl
      obtain ⟨vr8_1, hvr8_1, rfl⟩ := hI.hq 1 _ 20 _ rfl rfl rfl rfl
      obtain ⟨vr8_2, hvr8_2, rfl⟩ := hI.hq 2 _ 21 _ rfl rfl rfl rfl
      obtain ⟨vr8_3, hvr8_3, rfl⟩ := hI.hq 3 _ 22 _ rfl rfl rfl rfl
      obtain ⟨vr8_4, hvr8_4, rfl⟩ := hI.hq 4 _ 23 _ rfl rfl rfl rfl
      obtain ⟨vr8_5, hvr8_5, rfl⟩ := hI.hq 5 _ 24 _ rfl rfl rfl rfl
      obtain ⟨vr8_6, hvr8_6, rfl⟩ := hI.hq 6 _ 5 _ rfl rfl rfl rfl
      have hupd := hI.upd
      have ha := hI.act [(19, .int .i64 (c : Int)), (20, .pointer (some ⟨br1_1, 0 + c, none⟩)), (21, .int .u64 (((hsF (hit pm1L k) (c + 1)).1).getD c 0)), (22, .int .u64 (hsF (hit pm1L k) (c + 1)).2), (23, .int .u64 ((hsF (hit pm1L k) (c + 1)).2 * 65536)), (24, .int .u64 ((((hsF (hit pm1L k) (c + 1)).1).getD c 0) + ((hsF (hit pm1L k) (c + 1)).2 * 65536))), (5, .int .u64 ((((hsF (hit pm1L k) (c + 1)).1).getD c 0) + ((hsF (hit pm1L k) (c + 1)).2 * 65536)))] (by simp [hvr8_0, hvr8_1, hvr8_2, hvr8_3, hvr8_4, hvr8_5, hvr8_6]) (by kernel_rfl)
      clear hI hvr8_0 hvr8_1 hvr8_2 hvr8_3 hvr8_4 hvr8_5 hvr8_6
      subst ha
      simp only [List.foldl_cons, List.foldl_nil, List.setIfInBounds_toArray, List.set_cons_zero, List.set_cons_succ]
      have Bxr0y0_8 := hupd.keep Bxr0y0_7
      have Bxr1y1_8 := hupd.keep Bxr1y1_7
      have HU8 := hh (HU7.out.trans hupd)
      clear hupd
      refine wpOps_nil ?_
      refine hK15 _ _ ?_
      clear hK15
      refine wp_seq_k fun K16 hK16 => ?_
      have hq9_2 : IntKind.wrap .u64 (Int.tdiv ((((hsF (hit pm1L k) (c + 1)).1).getD c 0) + ((hsF (hit pm1L k) (c + 1)).2 * 65536)) 2) = (((((hsF (hit pm1L k) (c + 1)).1).getD c 0) + ((hsF (hit pm1L k) (c + 1)).2 * 65536)) / 2) := quo64 (by omega)
      refine wp_region_qSD 4 #[true, true, true, true, false] [4] ([.val (.int .i64 (c : Int)), .val (.int .u64 ((((hsF (hit pm1L k) (c + 1)).1).getD c 0) + ((hsF (hit pm1L k) (c + 1)).2 * 65536))), .val (.int .u64 (((((hsF (hit pm1L k) (c + 1)).1).getD c 0) + ((hsF (hit pm1L k) (c + 1)).2 * 65536)) / 2)), .val (.pointer (some ⟨br1_1, 0 + c, none⟩)), .val undef] : List SQ) (by kernel_rfl) (by kernel_rfl) (by kernel_rfl) (by kernel_rfl) ?_ ?_
      · intro i o listed an wn ho hls hst hun hdep hI hD hpre K' hK'
        rcases slot_cases (l := [0, 1, 2, 3]) rfl ho hst with rfl | rfl | rfl | rfl | ⟨⟨⟩⟩
        · obtain rfl := Option.some.inj ho
          have hvp : an.eval (.tmp 4) = .int .i64 (c : Int) := hI.oq (by kernel_rfl) rfl
          exact hI.pq hD hls rfl rfl rfl _ (run_moveQ (.inl rfl) hvp wn) (.val (.int .i64 (c : Int))) rfl rfl rfl hK'
        · obtain rfl := Option.some.inj ho
          have hvp : an.eval (.tmp 5) = .int .u64 ((((hsF (hit pm1L k) (c + 1)).1).getD c 0) + ((hsF (hit pm1L k) (c + 1)).2 * 65536)) := hI.oq (by kernel_rfl) rfl
          exact hI.pq hD hls rfl rfl rfl _ (run_moveQ (.inl rfl) hvp wn) (.val (.int .u64 ((((hsF (hit pm1L k) (c + 1)).1).getD c 0) + ((hsF (hit pm1L k) (c + 1)).2 * 65536)))) rfl rfl rfl hK'
        · obtain rfl := Option.some.inj ho
          obtain ⟨vp, hvp, rfl⟩ := hI.hq 1 _ 26 _ rfl rfl rfl (dp hdep 0 rfl rfl)
          exact hI.pq hD hls rfl rfl rfl _ (run_quo rfl (eval_of hvp) rfl (by decide) hq9_2 wn) (.val (.int .u64 (((((hsF (hit pm1L k) (c + 1)).1).getD c 0) + ((hsF (hit pm1L k) (c + 1)).2 * 65536)) / 2))) rfl rfl rfl hK'
        · obtain rfl := Option.some.inj ho
          have hvp : an.eval (.tmp 1) = ptrTo br1_1 := hI.oq (by kernel_rfl) rfl
          obtain ⟨vq, hvq, rfl⟩ := hI.hq 0 _ 25 _ rfl rfl rfl (dp hdep 0 rfl rfl)
          exact hI.pq hD hls rfl rfl rfl _ (run_adr (off := 0) (i := c) rfl Tryd.underlying45 (by kernel_rfl) hvp (eval_of hvq) (by omega) wn) (.val (.pointer (some ⟨br1_1, 0 + c, none⟩))) rfl rfl rfl hK'
      intro an w10 hI
      obtain ⟨vr9_0, hvr9_0, rfl⟩ := hI.hq 0 _ 25 _ rfl rfl rfl rfl
      obtain ⟨vr9_1, hvr9_1, rfl⟩ := hI.hq 1 _ 26 _ rfl rfl rfl rfl
      obtain ⟨vr9_2, hvr9_2, rfl⟩ := hI.hq 2 _ 27 _ rfl rfl rfl rfl
      obtain ⟨vr9_3, hvr9_3, rfl⟩ := hI.hq 3 _ 28 _ rfl rfl rfl rfl
      have hupd := hI.upd
      have ha := hI.act [(25, .int .i64 (c : Int)), (26, .int .u64 ((((hsF (hit pm1L k) (c + 1)).1).getD c 0) + ((hsF (hit pm1L k) (c + 1)).2 * 65536))), (27, .int .u64 (((((hsF (hit pm1L k) (c + 1)).1).getD c 0) + ((hsF (hit pm1L k) (c + 1)).2 * 65536)) / 2)), (28, .pointer (some ⟨br1_1, 0 + c, none⟩))] (by simp [hvr9_0, hvr9_1, hvr9_2, hvr9_3]) (by kernel_rfl)
      clear hI hvr9_0 hvr9_1 hvr9_2 hvr9_3
      subst ha
      simp only [List.foldl_cons, List.foldl_nil, List.setIfInBounds_toArray, List.set_cons_zero, List.set_cons_succ]
      have Bxr0y0_9 := hupd.keep Bxr0y0_8
      have Bxr1y1_9 := hupd.keep Bxr1y1_8
      have HU9 := hh (HU8.out.trans hupd)
      clear hupd
      refine wpOps_storeK 4 rfl rfl rfl 36 (.tmp 28) (.tmp 27) rfl (by kernel_rfl) br1_1 (0 + c) rfl .u64 (((((hsF (hit pm1L k) (c + 1)).1).getD c 0) + ((hsF (hit pm1L k) (c + 1)).2 * 65536)) / 2) rfl 45 ((hsF (hit pm1L k) (c + 1)).1) Bxr1y1_9.out (by rw [(hsF_ok (hit_ok pm1L_length pm1L_digs k).1 (hit_ok pm1L_length pm1L_digs k).2 _).1]; omega) ?_
      rw [Nat.zero_add]
      intro ws9_0 hs9_0 hus9_0
      have Bxr0y0_s9_0 := hus9_0.keepS Bxr0y0_9 (fun e => hner1_1_Bxr0y0.out e.symm)
      have Bxr1y1_s9_0 := hh hs9_0
      have HU9_0 := hh (HU9.out.step hus9_0 (fun i hi h => absurd hi (Nat.not_lt.2 (h.symm ▸ hger1_1.out))))
      clear hs9_0 hus9_0
      refine wpOps_nil ?_
      refine hK16 _ _ ?_
      clear hK16
      have hq10_1 : Int.tmod ((((hsF (hit pm1L k) (c + 1)).1).getD c 0) + ((hsF (hit pm1L k) (c + 1)).2 * 65536)) 2 = (((((hsF (hit pm1L k) (c + 1)).1).getD c 0) + ((hsF (hit pm1L k) (c + 1)).2 * 65536)) % 2) := Int.tmod_eq_emod_of_nonneg (by omega)
      refine wp_region_qSD 3 #[true, true, true] [] ([.val (.int .u64 ((((hsF (hit pm1L k) (c + 1)).1).getD c 0) + ((hsF (hit pm1L k) (c + 1)).2 * 65536))), .val (.int .u64 (((((hsF (hit pm1L k) (c + 1)).1).getD c 0) + ((hsF (hit pm1L k) (c + 1)).2 * 65536)) % 2)), .val (.int .u64 (((((hsF (hit pm1L k) (c + 1)).1).getD c 0) + ((hsF (hit pm1L k) (c + 1)).2 * 65536)) % 2))] : List SQ) (by kernel_rfl) (by kernel_rfl) (by kernel_rfl) (by kernel_rfl) ?_ ?_
      · intro i o listed an wn ho hls hst hun hdep hI hD hpre K' hK'
        rcases slot_cases (l := [0, 1, 2]) rfl ho hst with rfl | rfl | rfl | ⟨⟨⟩⟩
        · obtain rfl := Option.some.inj ho
          have hvp : an.eval (.tmp 5) = .int .u64 ((((hsF (hit pm1L k) (c + 1)).1).getD c 0) + ((hsF (hit pm1L k) (c + 1)).2 * 65536)) := hI.oq (by kernel_rfl) rfl
          exact hI.pq hD hls rfl rfl rfl _ (run_moveQ (.inl rfl) hvp wn) (.val (.int .u64 ((((hsF (hit pm1L k) (c + 1)).1).getD c 0) + ((hsF (hit pm1L k) (c + 1)).2 * 65536)))) rfl rfl rfl hK'
        · obtain rfl := Option.some.inj ho
          obtain ⟨vp, hvp, rfl⟩ := hI.hq 0 _ 29 _ rfl rfl rfl (dp hdep 0 rfl rfl)
          exact hI.pq hD hls rfl rfl rfl _ (run_rem rfl (eval_of hvp) rfl (by decide) hq10_1 wn) (.val (.int .u64 (((((hsF (hit pm1L k) (c + 1)).1).getD c 0) + ((hsF (hit pm1L k) (c + 1)).2 * 65536)) % 2))) rfl rfl rfl hK'
        · obtain rfl := Option.some.inj ho
          obtain ⟨vp, hvp, rfl⟩ := hI.hq 1 _ 30 _ rfl rfl rfl (dp hdep 0 rfl rfl)
          exact hI.pq hD hls rfl rfl rfl _ (run_moveQ (.inr rfl) (eval_of hvp) wn) (.val (.int .u64 (((((hsF (hit pm1L k) (c + 1)).1).getD c 0) + ((hsF (hit pm1L k) (c + 1)).2 * 65536)) % 2))) rfl rfl rfl hK'
      intro an w11 hI
      obtain ⟨vr10_0, hvr10_0, rfl⟩ := hI.hq 0 _ 29 _ rfl rfl rfl rfl
      obtain ⟨vr10_1, hvr10_1, rfl⟩ := hI.hq 1 _ 30 _ rfl rfl rfl rfl
      obtain ⟨vr10_2, hvr10_2, rfl⟩ := hI.hq 2 _ 3 _ rfl rfl rfl rfl
      have hupd := hI.upd
      have ha := hI.act [(29, .int .u64 ((((hsF (hit pm1L k) (c + 1)).1).getD c 0) + ((hsF (hit pm1L k) (c + 1)).2 * 65536))), (30, .int .u64 (((((hsF (hit pm1L k) (c + 1)).1).getD c 0) + ((hsF (hit pm1L k) (c + 1)).2 * 65536)) % 2)), (3, .int .u64 (((((hsF (hit pm1L k) (c + 1)).1).getD c 0) + ((hsF (hit pm1L k) (c + 1)).2 * 65536)) % 2))] (by simp [hvr10_0, hvr10_1, hvr10_2]) (by kernel_rfl)
      clear hI hvr10_0 hvr10_1 hvr10_2
      subst ha
      simp only [List.foldl_cons, List.foldl_nil, List.setIfInBounds_toArray, List.set_cons_zero, List.set_cons_succ]
      have Bxr0y0_10 := hupd.keep Bxr0y0_s9_0
      have Bxr1y1_10 := hupd.keep Bxr1y1_s9_0
      have HU10 := hh (HU9_0.out.trans hupd)
      clear hupd
      refine wpOps_nil ?_
      refine hK14 _ _ ?_
      clear hK14
      have hq11_1 : IntKind.wrap .i64 ((c : Int) - 1) = (c : Int) - 1 := IntWalk.i64_in _ (by omega)
      refine wp_region_qSD 3 #[true, true, true] [] ([.val (.int .i64 (c : Int)), .val (.int .i64 ((c : Int) - 1)), .val (.int .i64 ((c : Int) - 1))] : List SQ) (by kernel_rfl) (by kernel_rfl) (by kernel_rfl) (by kernel_rfl) ?_ ?_
      · intro i o listed an wn ho hls hst hun hdep hI hD hpre K' hK'
        rcases slot_cases (l := [0, 1, 2]) rfl ho hst with rfl | rfl | rfl | ⟨⟨⟩⟩
        · obtain rfl := Option.some.inj ho
          have hvp : an.eval (.tmp 4) = .int .i64 (c : Int) := hI.oldS hpre (by kernel_rfl) rfl
          exact hI.pq hD hls rfl rfl rfl _ (run_moveQ (.inl rfl) hvp wn) (.val (.int .i64 (c : Int))) rfl rfl rfl hK'
        · obtain rfl := Option.some.inj ho
          obtain ⟨vp, hvp, rfl⟩ := hI.hq 0 _ 17 _ rfl rfl rfl (dp hdep 0 rfl rfl)
          exact hI.pq hD hls rfl rfl rfl _ (run_sub rfl (eval_of hvp) rfl hq11_1 wn) (.val (.int .i64 ((c : Int) - 1))) rfl rfl rfl hK'
        · obtain rfl := Option.some.inj ho
          obtain ⟨vp, hvp, rfl⟩ := hI.hq 1 _ 18 _ rfl rfl rfl (dp hdep 0 rfl rfl)
          exact hI.pq hD hls rfl rfl rfl _ (run_moveQ (.inr rfl) (eval_of hvp) wn) (.val (.int .i64 ((c : Int) - 1))) rfl rfl rfl hK'
      intro an w12 hI
      obtain ⟨vr11_0, hvr11_0, rfl⟩ := hI.hq 0 _ 17 _ rfl rfl rfl rfl
      obtain ⟨vr11_1, hvr11_1, rfl⟩ := hI.hq 1 _ 18 _ rfl rfl rfl rfl
      obtain ⟨vr11_2, hvr11_2, rfl⟩ := hI.hq 2 _ 4 _ rfl rfl rfl rfl
      have hupd := hI.upd
      have ha := hI.act [(17, .int .i64 (c : Int)), (18, .int .i64 ((c : Int) - 1)), (4, .int .i64 ((c : Int) - 1))] (by simp [hvr11_0, hvr11_1, hvr11_2]) (by kernel_rfl)
      clear hI hvr11_0 hvr11_1 hvr11_2
      subst ha
      simp only [List.foldl_cons, List.foldl_nil, List.setIfInBounds_toArray, List.set_cons_zero, List.set_cons_succ]
      have Bxr0y0_11 := hupd.keep Bxr0y0_10
      have Bxr1y1_11 := hupd.keep Bxr1y1_10
      have HU11 := hh (HU10.out.trans hupd)
      clear hupd
      refine wpOps_nil ?_
      exact ⟨⟨c, _, _, _, _, _, _, _, _, _, _, _, _, _, _, _, _, _, by omega, (by rw [show (hsF (hit pm1L k) c).2 = (((((hsF (hit pm1L k) (c + 1)).1).getD c 0) + ((hsF (hit pm1L k) (c + 1)).2 * 65536)) % 2) from (congrArg Prod.snd (hsF_step _ _ Hlt11.out))]), HU11.out, (by rw [show (hsF (hit pm1L k) c).1 = (((hsF (hit pm1L k) (c + 1)).1).set c (((((hsF (hit pm1L k) (c + 1)).1).getD c 0) + ((hsF (hit pm1L k) (c + 1)).2 * 65536)) / 2)) from (congrArg Prod.fst (hsF_step _ _ Hlt11.out))]; exact Bxr1y1_11.out), Bxr0y0_11.out⟩, by show ((c : Int) - 1 + 1).toNat < ((c : Int) + 1).toNat; omega⟩
    obtain rfl : i = 0 := by omega
    rw [show ((0 : Nat) : Int) - 1 = -1 by omega]
    clear hlt
    refine wp_seq_k fun K17 hK17 => ?_
    refine wp_seq_k fun K18 hK18 => ?_
    have hq12_1 : decide (((0 : Int) ≤ (-1) : Prop)) = false := decide_eq_false (by omega)
    refine wp_region_qSD 2 #[true, true] [] ([.val (.int .i64 (-1)), .val (.bool false)] : List SQ) (by kernel_rfl) (by kernel_rfl) (by kernel_rfl) (by kernel_rfl) ?_ ?_
    · intro i o listed an wn ho hls hst hun hdep hI hD hpre K' hK'
      rcases slot_cases (l := [0, 1]) rfl ho hst with rfl | rfl | ⟨⟨⟩⟩
      · obtain rfl := Option.some.inj ho
        have hvp : an.eval (.tmp 4) = .int .i64 (-1) := hI.oq (by kernel_rfl) rfl
        exact hI.pq hD hls rfl rfl rfl _ (run_moveQ (.inl rfl) hvp wn) (.val (.int .i64 (-1))) rfl rfl rfl hK'
      · obtain rfl := Option.some.inj ho
        obtain ⟨vp, hvp, rfl⟩ := hI.hq 0 _ 15 _ rfl rfl rfl (dp hdep 0 rfl rfl)
        exact hI.pq hD hls rfl rfl rfl _ (run_geq rfl (eval_of hvp) rfl hq12_1 wn) (.val (.bool false)) rfl rfl rfl hK'
    intro an w13 hI
    obtain ⟨vr12_0, hvr12_0, rfl⟩ := hI.hq 0 _ 15 _ rfl rfl rfl rfl
    obtain ⟨vr12_1, hvr12_1, rfl⟩ := hI.hq 1 _ 16 _ rfl rfl rfl rfl
    have hupd := hI.upd
    have ha := hI.act [(15, .int .i64 (-1)), (16, .bool false)] (by simp [hvr12_0, hvr12_1]) (by kernel_rfl)
    clear hI hvr12_0 hvr12_1
    subst ha
    simp only [List.foldl_cons, List.foldl_nil, List.setIfInBounds_toArray, List.set_cons_zero, List.set_cons_succ]
    have Bxr0y0_12 := hupd.keep Bxr0y0_l11
    have Bxr1y1_12 := hupd.keep Bxr1y1_l11
    have HU12 := hh (HUl11.out.trans hupd)
    clear hupd
    refine wpOps_nil ?_
    refine hK18 _ _ ?_
    clear hK18
    refine wp_cond_false rfl ?_
    refine wp_exit_then ?_
    refine hK8 _ _ ?_
    clear hK8
    have hq13_1 : IntKind.wrap .i64 ((k : Int) + 1) = (k : Int) + 1 := IntWalk.i64_in _ (by omega)
    refine wp_region_qSD 3 #[true, true, true] [] ([.val (.int .i64 (k : Int)), .val (.int .i64 ((k : Int) + 1)), .val (.int .i64 ((k : Int) + 1))] : List SQ) (by kernel_rfl) (by kernel_rfl) (by kernel_rfl) (by kernel_rfl) ?_ ?_
    · intro i o listed an wn ho hls hst hun hdep hI hD hpre K' hK'
      rcases slot_cases (l := [0, 1, 2]) rfl ho hst with rfl | rfl | rfl | ⟨⟨⟩⟩
      · obtain rfl := Option.some.inj ho
        have hvp : an.eval (.tmp 2) = .int .i64 (k : Int) := hI.oldS hpre (by kernel_rfl) rfl
        exact hI.pq hD hls rfl rfl rfl _ (run_moveQ (.inl rfl) hvp wn) (.val (.int .i64 (k : Int))) rfl rfl rfl hK'
      · obtain rfl := Option.some.inj ho
        obtain ⟨vp, hvp, rfl⟩ := hI.hq 0 _ 13 _ rfl rfl rfl (dp hdep 0 rfl rfl)
        exact hI.pq hD hls rfl rfl rfl _ (run_add rfl (eval_of hvp) rfl hq13_1 wn) (.val (.int .i64 ((k : Int) + 1))) rfl rfl rfl hK'
      · obtain rfl := Option.some.inj ho
        obtain ⟨vp, hvp, rfl⟩ := hI.hq 1 _ 14 _ rfl rfl rfl (dp hdep 0 rfl rfl)
        exact hI.pq hD hls rfl rfl rfl _ (run_moveQ (.inr rfl) (eval_of hvp) wn) (.val (.int .i64 ((k : Int) + 1))) rfl rfl rfl hK'
    intro an w14 hI
    obtain ⟨vr13_0, hvr13_0, rfl⟩ := hI.hq 0 _ 13 _ rfl rfl rfl rfl
    obtain ⟨vr13_1, hvr13_1, rfl⟩ := hI.hq 1 _ 14 _ rfl rfl rfl rfl
    obtain ⟨vr13_2, hvr13_2, rfl⟩ := hI.hq 2 _ 2 _ rfl rfl rfl rfl
    have hupd := hI.upd
    have ha := hI.act [(13, .int .i64 (k : Int)), (14, .int .i64 ((k : Int) + 1)), (2, .int .i64 ((k : Int) + 1))] (by simp [hvr13_0, hvr13_1, hvr13_2]) (by kernel_rfl)
    clear hI hvr13_0 hvr13_1 hvr13_2
    subst ha
    simp only [List.foldl_cons, List.foldl_nil, List.setIfInBounds_toArray, List.set_cons_zero, List.set_cons_succ]
    have Bxr0y0_13 := hupd.keep Bxr0y0_12
    have Bxr1y1_13 := hupd.keep Bxr1y1_12
    have HU13 := hh (HU12.out.trans hupd)
    clear hupd
    refine wpOps_nil ?_
    exact ⟨⟨(k + 1), _, _, _, _, _, _, _, _, _, _, _, _, _, _, _, _, _, _, _, _, _, _, _, Nat.succ_le_of_lt Hlt5.out, rfl, HU13.out, (by rw [show (hit pm1L (k + 1)) = (hsF (hit pm1L k) 0).1 from rfl]; exact Bxr1y1_13.out), Bxr0y0_13.out⟩, by show (2) - ((k : Int) + 1).toNat < (2) - (k : Int).toNat; have := Hlt5.out; omega⟩
  obtain rfl : k = 2 := by omega
  clear hlt
  have Bxr1y1_l5e := hh (show Blk _ _ _ (numsA .u64 (digits 65536 16 e4I)) from hit_pm1 ▸ Bxr1y1_l5.out)
  refine wp_seq_k fun K19 hK19 => ?_
  refine wp_seq_k fun K20 hK20 => ?_
  have hq14_1 : decide (((((2 : Nat) : Int) : Int) < 2 : Prop)) = false := decide_eq_false (by omega)
  refine wp_region_qSD 2 #[true, true] [] ([.val (.int .i64 ((2 : Nat) : Int)), .val (.bool false)] : List SQ) (by kernel_rfl) (by kernel_rfl) (by kernel_rfl) (by kernel_rfl) ?_ ?_
  · intro i o listed an wn ho hls hst hun hdep hI hD hpre K' hK'
    rcases slot_cases (l := [0, 1]) rfl ho hst with rfl | rfl | ⟨⟨⟩⟩
    · obtain rfl := Option.some.inj ho
      have hvp : an.eval (.tmp 2) = .int .i64 ((2 : Nat) : Int) := hI.oq (by kernel_rfl) rfl
      exact hI.pq hD hls rfl rfl rfl _ (run_moveQ (.inl rfl) hvp wn) (.val (.int .i64 ((2 : Nat) : Int))) rfl rfl rfl hK'
    · obtain rfl := Option.some.inj ho
      obtain ⟨vp, hvp, rfl⟩ := hI.hq 0 _ 11 _ rfl rfl rfl (dp hdep 0 rfl rfl)
      exact hI.pq hD hls rfl rfl rfl _ (run_lss rfl (eval_of hvp) rfl hq14_1 wn) (.val (.bool false)) rfl rfl rfl hK'
  intro an w15 hI
  obtain ⟨vr14_0, hvr14_0, rfl⟩ := hI.hq 0 _ 11 _ rfl rfl rfl rfl
  obtain ⟨vr14_1, hvr14_1, rfl⟩ := hI.hq 1 _ 12 _ rfl rfl rfl rfl
  have hupd := hI.upd
  have ha := hI.act [(11, .int .i64 ((2 : Nat) : Int)), (12, .bool false)] (by simp [hvr14_0, hvr14_1]) (by kernel_rfl)
  clear hI hvr14_0 hvr14_1
  subst ha
  simp only [List.foldl_cons, List.foldl_nil, List.setIfInBounds_toArray, List.set_cons_zero, List.set_cons_succ]
  have Bxr0y0_14 := hupd.keep Bxr0y0_l5
  have Bxr1y1_14 := hupd.keep Bxr1y1_l5e
  have HU14 := hh (HUl5.out.trans hupd)
  clear hupd
  refine wpOps_nil ?_
  refine hK20 _ _ ?_
  clear hK20
  refine wp_cond_false rfl ?_
  refine wp_exit_then ?_
  refine hK3 _ _ ?_
  clear hK3
  refine wp_seq_k fun K21 hK21 => ?_
  refine wp_region_qD #[true, true, true, false] ([.like (IsC 16 RN [fv 2]), .val (.agg (numsA .u64 (digits 65536 16 e4I))), .like (IsC 16 RN [fpw (fv 2) e4I.toNat]), .val undef] : List SQ) (by kernel_rfl) (by kernel_rfl) (by kernel_rfl) (by kernel_rfl) ?_ ?_
  · intro i o listed an wn ho hls hst hun hdep hI hD K' hK'
    rcases slot_cases (l := [0, 1, 2]) rfl ho hst with rfl | rfl | rfl | ⟨⟨⟩⟩
    · obtain rfl := Option.some.inj ho
      exact hI.cq hD hls rfl rfl rfl 54 #[.const (.int .u64 2)] _ rfl #[.int .u64 2] (by simp [Act.eval]) (run_enter Tryd.func54 (by kernel_rfl) (by kernel_rfl)) (.like (IsC 16 RN [fv 2])) rfl rfl ((rSmallE 2 (by decide) (by decide)).mono fun _ _ h => h.sq) hK'
    · obtain rfl := Option.some.inj ho
      have hvp : an.eval (.tmp 1) = ptrTo br1_1 := hI.oq (by kernel_rfl) rfl
      exact hI.pq hD hls rfl rfl rfl _ (run_loadQ rfl hvp wn (hI.upd.keepD Bxr1y1_14).out Tryd.underlying45 rfl szN (by rw [numsA_size, (digits_length _ _ _)]; omega)) (.val (.agg (numsA .u64 (digits 65536 16 e4I)))) rfl (congrArg Value.agg (extract_all _ 16 (by rw [numsA_size]; exact (digits_length _ _ _)))) rfl hK'
    · obtain rfl := Option.some.inj ho
      obtain ⟨vp, hvp, ap, rfl, hCp⟩ := hI.hq 0 _ 31 _ rfl rfl rfl (dp hdep 0 rfl rfl)
      obtain ⟨vq, hvq, rfl⟩ := hI.hq 1 _ 32 _ rfl rfl rfl (dp hdep 1 rfl rfl)
      exact hI.cq hD hls rfl rfl rfl 90 #[.tmp 31, .tmp 32] _ rfl #[.agg ap, .agg (numsA .u64 (digits 65536 16 e4I))] (by simp [eval_of hvp, eval_of hvq]) (run_enter Tryd.func90 (by kernel_rfl) (by kernel_rfl)) (.like (IsC 16 RN [fpw (fv 2) e4I.toNat])) rfl rfl ((rpowE _ hCp (by decide +kernel) (by decide +kernel)).mono fun _ _ h => h.sq) hK'
  intro fuel an w16 hf hI
  obtain ⟨vr15_0, hvr15_0, ar15_0, rfl, hCr15_0⟩ := hI.hq 0 _ 31 _ rfl rfl rfl rfl
  obtain ⟨vr15_1, hvr15_1, rfl⟩ := hI.hq 1 _ 32 _ rfl rfl rfl rfl
  obtain ⟨vr15_2, hvr15_2, ar15_2, rfl, hCr15_2⟩ := hI.hq 2 _ 33 _ rfl rfl rfl rfl
  have hupd := hI.upd
  have ha := hI.act [(31, .agg ar15_0), (32, .agg (numsA .u64 (digits 65536 16 e4I))), (33, .agg ar15_2)] (by simp [hvr15_0, hvr15_1, hvr15_2]) (by kernel_rfl)
  clear hI hvr15_0 hvr15_1 hvr15_2
  subst ha
  simp only [List.foldl_cons, List.foldl_nil, List.setIfInBounds_toArray, List.set_cons_zero, List.set_cons_succ]
  have Bxr0y0_15 := hupd.keepD Bxr0y0_14
  have Bxr1y1_15 := hupd.keepD Bxr1y1_14
  have HU15 := hh (HU14.out.drew.trans hupd)
  clear hupd
  have hf0 : left #[true, true, true, false] 4 = 1 := by kernel_rfl
  have hf1 : left #[true, true, true, false] 4 ≤ fuel := hf
  obtain ⟨fu, rfl⟩ : ∃ fu, fuel = fu + 1 := ⟨fuel - 1, by omega⟩
  clear hf hf0 hf1
  refine wpAny_storeQ 3 rfl (by kernel_rfl) rfl rfl 45 (.tmp 0) (.tmp 33) rfl br0_0 0 16 rfl ar15_2 rfl 45 zr0_0 Bxr0y0_15.out szN hCr15_2.size (by rw [hzr0_0.size]; exact Nat.le_of_ble_eq_true rfl) hCr15_2.one' ?_
  intro ws15_0 hs15_0 hus15_0
  rw [splice_all _ _ 16 hzr0_0.size hCr15_2.size] at hs15_0
  have Bxr1y1_s15_0 := hus15_0.keepS Bxr1y1_15 (fun e => hner1_1_Bxr0y0.out e)
  have Bxr0y0_s15_0 := hh hs15_0
  have HU15_0 := hh (HU15.out.step hus15_0 (fun i hi h => absurd hi (Nat.not_lt.2 (h.symm ▸ hger0_0.out))))
  clear hs15_0 hus15_0
  refine wpAny_done (by kernel_rfl) ?_ _
  refine hK21 _ _ ?_
  clear hK21
  refine wp_ret ?_
  try dsimp only [Exit.then]
  try dsimp only [Exit.inBlock]
  exact bodyPost_ret (v := .agg ar15_2) (results_cell_row (fn := Tryd.f95) (p := 0) (ty := 45) rfl _ _ br0_0 45 _ (0, 0) _ rfl Bxr0y0_s15_0.out Tryd.underlying45 rfl (by rw [hCr15_2.size]; exact szN)) rfl ⟨_, rfl, hCr15_2, HU15_0.out⟩
set_option maxHeartbeats 4000000 in
theorem rrootR {a : Fp} {aa : Array Value} (w : World) (ha : Ch 16 RN [a] aa) :
    Calls Tryd.prog 65 #[.agg aa] w fun e w' => e = .returned (.tuple #[.agg (numsA .u64 (canL (rrootF a))), .bool (decide (rrootF a * rrootF a = a))]) ∧ Upd (fun _ => False) w w' := by
  have HU := hh (Upd.refl (fun _ => False) w)
  have hlow := pp_low
  go_enter Tryd.func65, Tryd.ntmps65
  refine wp_seq_k fun K0 hK0 => ?_
  refine wp_region_qSD 3 #[true, true, true] [] ([.blk ptrTo 45 (Ch 16 RN [a]), .blk ptrTo 45 (Ch 16 RN [0]), .val (.bool false)] : List SQ) (by kernel_rfl) (by kernel_rfl) (by kernel_rfl) (by kernel_rfl) ?_ ?_
  · intro i o listed an wn ho hls hst hun hdep hI hD hpre K' hK'
    rcases slot_cases (l := [0, 1, 2]) rfl ho hst with rfl | rfl | rfl | ⟨⟨⟩⟩
    · obtain rfl := Option.some.inj ho
      have hvp : an.eval (.tmp 0) = .agg aa := hI.oq (by kernel_rfl) rfl
      exact hI.newQ hD hls (Nat.le_refl _) (newsQ_spec (l := [0, 1]) (by kernel_rfl) ⟨⟨_, _, rfl⟩, ⟨_, _, rfl⟩, trivial⟩) rfl rfl rfl 45 aa _ (run_boxQ rfl hvp wn) rfl ha hK'
    · obtain rfl := Option.some.inj ho
      exact hI.newQ hD hls (Nat.le_refl _) (newsQ_spec (l := [0, 1]) (by kernel_rfl) ⟨⟨_, _, rfl⟩, ⟨_, _, rfl⟩, trivial⟩) rfl rfl rfl 45 zeroN _ (run_allocQ rfl zN_run wn) rfl zN_ch hK'
    · obtain rfl := Option.some.inj ho
      exact hI.pq hD hls rfl rfl rfl _ (run_moveQ (.inr rfl) (show an.eval (.const (.bool false)) = .bool false from rfl) wn) (.val (.bool false)) rfl rfl rfl hK'
  intro an w1 hI
  obtain ⟨vr0_0, hvr0_0, br0_0, zr0_0, rfl, hnr0_0, hbr0_0, hzr0_0⟩ := hI.hq 0 _ 1 _ rfl rfl rfl rfl
  obtain ⟨vr0_1, hvr0_1, br0_1, zr0_1, rfl, hnr0_1, hbr0_1, hzr0_1⟩ := hI.hq 1 _ 2 _ rfl rfl rfl rfl
  obtain ⟨vr0_2, hvr0_2, rfl⟩ := hI.hq 2 _ 3 _ rfl rfl rfl rfl
  have hupd := hI.upd
  have hner0_0_r0_1 := hh (show br0_0 ≠ br0_1 from fun e => hI.apart 0 1 _ _ 1 2 (by omega) rfl rfl rfl rfl rfl rfl rfl rfl (by rw [hvr0_0, hvr0_1, e]))
  have ha := hI.act [(1, ptrTo br0_0), (2, ptrTo br0_1), (3, .bool false)] (by simp [hvr0_0, hvr0_1, hvr0_2]) (by kernel_rfl)
  clear hI hvr0_0 hvr0_1 hvr0_2
  subst ha
  simp only [List.foldl_cons, List.foldl_nil, List.setIfInBounds_toArray, List.set_cons_zero, List.set_cons_succ]
  have hger0_0 := geB HU hnr0_0
  have hger0_1 := geB HU hnr0_1
  have Bxr0y0 := hh hbr0_0
  have Bxr0y1 := hh hbr0_1
  have HU0 := hh (HU.out.trans hupd)
  clear hupd
  refine wpOps_nil ?_
  refine hK0 _ _ ?_
  clear hK0
  refine wp_seq_k fun K1 hK1 => ?_
  refine wp_region_qSD 2 #[true, true, false] [2] ([.val (.agg (numsA .u64 (digits 65536 16 pp))), .blk ptrTo 45 (Ch 16 RN [0]), .val undef] : List SQ) (by kernel_rfl) (by kernel_rfl) (by kernel_rfl) (by kernel_rfl) ?_ ?_
  · intro i o listed an wn ho hls hst hun hdep hI hD hpre K' hK'
    rcases slot_cases (l := [0, 1]) rfl ho hst with rfl | rfl | ⟨⟨⟩⟩
    · obtain rfl := Option.some.inj ho
      exact hI.cq hD hls rfl rfl rfl 92 #[] _ rfl #[] (by simp) (run_enter Tryd.func92 (by kernel_rfl) (by kernel_rfl)) (.val (.agg (numsA .u64 (digits 65536 16 pp)))) rfl rfl ((rprimeE _).mono fun _ _ h => ret_val h) hK'
    · obtain rfl := Option.some.inj ho
      exact hI.newQ hD hls (Nat.le_refl _) (newsQ_spec (l := [1]) (by kernel_rfl) ⟨⟨_, _, rfl⟩, trivial⟩) rfl rfl rfl 45 zeroN _ (run_allocQ rfl zN_run wn) rfl zN_ch hK'
  intro an w2 hI
  obtain ⟨vr1_0, hvr1_0, rfl⟩ := hI.hq 0 _ 10 _ rfl rfl rfl rfl
  obtain ⟨vr1_1, hvr1_1, br1_1, zr1_1, rfl, hnr1_1, hbr1_1, hzr1_1⟩ := hI.hq 1 _ 4 _ rfl rfl rfl rfl
  have hupd := hI.upd
  have ha := hI.act [(10, .agg (numsA .u64 (digits 65536 16 pp))), (4, ptrTo br1_1)] (by simp [hvr1_0, hvr1_1]) (by kernel_rfl)
  clear hI hvr1_0 hvr1_1
  subst ha
  simp only [List.foldl_cons, List.foldl_nil, List.setIfInBounds_toArray, List.set_cons_zero, List.set_cons_succ]
  have hner1_1_Bxr0y0 := apartB Bxr0y0 hnr1_1
  have hner1_1_Bxr0y1 := apartB Bxr0y1 hnr1_1
  have hger1_1 := geB HU0 hnr1_1
  have Bxr0y0_1 := hupd.keep Bxr0y0
  have Bxr0y1_1 := hupd.keep Bxr0y1
  have Bxr1y1 := hh hbr1_1
  have HU1 := hh (HU0.out.trans hupd)
  clear hupd
  refine wpOps_storeQ 2 rfl rfl rfl 45 (.tmp 4) (.tmp 10) rfl br1_1 0 16 rfl (numsA .u64 (digits 65536 16 pp)) rfl 45 zr1_1 Bxr1y1.out szN (by rw [numsA_size]; exact (digits_length _ _ _)) (by rw [hzr1_1.size]; exact Nat.le_of_ble_eq_true rfl) (numsA_one _ _) ?_
  intro ws1_0 hs1_0 hus1_0
  rw [splice_all _ _ 16 hzr1_1.size (by rw [numsA_size]; exact (digits_length _ _ _))] at hs1_0
  have Bxr0y0_s1_0 := hus1_0.keepS Bxr0y0_1 (fun e => hner1_1_Bxr0y0.out e.symm)
  have Bxr0y1_s1_0 := hus1_0.keepS Bxr0y1_1 (fun e => hner1_1_Bxr0y1.out e.symm)
  have Bxr1y1_s1_0 := hh hs1_0
  have HU1_0 := hh (HU1.out.step hus1_0 (fun i hi h => absurd hi (Nat.not_lt.2 (h.symm ▸ hger1_1.out))))
  clear hs1_0 hus1_0
  refine wpOps_nil ?_
  refine hK1 _ _ ?_
  clear hK1
  refine wp_seq_k fun K2 hK2 => ?_
  have hq2_2 : IntKind.wrap .u64 (((digits 65536 16 pp).getD 0 0) + 3) = ((digits 65536 16 pp).getD 0 0) + 3 := IntWalk.u64_in _ (by omega)
  refine wp_region_qSD 4 #[true, true, true, true, false] [4] ([.val (.pointer (some ⟨br1_1, 0 + 0, none⟩)), .val (.int .u64 ((digits 65536 16 pp).getD 0 0)), .val (.int .u64 (((digits 65536 16 pp).getD 0 0) + 3)), .val (.pointer (some ⟨br1_1, 0 + 0, none⟩)), .val undef] : List SQ) (by kernel_rfl) (by kernel_rfl) (by kernel_rfl) (by kernel_rfl) ?_ ?_
  · intro i o listed an wn ho hls hst hun hdep hI hD hpre K' hK'
    rcases slot_cases (l := [0, 1, 2, 3]) rfl ho hst with rfl | rfl | rfl | rfl | ⟨⟨⟩⟩
    · obtain rfl := Option.some.inj ho
      have hvp : an.eval (.tmp 4) = ptrTo br1_1 := hI.oq (by kernel_rfl) rfl
      exact hI.pq hD hls rfl rfl rfl _ (run_adr (off := 0) (i := 0) rfl Tryd.underlying45 (by kernel_rfl) hvp rfl (by omega) wn) (.val (.pointer (some ⟨br1_1, 0 + 0, none⟩))) rfl rfl rfl hK'
    · obtain rfl := Option.some.inj ho
      obtain ⟨vp, hvp, rfl⟩ := hI.hq 0 _ 11 _ rfl rfl rfl (dp hdep 0 rfl rfl)
      exact hI.pq hD hls rfl rfl rfl _ (run_cellQ rfl Tryd.underlying36 (eval_of hvp) wn (hI.upd.keep Bxr1y1_s1_0).out (by rw [Nat.zero_add]; exact numsA_get _ _ _ (by rw [(digits_length _ _ _)]; omega))) (.val (.int .u64 ((digits 65536 16 pp).getD 0 0))) rfl rfl rfl hK'
    · obtain rfl := Option.some.inj ho
      obtain ⟨vp, hvp, rfl⟩ := hI.hq 1 _ 12 _ rfl rfl rfl (dp hdep 0 rfl rfl)
      exact hI.pq hD hls rfl rfl rfl _ (run_add rfl (eval_of hvp) rfl hq2_2 wn) (.val (.int .u64 (((digits 65536 16 pp).getD 0 0) + 3))) rfl rfl rfl hK'
    · obtain rfl := Option.some.inj ho
      have hvp : an.eval (.tmp 4) = ptrTo br1_1 := hI.oq (by kernel_rfl) rfl
      exact hI.pq hD hls rfl rfl rfl _ (run_adr (off := 0) (i := 0) rfl Tryd.underlying45 (by kernel_rfl) hvp rfl (by omega) wn) (.val (.pointer (some ⟨br1_1, 0 + 0, none⟩))) rfl rfl rfl hK'
  intro an w3 hI
  obtain ⟨vr2_0, hvr2_0, rfl⟩ := hI.hq 0 _ 11 _ rfl rfl rfl rfl
  obtain ⟨vr2_1, hvr2_1, rfl⟩ := hI.hq 1 _ 12 _ rfl rfl rfl rfl
  obtain ⟨vr2_2, hvr2_2, rfl⟩ := hI.hq 2 _ 13 _ rfl rfl rfl rfl
  obtain ⟨vr2_3, hvr2_3, rfl⟩ := hI.hq 3 _ 14 _ rfl rfl rfl rfl
  have hupd := hI.upd
  have ha := hI.act [(11, .pointer (some ⟨br1_1, 0 + 0, none⟩)), (12, .int .u64 ((digits 65536 16 pp).getD 0 0)), (13, .int .u64 (((digits 65536 16 pp).getD 0 0) + 3)), (14, .pointer (some ⟨br1_1, 0 + 0, none⟩))] (by simp [hvr2_0, hvr2_1, hvr2_2, hvr2_3]) (by kernel_rfl)
  clear hI hvr2_0 hvr2_1 hvr2_2 hvr2_3
  subst ha
  simp only [List.foldl_cons, List.foldl_nil, List.setIfInBounds_toArray, List.set_cons_zero, List.set_cons_succ]
  have Bxr0y0_2 := hupd.keep Bxr0y0_s1_0
  have Bxr0y1_2 := hupd.keep Bxr0y1_s1_0
  have Bxr1y1_2 := hupd.keep Bxr1y1_s1_0
  have HU2 := hh (HU1_0.out.trans hupd)
  clear hupd
  refine wpOps_storeK 4 rfl rfl rfl 36 (.tmp 14) (.tmp 13) rfl (by kernel_rfl) br1_1 (0 + 0) rfl .u64 (((digits 65536 16 pp).getD 0 0) + 3) rfl 45 (digits 65536 16 pp) Bxr1y1_2.out (by rw [(digits_length _ _ _)]; omega) ?_
  rw [Nat.zero_add]
  intro ws2_0 hs2_0 hus2_0
  rw [pp3L_eq] at hs2_0
  have Bxr0y0_s2_0 := hus2_0.keepS Bxr0y0_2 (fun e => hner1_1_Bxr0y0.out e.symm)
  have Bxr0y1_s2_0 := hus2_0.keepS Bxr0y1_2 (fun e => hner1_1_Bxr0y1.out e.symm)
  have Bxr1y1_s2_0 := hh hs2_0
  have HU2_0 := hh (HU2.out.step hus2_0 (fun i hi h => absurd hi (Nat.not_lt.2 (h.symm ▸ hger1_1.out))))
  clear hs2_0 hus2_0
  refine wpOps_nil ?_
  refine hK2 _ _ ?_
  clear hK2
  refine wp_seq_k fun K3 hK3 => ?_
  refine wp_seq_k fun K4 hK4 => ?_
  refine wp_region_qSD 1 #[true] [] ([.val (.int .i64 0)] : List SQ) (by kernel_rfl) (by kernel_rfl) (by kernel_rfl) (by kernel_rfl) ?_ ?_
  · intro i o listed an wn ho hls hst hun hdep hI hD hpre K' hK'
    rcases slot_cases (l := [0]) rfl ho hst with rfl | ⟨⟨⟩⟩
    · obtain rfl := Option.some.inj ho
      exact hI.pq hD hls rfl rfl rfl _ (run_moveQ (.inr rfl) (show an.eval (.const (.int .i64 0)) = .int .i64 0 from rfl) wn) (.val (.int .i64 0)) rfl rfl rfl hK'
  intro an w4 hI
  obtain ⟨vr3_0, hvr3_0, rfl⟩ := hI.hq 0 _ 5 _ rfl rfl rfl rfl
  have hupd := hI.upd
  have ha := hI.act [(5, .int .i64 0)] (by simp [hvr3_0]) (by kernel_rfl)
  clear hI hvr3_0
  subst ha
  simp only [List.foldl_cons, List.foldl_nil, List.setIfInBounds_toArray, List.set_cons_zero, List.set_cons_succ]
  have Bxr0y0_3 := hupd.keep Bxr0y0_s2_0
  have Bxr0y1_3 := hupd.keep Bxr0y1_s2_0
  have Bxr1y1_3 := hupd.keep Bxr1y1_s2_0
  have HU3 := hh (HU2_0.out.trans hupd)
  clear hupd
  refine wpOps_nil ?_
  refine hK4 _ _ ?_
  clear hK4
  refine wp_block ?_
  refine wp_loop (fun a' w' => ∃ (k : Nat) (u5_6 u5_7 u5_8 u5_15 u5_16 u5_17 u5_18 u5_19 u5_20 u5_21 u5_22 u5_23 u5_24 u5_25 u5_26 u5_27 u5_28 u5_29 u5_30 u5_31 u5_32 u5_33 u5_34 : Value), k ≤ 3 ∧ a' = ⟨#[.agg aa, ptrTo br0_0, ptrTo br0_1, .bool false, ptrTo br1_1, .int .i64 (k : Int), u5_6, u5_7, u5_8, undef, .agg (numsA .u64 (digits 65536 16 pp)), .pointer (some ⟨br1_1, 0 + 0, none⟩), .int .u64 ((digits 65536 16 pp).getD 0 0), .int .u64 (((digits 65536 16 pp).getD 0 0) + 3), .pointer (some ⟨br1_1, 0 + 0, none⟩), u5_15, u5_16, u5_17, u5_18, u5_19, u5_20, u5_21, u5_22, u5_23, u5_24, u5_25, u5_26, u5_27, u5_28, u5_29, u5_30, u5_31, u5_32, u5_33, u5_34, undef, undef, undef, undef, undef, undef, undef, undef, undef, undef, undef, undef, undef, undef, undef, undef, undef, undef, undef, undef, undef, undef], []⟩ ∧ Upd (fun _ => False) w w' ∧ Blk w' br1_1 45 (numsA .u64 (hit pp3L k)) ∧ Blk w' br0_0 45 zr0_0 ∧ Blk w' br0_1 45 zr0_1) (fun a' _ => (3) - (intOf (a'.tmps.getD 5 undef)).toNat) ?_ ?_
  · exact ⟨0, undef, undef, undef, undef, undef, undef, undef, undef, undef, undef, undef, undef, undef, undef, undef, undef, undef, undef, undef, undef, undef, undef, undef, Nat.zero_le _, rfl, HU3.out, Bxr1y1_3.out, Bxr0y0_3.out, Bxr0y1_3.out⟩
  rintro a' wl5 ⟨k, u5_6, u5_7, u5_8, u5_15, u5_16, u5_17, u5_18, u5_19, u5_20, u5_21, u5_22, u5_23, u5_24, u5_25, u5_26, u5_27, u5_28, u5_29, u5_30, u5_31, u5_32, u5_33, u5_34, hk5, rfl, hul, hll4, hol0, hol1⟩
  have HUl5 := hh hul
  have Bxr1y1_l5 := hh hll4
  have Bxr0y0_l5 := hh hol0
  have Bxr0y1_l5 := hh hol1
  clear hul hll4 hol0 hol1
  by_cases hlt : k < 3
  · have Hlt5 := hh hlt
    refine wp_seq_k fun K6 hK6 => ?_
    refine wp_seq_k fun K7 hK7 => ?_
    have hq4_1 : decide ((((k : Int) : Int) < 3 : Prop)) = true := decide_eq_true (by omega)
    refine wp_region_qSD 2 #[true, true] [] ([.val (.int .i64 (k : Int)), .val (.bool true)] : List SQ) (by kernel_rfl) (by kernel_rfl) (by kernel_rfl) (by kernel_rfl) ?_ ?_
    · intro i o listed an wn ho hls hst hun hdep hI hD hpre K' hK'
      rcases slot_cases (l := [0, 1]) rfl ho hst with rfl | rfl | ⟨⟨⟩⟩
      · obtain rfl := Option.some.inj ho
        have hvp : an.eval (.tmp 5) = .int .i64 (k : Int) := hI.oq (by kernel_rfl) rfl
        exact hI.pq hD hls rfl rfl rfl _ (run_moveQ (.inl rfl) hvp wn) (.val (.int .i64 (k : Int))) rfl rfl rfl hK'
      · obtain rfl := Option.some.inj ho
        obtain ⟨vp, hvp, rfl⟩ := hI.hq 0 _ 15 _ rfl rfl rfl (dp hdep 0 rfl rfl)
        exact hI.pq hD hls rfl rfl rfl _ (run_lss rfl (eval_of hvp) rfl hq4_1 wn) (.val (.bool true)) rfl rfl rfl hK'
    intro an w5 hI
    obtain ⟨vr4_0, hvr4_0, rfl⟩ := hI.hq 0 _ 15 _ rfl rfl rfl rfl
    obtain ⟨vr4_1, hvr4_1, rfl⟩ := hI.hq 1 _ 16 _ rfl rfl rfl rfl
    have hupd := hI.upd
    have ha := hI.act [(15, .int .i64 (k : Int)), (16, .bool true)] (by simp [hvr4_0, hvr4_1]) (by kernel_rfl)
    clear hI hvr4_0 hvr4_1
    subst ha
    simp only [List.foldl_cons, List.foldl_nil, List.setIfInBounds_toArray, List.set_cons_zero, List.set_cons_succ]
    have Bxr0y0_4 := hupd.keep Bxr0y0_l5
    have Bxr0y1_4 := hupd.keep Bxr0y1_l5
    have Bxr1y1_4 := hupd.keep Bxr1y1_l5
    have HU4 := hh (HUl5.out.trans hupd)
    clear hupd
    refine wpOps_nil ?_
    refine hK7 _ _ ?_
    clear hK7
    refine wp_cond_true rfl ?_
    refine wp_skip ?_
    refine hK6 _ _ ?_
    clear hK6
    refine wp_seq_k fun K8 hK8 => ?_
    refine wp_block ?_
    refine wp_seq_k fun K9 hK9 => ?_
    refine wp_region_qSD 1 #[true] [] ([.val (.int .u64 0)] : List SQ) (by kernel_rfl) (by kernel_rfl) (by kernel_rfl) (by kernel_rfl) ?_ ?_
    · intro i o listed an wn ho hls hst hun hdep hI hD hpre K' hK'
      rcases slot_cases (l := [0]) rfl ho hst with rfl | ⟨⟨⟩⟩
      · obtain rfl := Option.some.inj ho
        exact hI.pq hD hls rfl rfl rfl _ (run_moveQ (.inr rfl) (show an.eval (.const (.int .u64 0)) = .int .u64 0 from rfl) wn) (.val (.int .u64 0)) rfl rfl rfl hK'
    intro an w6 hI
    obtain ⟨vr5_0, hvr5_0, rfl⟩ := hI.hq 0 _ 6 _ rfl rfl rfl rfl
    have hupd := hI.upd
    have ha := hI.act [(6, .int .u64 0)] (by simp [hvr5_0]) (by kernel_rfl)
    clear hI hvr5_0
    subst ha
    simp only [List.foldl_cons, List.foldl_nil, List.setIfInBounds_toArray, List.set_cons_zero, List.set_cons_succ]
    have Bxr0y0_5 := hupd.keep Bxr0y0_4
    have Bxr0y1_5 := hupd.keep Bxr0y1_4
    have Bxr1y1_5 := hupd.keep Bxr1y1_4
    have HU5 := hh (HU4.out.trans hupd)
    clear hupd
    refine wpOps_nil ?_
    refine hK9 _ _ ?_
    clear hK9
    refine wp_seq_k fun K10 hK10 => ?_
    refine wp_region_qSD 1 #[true] [] ([.val (.int .i64 15)] : List SQ) (by kernel_rfl) (by kernel_rfl) (by kernel_rfl) (by kernel_rfl) ?_ ?_
    · intro i o listed an wn ho hls hst hun hdep hI hD hpre K' hK'
      rcases slot_cases (l := [0]) rfl ho hst with rfl | ⟨⟨⟩⟩
      · obtain rfl := Option.some.inj ho
        exact hI.pq hD hls rfl rfl rfl _ (run_moveQ (.inr rfl) (show an.eval (.const (.int .i64 15)) = .int .i64 15 from rfl) wn) (.val (.int .i64 15)) rfl rfl rfl hK'
    intro an w7 hI
    obtain ⟨vr6_0, hvr6_0, rfl⟩ := hI.hq 0 _ 7 _ rfl rfl rfl rfl
    have hupd := hI.upd
    have ha := hI.act [(7, .int .i64 15)] (by simp [hvr6_0]) (by kernel_rfl)
    clear hI hvr6_0
    subst ha
    simp only [List.foldl_cons, List.foldl_nil, List.setIfInBounds_toArray, List.set_cons_zero, List.set_cons_succ]
    have Bxr0y0_6 := hupd.keep Bxr0y0_5
    have Bxr0y1_6 := hupd.keep Bxr0y1_5
    have Bxr1y1_6 := hupd.keep Bxr1y1_5
    have HU6 := hh (HU5.out.trans hupd)
    clear hupd
    refine wpOps_nil ?_
    refine hK10 _ _ ?_
    clear hK10
    refine wp_block ?_
    refine wp_loop (fun a' w' => ∃ (i : Nat) (u11_8 u11_19 u11_20 u11_21 u11_22 u11_23 u11_24 u11_25 u11_26 u11_27 u11_28 u11_29 u11_30 u11_31 u11_32 u11_33 u11_34 : Value), i ≤ 16 ∧ a' = ⟨#[.agg aa, ptrTo br0_0, ptrTo br0_1, .bool false, ptrTo br1_1, .int .i64 (k : Int), .int .u64 (hsF (hit pp3L k) i).2, .int .i64 ((i : Int) - 1), u11_8, undef, .agg (numsA .u64 (digits 65536 16 pp)), .pointer (some ⟨br1_1, 0 + 0, none⟩), .int .u64 ((digits 65536 16 pp).getD 0 0), .int .u64 (((digits 65536 16 pp).getD 0 0) + 3), .pointer (some ⟨br1_1, 0 + 0, none⟩), .int .i64 (k : Int), .bool true, u5_17, u5_18, u11_19, u11_20, u11_21, u11_22, u11_23, u11_24, u11_25, u11_26, u11_27, u11_28, u11_29, u11_30, u11_31, u11_32, u11_33, u11_34, undef, undef, undef, undef, undef, undef, undef, undef, undef, undef, undef, undef, undef, undef, undef, undef, undef, undef, undef, undef, undef, undef], []⟩ ∧ Upd (fun _ => False) w w' ∧ Blk w' br1_1 45 (numsA .u64 ((hsF (hit pp3L k) i).1)) ∧ Blk w' br0_0 45 zr0_0 ∧ Blk w' br0_1 45 zr0_1) (fun a' _ => (intOf (a'.tmps.getD 7 undef) + 1).toNat) ?_ ?_
    · exact ⟨16, u5_8, u5_19, u5_20, u5_21, u5_22, u5_23, u5_24, u5_25, u5_26, u5_27, u5_28, u5_29, u5_30, u5_31, u5_32, u5_33, u5_34, Nat.le_refl _, rfl, HU6.out, Bxr1y1_6.out, Bxr0y0_6.out, Bxr0y1_6.out⟩
    rintro a' wl11 ⟨i, u11_8, u11_19, u11_20, u11_21, u11_22, u11_23, u11_24, u11_25, u11_26, u11_27, u11_28, u11_29, u11_30, u11_31, u11_32, u11_33, u11_34, hk11, rfl, hul, hll4, hol0, hol1⟩
    have HUl11 := hh hul
    have Bxr1y1_l11 := hh hll4
    have Bxr0y0_l11 := hh hol0
    have Bxr0y1_l11 := hh hol1
    clear hul hll4 hol0 hol1
    by_cases hlt : 0 < i
    · obtain ⟨c, rfl⟩ : ∃ c, i = c + 1 := ⟨i - 1, by omega⟩
      rw [show ((c + 1 : Nat) : Int) - 1 = (c : Int) by omega]
      have Hlt11 : Hid (c < 16) := hh (by omega)
      clear hlt
      have hb1 := hsF_ok (hit_ok pp3L_length pp3L_digs k).1 (hit_ok pp3L_length pp3L_digs k).2 (c + 1)
      have hb2 := hb1.2.1.get (B := 65536) (by omega) c
      have hb3 := hb1.2.2
      clear hb1
      refine wp_seq_k fun K12 hK12 => ?_
      refine wp_seq_k fun K13 hK13 => ?_
      have hq7_1 : decide (((0 : Int) ≤ (c : Int) : Prop)) = true := decide_eq_true (by omega)
      refine wp_region_qSD 2 #[true, true] [] ([.val (.int .i64 (c : Int)), .val (.bool true)] : List SQ) (by kernel_rfl) (by kernel_rfl) (by kernel_rfl) (by kernel_rfl) ?_ ?_
      · intro i o listed an wn ho hls hst hun hdep hI hD hpre K' hK'
        rcases slot_cases (l := [0, 1]) rfl ho hst with rfl | rfl | ⟨⟨⟩⟩
        · obtain rfl := Option.some.inj ho
          have hvp : an.eval (.tmp 7) = .int .i64 (c : Int) := hI.oq (by kernel_rfl) rfl
          exact hI.pq hD hls rfl rfl rfl _ (run_moveQ (.inl rfl) hvp wn) (.val (.int .i64 (c : Int))) rfl rfl rfl hK'
        · obtain rfl := Option.some.inj ho
          obtain ⟨vp, hvp, rfl⟩ := hI.hq 0 _ 19 _ rfl rfl rfl (dp hdep 0 rfl rfl)
          exact hI.pq hD hls rfl rfl rfl _ (run_geq rfl (eval_of hvp) rfl hq7_1 wn) (.val (.bool true)) rfl rfl rfl hK'
      intro an w8 hI
      obtain ⟨vr7_0, hvr7_0, rfl⟩ := hI.hq 0 _ 19 _ rfl rfl rfl rfl
      obtain ⟨vr7_1, hvr7_1, rfl⟩ := hI.hq 1 _ 20 _ rfl rfl rfl rfl
      have hupd := hI.upd
      have ha := hI.act [(19, .int .i64 (c : Int)), (20, .bool true)] (by simp [hvr7_0, hvr7_1]) (by kernel_rfl)
      clear hI hvr7_0 hvr7_1
      subst ha
      simp only [List.foldl_cons, List.foldl_nil, List.setIfInBounds_toArray, List.set_cons_zero, List.set_cons_succ]
      have Bxr0y0_7 := hupd.keep Bxr0y0_l11
      have Bxr0y1_7 := hupd.keep Bxr0y1_l11
      have Bxr1y1_7 := hupd.keep Bxr1y1_l11
      have HU7 := hh (HUl11.out.trans hupd)
      clear hupd
      refine wpOps_nil ?_
      refine hK13 _ _ ?_
      clear hK13
      refine wp_cond_true rfl ?_
      refine wp_skip ?_
      refine hK12 _ _ ?_
      clear hK12
      refine wp_seq_k fun K14 hK14 => ?_
      refine wp_block ?_
      refine wp_seq_k fun K15 hK15 => ?_
      have hq8_4 : IntKind.wrap .u64 ((hsF (hit pp3L k) (c + 1)).2 * 65536) = ((hsF (hit pp3L k) (c + 1)).2 * 65536) := IntWalk.u64_in _ (by omega)
      have hq8_5 : IntKind.wrap .u64 ((((hsF (hit pp3L k) (c + 1)).1).getD c 0) + ((hsF (hit pp3L k) (c + 1)).2 * 65536)) = (((hsF (hit pp3L k) (c + 1)).1).getD c 0) + ((hsF (hit pp3L k) (c + 1)).2 * 65536) := IntWalk.u64_in _ (by omega)
      refine wp_region_qSD 7 #[true, true, true, true, true, true, true] [] ([.val (.int .i64 (c : Int)), .val (.pointer (some ⟨br1_1, 0 + c, none⟩)), .val (.int .u64 (((hsF (hit pp3L k) (c + 1)).1).getD c 0)), .val (.int .u64 (hsF (hit pp3L k) (c + 1)).2), .val (.int .u64 ((hsF (hit pp3L k) (c + 1)).2 * 65536)), .val (.int .u64 ((((hsF (hit pp3L k) (c + 1)).1).getD c 0) + ((hsF (hit pp3L k) (c + 1)).2 * 65536))), .val (.int .u64 ((((hsF (hit pp3L k) (c + 1)).1).getD c 0) + ((hsF (hit pp3L k) (c + 1)).2 * 65536)))] : List SQ) (by kernel_rfl) (by kernel_rfl) (by kernel_rfl) (by kernel_rfl) ?_ ?_
      · intro i o listed an wn ho hls hst hun hdep hI hD hpre K' hK'
        rcases slot_cases (l := [0, 1, 2, 3, 4, 5, 6]) rfl ho hst with rfl | rfl | rfl | rfl | rfl | rfl | rfl | ⟨⟨⟩⟩
        · obtain rfl := Option.some.inj ho
          have hvp : an.eval (.tmp 7) = .int .i64 (c : Int) := hI.oq (by kernel_rfl) rfl
          exact hI.pq hD hls rfl rfl rfl _ (run_moveQ (.inl rfl) hvp wn) (.val (.int .i64 (c : Int))) rfl rfl rfl hK'
        · obtain rfl := Option.some.inj ho
          have hvp : an.eval (.tmp 4) = ptrTo br1_1 := hI.oq (by kernel_rfl) rfl
          obtain ⟨vq, hvq, rfl⟩ := hI.hq 0 _ 23 _ rfl rfl rfl (dp hdep 0 rfl rfl)
          exact hI.pq hD hls rfl rfl rfl _ (run_adr (off := 0) (i := c) rfl Tryd.underlying45 (by kernel_rfl) hvp (eval_of hvq) (by omega) wn) (.val (.pointer (some ⟨br1_1, 0 + c, none⟩))) rfl rfl rfl hK'
        · obtain rfl := Option.some.inj ho
          obtain ⟨vp, hvp, rfl⟩ := hI.hq 1 _ 24 _ rfl rfl rfl (dp hdep 0 rfl rfl)
          exact hI.pq hD hls rfl rfl rfl _ (run_cellQ rfl Tryd.underlying36 (eval_of hvp) wn (hI.upd.keep Bxr1y1_7).out (by rw [Nat.zero_add]; exact numsA_get _ _ _ (by rw [(hsF_ok (hit_ok pp3L_length pp3L_digs k).1 (hit_ok pp3L_length pp3L_digs k).2 _).1]; omega))) (.val (.int .u64 (((hsF (hit pp3L k) (c + 1)).1).getD c 0))) rfl rfl rfl hK'
        · obtain rfl := Option.some.inj ho
          have hvp : an.eval (.tmp 6) = .int .u64 (hsF (hit pp3L k) (c + 1)).2 := hI.oq (by kernel_rfl) rfl
          exact hI.pq hD hls rfl rfl rfl _ (run_moveQ (.inl rfl) hvp wn) (.val (.int .u64 (hsF (hit pp3L k) (c + 1)).2)) rfl rfl rfl hK'
        · obtain rfl := Option.some.inj ho
          obtain ⟨vp, hvp, rfl⟩ := hI.hq 3 _ 26 _ rfl rfl rfl (dp hdep 0 rfl rfl)
          exact hI.pq hD hls rfl rfl rfl _ (run_mul rfl (eval_of hvp) rfl hq8_4 wn) (.val (.int .u64 ((hsF (hit pp3L k) (c + 1)).2 * 65536))) rfl rfl rfl hK'
        · obtain rfl := Option.some.inj ho
          obtain ⟨vp, hvp, rfl⟩ := hI.hq 2 _ 25 _ rfl rfl rfl (dp hdep 0 rfl rfl)
          obtain ⟨vq, hvq, rfl⟩ := hI.hq 4 _ 27 _ rfl rfl rfl (dp hdep 1 rfl rfl)
          exact hI.pq hD hls rfl rfl rfl _ (run_add rfl (eval_of hvp) (eval_of hvq) hq8_5 wn) (.val (.int .u64 ((((hsF (hit pp3L k) (c + 1)).1).getD c 0) + ((hsF (hit pp3L k) (c + 1)).2 * 65536)))) rfl rfl rfl hK'
        · obtain rfl := Option.some.inj ho
          obtain ⟨vp, hvp, rfl⟩ := hI.hq 5 _ 28 _ rfl rfl rfl (dp hdep 0 rfl rfl)
          exact hI.pq hD hls rfl rfl rfl _ (run_moveQ (.inr rfl) (eval_of hvp) wn) (.val (.int .u64 ((((hsF (hit pp3L k) (c + 1)).1).getD c 0) + ((hsF (hit pp3L k) (c + 1)).2 * 65536)))) rfl rfl rfl hK'
      intro an w9 hI
      obtain ⟨vr8_0, hvr8_0, rfl⟩ := hI.hq 0 _ 23 _ rfl rfl rfl rfl
      obtain ⟨vr8_1, hvr8_1, rfl⟩ := hI.hq 1 _ 24 _ rfl rfl rfl rfl
      obtain ⟨vr8_2, hvr8_2, rfl⟩ := hI.hq 2 _ 25 _ rfl rfl rfl rfl
      obtain ⟨vr8_3, hvr8_3, rfl⟩ := hI.hq 3 _ 26 _ rfl rfl rfl rfl
      obtain ⟨vr8_4, hvr8_4, rfl⟩ := hI.hq 4 _ 27 _ rfl rfl rfl rfl
      obtain ⟨vr8_5, hvr8_5, rfl⟩ := hI.hq 5 _ 28 _ rfl rfl rfl rfl
      obtain ⟨vr8_6, hvr8_6, rfl⟩ := hI.hq 6 _ 8 _ rfl rfl rfl rfl
      have hupd := hI.upd
      have ha := hI.act [(23, .int .i64 (c : Int)), (24, .pointer (some ⟨br1_1, 0 + c, none⟩)), (25, .int .u64 (((hsF (hit pp3L k) (c + 1)).1).getD c 0)), (26, .int .u64 (hsF (hit pp3L k) (c + 1)).2), (27, .int .u64 ((hsF (hit pp3L k) (c + 1)).2 * 65536)), (28, .int .u64 ((((hsF (hit pp3L k) (c + 1)).1).getD c 0) + ((hsF (hit pp3L k) (c + 1)).2 * 65536))), (8, .int .u64 ((((hsF (hit pp3L k) (c + 1)).1).getD c 0) + ((hsF (hit pp3L k) (c + 1)).2 * 65536)))] (by simp [hvr8_0, hvr8_1, hvr8_2, hvr8_3, hvr8_4, hvr8_5, hvr8_6]) (by kernel_rfl)
      clear hI hvr8_0 hvr8_1 hvr8_2 hvr8_3 hvr8_4 hvr8_5 hvr8_6
      subst ha
      simp only [List.foldl_cons, List.foldl_nil, List.setIfInBounds_toArray, List.set_cons_zero, List.set_cons_succ]
      have Bxr0y0_8 := hupd.keep Bxr0y0_7
      have Bxr0y1_8 := hupd.keep Bxr0y1_7
      have Bxr1y1_8 := hupd.keep Bxr1y1_7
      have HU8 := hh (HU7.out.trans hupd)
      clear hupd
      refine wpOps_nil ?_
      refine hK15 _ _ ?_
      clear hK15
      refine wp_seq_k fun K16 hK16 => ?_
      have hq9_2 : IntKind.wrap .u64 (Int.tdiv ((((hsF (hit pp3L k) (c + 1)).1).getD c 0) + ((hsF (hit pp3L k) (c + 1)).2 * 65536)) 2) = (((((hsF (hit pp3L k) (c + 1)).1).getD c 0) + ((hsF (hit pp3L k) (c + 1)).2 * 65536)) / 2) := quo64 (by omega)
      refine wp_region_qSD 4 #[true, true, true, true, false] [4] ([.val (.int .i64 (c : Int)), .val (.int .u64 ((((hsF (hit pp3L k) (c + 1)).1).getD c 0) + ((hsF (hit pp3L k) (c + 1)).2 * 65536))), .val (.int .u64 (((((hsF (hit pp3L k) (c + 1)).1).getD c 0) + ((hsF (hit pp3L k) (c + 1)).2 * 65536)) / 2)), .val (.pointer (some ⟨br1_1, 0 + c, none⟩)), .val undef] : List SQ) (by kernel_rfl) (by kernel_rfl) (by kernel_rfl) (by kernel_rfl) ?_ ?_
      · intro i o listed an wn ho hls hst hun hdep hI hD hpre K' hK'
        rcases slot_cases (l := [0, 1, 2, 3]) rfl ho hst with rfl | rfl | rfl | rfl | ⟨⟨⟩⟩
        · obtain rfl := Option.some.inj ho
          have hvp : an.eval (.tmp 7) = .int .i64 (c : Int) := hI.oq (by kernel_rfl) rfl
          exact hI.pq hD hls rfl rfl rfl _ (run_moveQ (.inl rfl) hvp wn) (.val (.int .i64 (c : Int))) rfl rfl rfl hK'
        · obtain rfl := Option.some.inj ho
          have hvp : an.eval (.tmp 8) = .int .u64 ((((hsF (hit pp3L k) (c + 1)).1).getD c 0) + ((hsF (hit pp3L k) (c + 1)).2 * 65536)) := hI.oq (by kernel_rfl) rfl
          exact hI.pq hD hls rfl rfl rfl _ (run_moveQ (.inl rfl) hvp wn) (.val (.int .u64 ((((hsF (hit pp3L k) (c + 1)).1).getD c 0) + ((hsF (hit pp3L k) (c + 1)).2 * 65536)))) rfl rfl rfl hK'
        · obtain rfl := Option.some.inj ho
          obtain ⟨vp, hvp, rfl⟩ := hI.hq 1 _ 30 _ rfl rfl rfl (dp hdep 0 rfl rfl)
          exact hI.pq hD hls rfl rfl rfl _ (run_quo rfl (eval_of hvp) rfl (by decide) hq9_2 wn) (.val (.int .u64 (((((hsF (hit pp3L k) (c + 1)).1).getD c 0) + ((hsF (hit pp3L k) (c + 1)).2 * 65536)) / 2))) rfl rfl rfl hK'
        · obtain rfl := Option.some.inj ho
          have hvp : an.eval (.tmp 4) = ptrTo br1_1 := hI.oq (by kernel_rfl) rfl
          obtain ⟨vq, hvq, rfl⟩ := hI.hq 0 _ 29 _ rfl rfl rfl (dp hdep 0 rfl rfl)
          exact hI.pq hD hls rfl rfl rfl _ (run_adr (off := 0) (i := c) rfl Tryd.underlying45 (by kernel_rfl) hvp (eval_of hvq) (by omega) wn) (.val (.pointer (some ⟨br1_1, 0 + c, none⟩))) rfl rfl rfl hK'
      intro an w10 hI
      obtain ⟨vr9_0, hvr9_0, rfl⟩ := hI.hq 0 _ 29 _ rfl rfl rfl rfl
      obtain ⟨vr9_1, hvr9_1, rfl⟩ := hI.hq 1 _ 30 _ rfl rfl rfl rfl
      obtain ⟨vr9_2, hvr9_2, rfl⟩ := hI.hq 2 _ 31 _ rfl rfl rfl rfl
      obtain ⟨vr9_3, hvr9_3, rfl⟩ := hI.hq 3 _ 32 _ rfl rfl rfl rfl
      have hupd := hI.upd
      have ha := hI.act [(29, .int .i64 (c : Int)), (30, .int .u64 ((((hsF (hit pp3L k) (c + 1)).1).getD c 0) + ((hsF (hit pp3L k) (c + 1)).2 * 65536))), (31, .int .u64 (((((hsF (hit pp3L k) (c + 1)).1).getD c 0) + ((hsF (hit pp3L k) (c + 1)).2 * 65536)) / 2)), (32, .pointer (some ⟨br1_1, 0 + c, none⟩))] (by simp [hvr9_0, hvr9_1, hvr9_2, hvr9_3]) (by kernel_rfl)
      clear hI hvr9_0 hvr9_1 hvr9_2 hvr9_3
      subst ha
      simp only [List.foldl_cons, List.foldl_nil, List.setIfInBounds_toArray, List.set_cons_zero, List.set_cons_succ]
      have Bxr0y0_9 := hupd.keep Bxr0y0_8
      have Bxr0y1_9 := hupd.keep Bxr0y1_8
      have Bxr1y1_9 := hupd.keep Bxr1y1_8
      have HU9 := hh (HU8.out.trans hupd)
      clear hupd
      refine wpOps_storeK 4 rfl rfl rfl 36 (.tmp 32) (.tmp 31) rfl (by kernel_rfl) br1_1 (0 + c) rfl .u64 (((((hsF (hit pp3L k) (c + 1)).1).getD c 0) + ((hsF (hit pp3L k) (c + 1)).2 * 65536)) / 2) rfl 45 ((hsF (hit pp3L k) (c + 1)).1) Bxr1y1_9.out (by rw [(hsF_ok (hit_ok pp3L_length pp3L_digs k).1 (hit_ok pp3L_length pp3L_digs k).2 _).1]; omega) ?_
      rw [Nat.zero_add]
      intro ws9_0 hs9_0 hus9_0
      have Bxr0y0_s9_0 := hus9_0.keepS Bxr0y0_9 (fun e => hner1_1_Bxr0y0.out e.symm)
      have Bxr0y1_s9_0 := hus9_0.keepS Bxr0y1_9 (fun e => hner1_1_Bxr0y1.out e.symm)
      have Bxr1y1_s9_0 := hh hs9_0
      have HU9_0 := hh (HU9.out.step hus9_0 (fun i hi h => absurd hi (Nat.not_lt.2 (h.symm ▸ hger1_1.out))))
      clear hs9_0 hus9_0
      refine wpOps_nil ?_
      refine hK16 _ _ ?_
      clear hK16
      have hq10_1 : Int.tmod ((((hsF (hit pp3L k) (c + 1)).1).getD c 0) + ((hsF (hit pp3L k) (c + 1)).2 * 65536)) 2 = (((((hsF (hit pp3L k) (c + 1)).1).getD c 0) + ((hsF (hit pp3L k) (c + 1)).2 * 65536)) % 2) := Int.tmod_eq_emod_of_nonneg (by omega)
      refine wp_region_qSD 3 #[true, true, true] [] ([.val (.int .u64 ((((hsF (hit pp3L k) (c + 1)).1).getD c 0) + ((hsF (hit pp3L k) (c + 1)).2 * 65536))), .val (.int .u64 (((((hsF (hit pp3L k) (c + 1)).1).getD c 0) + ((hsF (hit pp3L k) (c + 1)).2 * 65536)) % 2)), .val (.int .u64 (((((hsF (hit pp3L k) (c + 1)).1).getD c 0) + ((hsF (hit pp3L k) (c + 1)).2 * 65536)) % 2))] : List SQ) (by kernel_rfl) (by kernel_rfl) (by kernel_rfl) (by kernel_rfl) ?_ ?_
      · intro i o listed an wn ho hls hst hun hdep hI hD hpre K' hK'
        rcases slot_cases (l := [0, 1, 2]) rfl ho hst with rfl | rfl | rfl | ⟨⟨⟩⟩
        · obtain rfl := Option.some.inj ho
          have hvp : an.eval (.tmp 8) = .int .u64 ((((hsF (hit pp3L k) (c + 1)).1).getD c 0) + ((hsF (hit pp3L k) (c + 1)).2 * 65536)) := hI.oq (by kernel_rfl) rfl
          exact hI.pq hD hls rfl rfl rfl _ (run_moveQ (.inl rfl) hvp wn) (.val (.int .u64 ((((hsF (hit pp3L k) (c + 1)).1).getD c 0) + ((hsF (hit pp3L k) (c + 1)).2 * 65536)))) rfl rfl rfl hK'
        · obtain rfl := Option.some.inj ho
          obtain ⟨vp, hvp, rfl⟩ := hI.hq 0 _ 33 _ rfl rfl rfl (dp hdep 0 rfl rfl)
          exact hI.pq hD hls rfl rfl rfl _ (run_rem rfl (eval_of hvp) rfl (by decide) hq10_1 wn) (.val (.int .u64 (((((hsF (hit pp3L k) (c + 1)).1).getD c 0) + ((hsF (hit pp3L k) (c + 1)).2 * 65536)) % 2))) rfl rfl rfl hK'
        · obtain rfl := Option.some.inj ho
          obtain ⟨vp, hvp, rfl⟩ := hI.hq 1 _ 34 _ rfl rfl rfl (dp hdep 0 rfl rfl)
          exact hI.pq hD hls rfl rfl rfl _ (run_moveQ (.inr rfl) (eval_of hvp) wn) (.val (.int .u64 (((((hsF (hit pp3L k) (c + 1)).1).getD c 0) + ((hsF (hit pp3L k) (c + 1)).2 * 65536)) % 2))) rfl rfl rfl hK'
      intro an w11 hI
      obtain ⟨vr10_0, hvr10_0, rfl⟩ := hI.hq 0 _ 33 _ rfl rfl rfl rfl
      obtain ⟨vr10_1, hvr10_1, rfl⟩ := hI.hq 1 _ 34 _ rfl rfl rfl rfl
      obtain ⟨vr10_2, hvr10_2, rfl⟩ := hI.hq 2 _ 6 _ rfl rfl rfl rfl
      have hupd := hI.upd
      have ha := hI.act [(33, .int .u64 ((((hsF (hit pp3L k) (c + 1)).1).getD c 0) + ((hsF (hit pp3L k) (c + 1)).2 * 65536))), (34, .int .u64 (((((hsF (hit pp3L k) (c + 1)).1).getD c 0) + ((hsF (hit pp3L k) (c + 1)).2 * 65536)) % 2)), (6, .int .u64 (((((hsF (hit pp3L k) (c + 1)).1).getD c 0) + ((hsF (hit pp3L k) (c + 1)).2 * 65536)) % 2))] (by simp [hvr10_0, hvr10_1, hvr10_2]) (by kernel_rfl)
      clear hI hvr10_0 hvr10_1 hvr10_2
      subst ha
      simp only [List.foldl_cons, List.foldl_nil, List.setIfInBounds_toArray, List.set_cons_zero, List.set_cons_succ]
      have Bxr0y0_10 := hupd.keep Bxr0y0_s9_0
      have Bxr0y1_10 := hupd.keep Bxr0y1_s9_0
      have Bxr1y1_10 := hupd.keep Bxr1y1_s9_0
      have HU10 := hh (HU9_0.out.trans hupd)
      clear hupd
      refine wpOps_nil ?_
      refine hK14 _ _ ?_
      clear hK14
      have hq11_1 : IntKind.wrap .i64 ((c : Int) - 1) = (c : Int) - 1 := IntWalk.i64_in _ (by omega)
      refine wp_region_qSD 3 #[true, true, true] [] ([.val (.int .i64 (c : Int)), .val (.int .i64 ((c : Int) - 1)), .val (.int .i64 ((c : Int) - 1))] : List SQ) (by kernel_rfl) (by kernel_rfl) (by kernel_rfl) (by kernel_rfl) ?_ ?_
      · intro i o listed an wn ho hls hst hun hdep hI hD hpre K' hK'
        rcases slot_cases (l := [0, 1, 2]) rfl ho hst with rfl | rfl | rfl | ⟨⟨⟩⟩
        · obtain rfl := Option.some.inj ho
          have hvp : an.eval (.tmp 7) = .int .i64 (c : Int) := hI.oldS hpre (by kernel_rfl) rfl
          exact hI.pq hD hls rfl rfl rfl _ (run_moveQ (.inl rfl) hvp wn) (.val (.int .i64 (c : Int))) rfl rfl rfl hK'
        · obtain rfl := Option.some.inj ho
          obtain ⟨vp, hvp, rfl⟩ := hI.hq 0 _ 21 _ rfl rfl rfl (dp hdep 0 rfl rfl)
          exact hI.pq hD hls rfl rfl rfl _ (run_sub rfl (eval_of hvp) rfl hq11_1 wn) (.val (.int .i64 ((c : Int) - 1))) rfl rfl rfl hK'
        · obtain rfl := Option.some.inj ho
          obtain ⟨vp, hvp, rfl⟩ := hI.hq 1 _ 22 _ rfl rfl rfl (dp hdep 0 rfl rfl)
          exact hI.pq hD hls rfl rfl rfl _ (run_moveQ (.inr rfl) (eval_of hvp) wn) (.val (.int .i64 ((c : Int) - 1))) rfl rfl rfl hK'
      intro an w12 hI
      obtain ⟨vr11_0, hvr11_0, rfl⟩ := hI.hq 0 _ 21 _ rfl rfl rfl rfl
      obtain ⟨vr11_1, hvr11_1, rfl⟩ := hI.hq 1 _ 22 _ rfl rfl rfl rfl
      obtain ⟨vr11_2, hvr11_2, rfl⟩ := hI.hq 2 _ 7 _ rfl rfl rfl rfl
      have hupd := hI.upd
      have ha := hI.act [(21, .int .i64 (c : Int)), (22, .int .i64 ((c : Int) - 1)), (7, .int .i64 ((c : Int) - 1))] (by simp [hvr11_0, hvr11_1, hvr11_2]) (by kernel_rfl)
      clear hI hvr11_0 hvr11_1 hvr11_2
      subst ha
      simp only [List.foldl_cons, List.foldl_nil, List.setIfInBounds_toArray, List.set_cons_zero, List.set_cons_succ]
      have Bxr0y0_11 := hupd.keep Bxr0y0_10
      have Bxr0y1_11 := hupd.keep Bxr0y1_10
      have Bxr1y1_11 := hupd.keep Bxr1y1_10
      have HU11 := hh (HU10.out.trans hupd)
      clear hupd
      refine wpOps_nil ?_
      exact ⟨⟨c, _, _, _, _, _, _, _, _, _, _, _, _, _, _, _, _, _, by omega, (by rw [show (hsF (hit pp3L k) c).2 = (((((hsF (hit pp3L k) (c + 1)).1).getD c 0) + ((hsF (hit pp3L k) (c + 1)).2 * 65536)) % 2) from (congrArg Prod.snd (hsF_step _ _ Hlt11.out))]), HU11.out, (by rw [show (hsF (hit pp3L k) c).1 = (((hsF (hit pp3L k) (c + 1)).1).set c (((((hsF (hit pp3L k) (c + 1)).1).getD c 0) + ((hsF (hit pp3L k) (c + 1)).2 * 65536)) / 2)) from (congrArg Prod.fst (hsF_step _ _ Hlt11.out))]; exact Bxr1y1_11.out), Bxr0y0_11.out, Bxr0y1_11.out⟩, by show ((c : Int) - 1 + 1).toNat < ((c : Int) + 1).toNat; omega⟩
    obtain rfl : i = 0 := by omega
    rw [show ((0 : Nat) : Int) - 1 = -1 by omega]
    clear hlt
    refine wp_seq_k fun K17 hK17 => ?_
    refine wp_seq_k fun K18 hK18 => ?_
    have hq12_1 : decide (((0 : Int) ≤ (-1) : Prop)) = false := decide_eq_false (by omega)
    refine wp_region_qSD 2 #[true, true] [] ([.val (.int .i64 (-1)), .val (.bool false)] : List SQ) (by kernel_rfl) (by kernel_rfl) (by kernel_rfl) (by kernel_rfl) ?_ ?_
    · intro i o listed an wn ho hls hst hun hdep hI hD hpre K' hK'
      rcases slot_cases (l := [0, 1]) rfl ho hst with rfl | rfl | ⟨⟨⟩⟩
      · obtain rfl := Option.some.inj ho
        have hvp : an.eval (.tmp 7) = .int .i64 (-1) := hI.oq (by kernel_rfl) rfl
        exact hI.pq hD hls rfl rfl rfl _ (run_moveQ (.inl rfl) hvp wn) (.val (.int .i64 (-1))) rfl rfl rfl hK'
      · obtain rfl := Option.some.inj ho
        obtain ⟨vp, hvp, rfl⟩ := hI.hq 0 _ 19 _ rfl rfl rfl (dp hdep 0 rfl rfl)
        exact hI.pq hD hls rfl rfl rfl _ (run_geq rfl (eval_of hvp) rfl hq12_1 wn) (.val (.bool false)) rfl rfl rfl hK'
    intro an w13 hI
    obtain ⟨vr12_0, hvr12_0, rfl⟩ := hI.hq 0 _ 19 _ rfl rfl rfl rfl
    obtain ⟨vr12_1, hvr12_1, rfl⟩ := hI.hq 1 _ 20 _ rfl rfl rfl rfl
    have hupd := hI.upd
    have ha := hI.act [(19, .int .i64 (-1)), (20, .bool false)] (by simp [hvr12_0, hvr12_1]) (by kernel_rfl)
    clear hI hvr12_0 hvr12_1
    subst ha
    simp only [List.foldl_cons, List.foldl_nil, List.setIfInBounds_toArray, List.set_cons_zero, List.set_cons_succ]
    have Bxr0y0_12 := hupd.keep Bxr0y0_l11
    have Bxr0y1_12 := hupd.keep Bxr0y1_l11
    have Bxr1y1_12 := hupd.keep Bxr1y1_l11
    have HU12 := hh (HUl11.out.trans hupd)
    clear hupd
    refine wpOps_nil ?_
    refine hK18 _ _ ?_
    clear hK18
    refine wp_cond_false rfl ?_
    refine wp_exit_then ?_
    refine hK8 _ _ ?_
    clear hK8
    have hq13_1 : IntKind.wrap .i64 ((k : Int) + 1) = (k : Int) + 1 := IntWalk.i64_in _ (by omega)
    refine wp_region_qSD 3 #[true, true, true] [] ([.val (.int .i64 (k : Int)), .val (.int .i64 ((k : Int) + 1)), .val (.int .i64 ((k : Int) + 1))] : List SQ) (by kernel_rfl) (by kernel_rfl) (by kernel_rfl) (by kernel_rfl) ?_ ?_
    · intro i o listed an wn ho hls hst hun hdep hI hD hpre K' hK'
      rcases slot_cases (l := [0, 1, 2]) rfl ho hst with rfl | rfl | rfl | ⟨⟨⟩⟩
      · obtain rfl := Option.some.inj ho
        have hvp : an.eval (.tmp 5) = .int .i64 (k : Int) := hI.oldS hpre (by kernel_rfl) rfl
        exact hI.pq hD hls rfl rfl rfl _ (run_moveQ (.inl rfl) hvp wn) (.val (.int .i64 (k : Int))) rfl rfl rfl hK'
      · obtain rfl := Option.some.inj ho
        obtain ⟨vp, hvp, rfl⟩ := hI.hq 0 _ 17 _ rfl rfl rfl (dp hdep 0 rfl rfl)
        exact hI.pq hD hls rfl rfl rfl _ (run_add rfl (eval_of hvp) rfl hq13_1 wn) (.val (.int .i64 ((k : Int) + 1))) rfl rfl rfl hK'
      · obtain rfl := Option.some.inj ho
        obtain ⟨vp, hvp, rfl⟩ := hI.hq 1 _ 18 _ rfl rfl rfl (dp hdep 0 rfl rfl)
        exact hI.pq hD hls rfl rfl rfl _ (run_moveQ (.inr rfl) (eval_of hvp) wn) (.val (.int .i64 ((k : Int) + 1))) rfl rfl rfl hK'
    intro an w14 hI
    obtain ⟨vr13_0, hvr13_0, rfl⟩ := hI.hq 0 _ 17 _ rfl rfl rfl rfl
    obtain ⟨vr13_1, hvr13_1, rfl⟩ := hI.hq 1 _ 18 _ rfl rfl rfl rfl
    obtain ⟨vr13_2, hvr13_2, rfl⟩ := hI.hq 2 _ 5 _ rfl rfl rfl rfl
    have hupd := hI.upd
    have ha := hI.act [(17, .int .i64 (k : Int)), (18, .int .i64 ((k : Int) + 1)), (5, .int .i64 ((k : Int) + 1))] (by simp [hvr13_0, hvr13_1, hvr13_2]) (by kernel_rfl)
    clear hI hvr13_0 hvr13_1 hvr13_2
    subst ha
    simp only [List.foldl_cons, List.foldl_nil, List.setIfInBounds_toArray, List.set_cons_zero, List.set_cons_succ]
    have Bxr0y0_13 := hupd.keep Bxr0y0_12
    have Bxr0y1_13 := hupd.keep Bxr0y1_12
    have Bxr1y1_13 := hupd.keep Bxr1y1_12
    have HU13 := hh (HU12.out.trans hupd)
    clear hupd
    refine wpOps_nil ?_
    exact ⟨⟨(k + 1), _, _, _, _, _, _, _, _, _, _, _, _, _, _, _, _, _, _, _, _, _, _, _, Nat.succ_le_of_lt Hlt5.out, rfl, HU13.out, (by rw [show (hit pp3L (k + 1)) = (hsF (hit pp3L k) 0).1 from rfl]; exact Bxr1y1_13.out), Bxr0y0_13.out, Bxr0y1_13.out⟩, by show (3) - ((k : Int) + 1).toNat < (3) - (k : Int).toNat; have := Hlt5.out; omega⟩
  obtain rfl : k = 3 := by omega
  clear hlt
  have Bxr1y1_l5e := hh (show Blk _ _ _ (numsA .u64 (digits 65536 16 e8I)) from hit_pp3 ▸ Bxr1y1_l5.out)
  refine wp_seq_k fun K19 hK19 => ?_
  refine wp_seq_k fun K20 hK20 => ?_
  have hq14_1 : decide (((((3 : Nat) : Int) : Int) < 3 : Prop)) = false := decide_eq_false (by omega)
  refine wp_region_qSD 2 #[true, true] [] ([.val (.int .i64 ((3 : Nat) : Int)), .val (.bool false)] : List SQ) (by kernel_rfl) (by kernel_rfl) (by kernel_rfl) (by kernel_rfl) ?_ ?_
  · intro i o listed an wn ho hls hst hun hdep hI hD hpre K' hK'
    rcases slot_cases (l := [0, 1]) rfl ho hst with rfl | rfl | ⟨⟨⟩⟩
    · obtain rfl := Option.some.inj ho
      have hvp : an.eval (.tmp 5) = .int .i64 ((3 : Nat) : Int) := hI.oq (by kernel_rfl) rfl
      exact hI.pq hD hls rfl rfl rfl _ (run_moveQ (.inl rfl) hvp wn) (.val (.int .i64 ((3 : Nat) : Int))) rfl rfl rfl hK'
    · obtain rfl := Option.some.inj ho
      obtain ⟨vp, hvp, rfl⟩ := hI.hq 0 _ 15 _ rfl rfl rfl (dp hdep 0 rfl rfl)
      exact hI.pq hD hls rfl rfl rfl _ (run_lss rfl (eval_of hvp) rfl hq14_1 wn) (.val (.bool false)) rfl rfl rfl hK'
  intro an w15 hI
  obtain ⟨vr14_0, hvr14_0, rfl⟩ := hI.hq 0 _ 15 _ rfl rfl rfl rfl
  obtain ⟨vr14_1, hvr14_1, rfl⟩ := hI.hq 1 _ 16 _ rfl rfl rfl rfl
  have hupd := hI.upd
  have ha := hI.act [(15, .int .i64 ((3 : Nat) : Int)), (16, .bool false)] (by simp [hvr14_0, hvr14_1]) (by kernel_rfl)
  clear hI hvr14_0 hvr14_1
  subst ha
  simp only [List.foldl_cons, List.foldl_nil, List.setIfInBounds_toArray, List.set_cons_zero, List.set_cons_succ]
  have Bxr0y0_14 := hupd.keep Bxr0y0_l5
  have Bxr0y1_14 := hupd.keep Bxr0y1_l5
  have Bxr1y1_14 := hupd.keep Bxr1y1_l5e
  have HU14 := hh (HUl5.out.trans hupd)
  clear hupd
  refine wpOps_nil ?_
  refine hK20 _ _ ?_
  clear hK20
  refine wp_cond_false rfl ?_
  refine wp_exit_then ?_
  refine hK3 _ _ ?_
  clear hK3
  refine wp_seq_k fun K21 hK21 => ?_
  refine wp_region_qSD 4 #[true, true, true, true, false] [4] ([.val (.agg zr0_0), .val (.agg (numsA .u64 (digits 65536 16 e8I))), .like (IsC 16 RN [fpw a e8I.toNat]), .blk ptrTo 45 (Ch 16 RN [0]), .val undef] : List SQ) (by kernel_rfl) (by kernel_rfl) (by kernel_rfl) (by kernel_rfl) ?_ ?_
  · intro i o listed an wn ho hls hst hun hdep hI hD hpre K' hK'
    rcases slot_cases (l := [0, 1, 2, 3]) rfl ho hst with rfl | rfl | rfl | rfl | ⟨⟨⟩⟩
    · obtain rfl := Option.some.inj ho
      have hvp : an.eval (.tmp 1) = ptrTo br0_0 := hI.oq (by kernel_rfl) rfl
      exact hI.pq hD hls rfl rfl rfl _ (run_loadQ rfl hvp wn (hI.upd.keep Bxr0y0_14).out Tryd.underlying45 rfl szN (by rw [hzr0_0.size]; exact Nat.le_of_ble_eq_true rfl)) (.val (.agg zr0_0)) rfl (congrArg Value.agg (extract_all _ 16 hzr0_0.size)) rfl hK'
    · obtain rfl := Option.some.inj ho
      have hvp : an.eval (.tmp 4) = ptrTo br1_1 := hI.oq (by kernel_rfl) rfl
      exact hI.pq hD hls rfl rfl rfl _ (run_loadQ rfl hvp wn (hI.upd.keep Bxr1y1_14).out Tryd.underlying45 rfl szN (by rw [numsA_size, (digits_length _ _ _)]; omega)) (.val (.agg (numsA .u64 (digits 65536 16 e8I)))) rfl (congrArg Value.agg (extract_all _ 16 (by rw [numsA_size]; exact (digits_length _ _ _)))) rfl hK'
    · obtain rfl := Option.some.inj ho
      obtain ⟨vp, hvp, rfl⟩ := hI.hq 0 _ 35 _ rfl rfl rfl (dp hdep 0 rfl rfl)
      obtain ⟨vq, hvq, rfl⟩ := hI.hq 1 _ 36 _ rfl rfl rfl (dp hdep 1 rfl rfl)
      exact hI.cq hD hls rfl rfl rfl 90 #[.tmp 35, .tmp 36] _ rfl #[.agg zr0_0, .agg (numsA .u64 (digits 65536 16 e8I))] (by simp [eval_of hvp, eval_of hvq]) (run_enter Tryd.func90 (by kernel_rfl) (by kernel_rfl)) (.like (IsC 16 RN [fpw a e8I.toNat])) rfl rfl ((rpowE _ hzr0_0 (by decide +kernel) (by decide +kernel)).mono fun _ _ h => h.sq) hK'
    · obtain rfl := Option.some.inj ho
      exact hI.newQ hD hls (Nat.le_refl _) (newsQ_spec (l := [3]) (by kernel_rfl) ⟨⟨_, _, rfl⟩, trivial⟩) rfl rfl rfl 45 zeroN _ (run_allocQ rfl zN_run wn) rfl zN_ch hK'
  intro an w16 hI
  obtain ⟨vr15_0, hvr15_0, rfl⟩ := hI.hq 0 _ 35 _ rfl rfl rfl rfl
  obtain ⟨vr15_1, hvr15_1, rfl⟩ := hI.hq 1 _ 36 _ rfl rfl rfl rfl
  obtain ⟨vr15_2, hvr15_2, ar15_2, rfl, hCr15_2⟩ := hI.hq 2 _ 37 _ rfl rfl rfl rfl
  obtain ⟨vr15_3, hvr15_3, br15_3, zr15_3, rfl, hnr15_3, hbr15_3, hzr15_3⟩ := hI.hq 3 _ 9 _ rfl rfl rfl rfl
  have hupd := hI.upd
  have ha := hI.act [(35, .agg zr0_0), (36, .agg (numsA .u64 (digits 65536 16 e8I))), (37, .agg ar15_2), (9, ptrTo br15_3)] (by simp [hvr15_0, hvr15_1, hvr15_2, hvr15_3]) (by kernel_rfl)
  clear hI hvr15_0 hvr15_1 hvr15_2 hvr15_3
  subst ha
  simp only [List.foldl_cons, List.foldl_nil, List.setIfInBounds_toArray, List.set_cons_zero, List.set_cons_succ]
  have hner15_3_Bxr0y0_14 := apartB Bxr0y0_14 hnr15_3
  have hner15_3_Bxr0y1_14 := apartB Bxr0y1_14 hnr15_3
  have hner15_3_Bxr1y1_14 := apartB Bxr1y1_14 hnr15_3
  have hger15_3 := geB HU14 hnr15_3
  have Bxr0y0_15 := hupd.keep Bxr0y0_14
  have Bxr0y1_15 := hupd.keep Bxr0y1_14
  have Bxr1y1_15 := hupd.keep Bxr1y1_14
  have Bxr15y3 := hh hbr15_3
  have HU15 := hh (HU14.out.trans hupd)
  clear hupd
  refine wpOps_storeQ 4 rfl rfl rfl 45 (.tmp 9) (.tmp 37) rfl br15_3 0 16 rfl ar15_2 rfl 45 zr15_3 Bxr15y3.out szN hCr15_2.size (by rw [hzr15_3.size]; exact Nat.le_of_ble_eq_true rfl) hCr15_2.one' ?_
  intro ws15_0 hs15_0 hus15_0
  rw [splice_all _ _ 16 hzr15_3.size hCr15_2.size] at hs15_0
  have Bxr0y0_s15_0 := hus15_0.keepS Bxr0y0_15 (fun e => hner15_3_Bxr0y0_14.out e.symm)
  have Bxr0y1_s15_0 := hus15_0.keepS Bxr0y1_15 (fun e => hner15_3_Bxr0y1_14.out e.symm)
  have Bxr1y1_s15_0 := hus15_0.keepS Bxr1y1_15 (fun e => hner15_3_Bxr1y1_14.out e.symm)
  have Bxr15y3_s15_0 := hh hs15_0
  have HU15_0 := hh (HU15.out.step hus15_0 (fun i hi h => absurd hi (Nat.not_lt.2 (h.symm ▸ hger15_3.out))))
  clear hs15_0 hus15_0
  refine wpOps_nil ?_
  refine hK21 _ _ ?_
  clear hK21
  refine wp_seq_k fun K22 hK22 => ?_
  refine wp_seq_k fun K23 hK23 => ?_
  refine wp_region_qD #[true, true, true, true, true, true, true] ([.val (.agg ar15_2), .val (.agg ar15_2), .like (IsC 16 RN [(fpw a e8I.toNat) * (fpw a e8I.toNat)]), .val (.agg (numsA .u64 (canL ((fpw a e8I.toNat) * (fpw a e8I.toNat))))), .val (.agg zr0_0), .val (.agg (numsA .u64 (canL a))), .val (.bool (!(decide ((canL ((fpw a e8I.toNat) * (fpw a e8I.toNat))) = (canL a)))))] : List SQ) (by kernel_rfl) (by kernel_rfl) (by kernel_rfl) (by kernel_rfl) ?_ ?_
  · intro i o listed an wn ho hls hst hun hdep hI hD K' hK'
    rcases slot_cases (l := [0, 1, 2, 3, 4, 5, 6]) rfl ho hst with rfl | rfl | rfl | rfl | rfl | rfl | rfl | ⟨⟨⟩⟩
    · obtain rfl := Option.some.inj ho
      have hvp : an.eval (.tmp 9) = ptrTo br15_3 := hI.oq (by kernel_rfl) rfl
      exact hI.pq hD hls rfl rfl rfl _ (run_loadQ rfl hvp wn (hI.upd.keepD Bxr15y3_s15_0).out Tryd.underlying45 rfl szN (by rw [hCr15_2.size]; exact Nat.le_of_ble_eq_true rfl)) (.val (.agg ar15_2)) rfl (congrArg Value.agg (extract_all _ 16 hCr15_2.size)) rfl hK'
    · obtain rfl := Option.some.inj ho
      have hvp : an.eval (.tmp 9) = ptrTo br15_3 := hI.oq (by kernel_rfl) rfl
      exact hI.pq hD hls rfl rfl rfl _ (run_loadQ rfl hvp wn (hI.upd.keepD Bxr15y3_s15_0).out Tryd.underlying45 rfl szN (by rw [hCr15_2.size]; exact Nat.le_of_ble_eq_true rfl)) (.val (.agg ar15_2)) rfl (congrArg Value.agg (extract_all _ 16 hCr15_2.size)) rfl hK'
    · obtain rfl := Option.some.inj ho
      obtain ⟨vp, hvp, rfl⟩ := hI.hq 0 _ 38 _ rfl rfl rfl (dp hdep 0 rfl rfl)
      obtain ⟨vq, hvq, rfl⟩ := hI.hq 1 _ 39 _ rfl rfl rfl (dp hdep 1 rfl rfl)
      exact hI.cq hD hls rfl rfl rfl 58 #[.tmp 38, .tmp 39] _ rfl #[.agg ar15_2, .agg ar15_2] (by simp [eval_of hvp, eval_of hvq]) (run_enter Tryd.func58 (by kernel_rfl) (by kernel_rfl)) (.like (IsC 16 RN [(fpw a e8I.toNat) * (fpw a e8I.toNat)])) rfl rfl ((rMulE hCr15_2 hCr15_2).mono fun _ _ h => h.sq) hK'
    · obtain rfl := Option.some.inj ho
      obtain ⟨vp, hvp, ap, rfl, hCp⟩ := hI.hq 2 _ 40 _ rfl rfl rfl (dp hdep 0 rfl rfl)
      exact hI.cq hD hls rfl rfl rfl 88 #[.tmp 40] _ rfl #[.agg ap] (by simp [eval_of hvp]) (run_enter Tryd.func88 (by kernel_rfl) (by kernel_rfl)) (.val (.agg (numsA .u64 (canL ((fpw a e8I.toNat) * (fpw a e8I.toNat)))))) rfl rfl ((canE _ hCp).mono fun _ _ h => ret_val h) hK'
    · obtain rfl := Option.some.inj ho
      have hvp : an.eval (.tmp 1) = ptrTo br0_0 := hI.oq (by kernel_rfl) rfl
      exact hI.pq hD hls rfl rfl rfl _ (run_loadQ rfl hvp wn (hI.upd.keepD Bxr0y0_s15_0).out Tryd.underlying45 rfl szN (by rw [hzr0_0.size]; exact Nat.le_of_ble_eq_true rfl)) (.val (.agg zr0_0)) rfl (congrArg Value.agg (extract_all _ 16 hzr0_0.size)) rfl hK'
    · obtain rfl := Option.some.inj ho
      obtain ⟨vp, hvp, rfl⟩ := hI.hq 4 _ 42 _ rfl rfl rfl (dp hdep 0 rfl rfl)
      exact hI.cq hD hls rfl rfl rfl 88 #[.tmp 42] _ rfl #[.agg zr0_0] (by simp [eval_of hvp]) (run_enter Tryd.func88 (by kernel_rfl) (by kernel_rfl)) (.val (.agg (numsA .u64 (canL a)))) rfl rfl ((canE _ hzr0_0).mono fun _ _ h => ret_val h) hK'
    · obtain rfl := Option.some.inj ho
      obtain ⟨vp, hvp, rfl⟩ := hI.hq 3 _ 41 _ rfl rfl rfl (dp hdep 0 rfl rfl)
      obtain ⟨vq, hvq, rfl⟩ := hI.hq 5 _ 43 _ rfl rfl rfl (dp hdep 1 rfl rfl)
      exact hI.pq hD hls rfl rfl rfl _ (run_neqN rfl (eval_of hvp) (eval_of hvq) (Bool.not_not _).symm wn) (.val (.bool (!(decide ((canL ((fpw a e8I.toNat) * (fpw a e8I.toNat))) = (canL a)))))) rfl rfl rfl hK'
  intro fuel an w17 hf hI
  obtain ⟨vr16_0, hvr16_0, rfl⟩ := hI.hq 0 _ 38 _ rfl rfl rfl rfl
  obtain ⟨vr16_1, hvr16_1, rfl⟩ := hI.hq 1 _ 39 _ rfl rfl rfl rfl
  obtain ⟨vr16_2, hvr16_2, ar16_2, rfl, hCr16_2⟩ := hI.hq 2 _ 40 _ rfl rfl rfl rfl
  obtain ⟨vr16_3, hvr16_3, rfl⟩ := hI.hq 3 _ 41 _ rfl rfl rfl rfl
  obtain ⟨vr16_4, hvr16_4, rfl⟩ := hI.hq 4 _ 42 _ rfl rfl rfl rfl
  obtain ⟨vr16_5, hvr16_5, rfl⟩ := hI.hq 5 _ 43 _ rfl rfl rfl rfl
  obtain ⟨vr16_6, hvr16_6, rfl⟩ := hI.hq 6 _ 44 _ rfl rfl rfl rfl
  have hupd := hI.upd
  have ha := hI.act [(38, .agg ar15_2), (39, .agg ar15_2), (40, .agg ar16_2), (41, .agg (numsA .u64 (canL ((fpw a e8I.toNat) * (fpw a e8I.toNat))))), (42, .agg zr0_0), (43, .agg (numsA .u64 (canL a))), (44, .bool (!(decide ((canL ((fpw a e8I.toNat) * (fpw a e8I.toNat))) = (canL a)))))] (by simp [hvr16_0, hvr16_1, hvr16_2, hvr16_3, hvr16_4, hvr16_5, hvr16_6]) (by kernel_rfl)
  clear hI hvr16_0 hvr16_1 hvr16_2 hvr16_3 hvr16_4 hvr16_5 hvr16_6
  subst ha
  simp only [List.foldl_cons, List.foldl_nil, List.setIfInBounds_toArray, List.set_cons_zero, List.set_cons_succ]
  have Bxr0y0_16 := hupd.keepD Bxr0y0_s15_0
  have Bxr0y1_16 := hupd.keepD Bxr0y1_s15_0
  have Bxr1y1_16 := hupd.keepD Bxr1y1_s15_0
  have Bxr15y3_16 := hupd.keepD Bxr15y3_s15_0
  have HU16 := hh (HU15_0.out.drew.trans hupd)
  clear hupd
  refine wpAny_done (by kernel_rfl) ?_ _
  refine hK23 _ _ ?_
  clear hK23
  refine wp_cond_split (t := (!(decide ((canL ((fpw a e8I.toNat) * (fpw a e8I.toNat))) = (canL a))))) rfl (fun hcd => ?_) (fun hcd => ?_)
  · have Hcd24 := hh hcd
    clear hcd
    refine wp_region_qD #[true, true, true, false] ([.val (.agg ar15_2), .like (IsC 16 RN [iF]), .like (IsC 16 RN [(fpw a e8I.toNat) * iF]), .val undef] : List SQ) (by kernel_rfl) (by kernel_rfl) (by kernel_rfl) (by kernel_rfl) ?_ ?_
    · intro i o listed an wn ho hls hst hun hdep hI hD K' hK'
      rcases slot_cases (l := [0, 1, 2]) rfl ho hst with rfl | rfl | rfl | ⟨⟨⟩⟩
      · obtain rfl := Option.some.inj ho
        have hvp : an.eval (.tmp 9) = ptrTo br15_3 := hI.oq (by kernel_rfl) rfl
        exact hI.pq hD hls rfl rfl rfl _ (run_loadQ rfl hvp wn (hI.upd.keepD Bxr15y3_16).out Tryd.underlying45 rfl szN (by rw [hCr15_2.size]; exact Nat.le_of_ble_eq_true rfl)) (.val (.agg ar15_2)) rfl (congrArg Value.agg (extract_all _ 16 hCr15_2.size)) rfl hK'
      · obtain rfl := Option.some.inj ho
        exact hI.cq hD hls rfl rfl rfl 95 #[] _ rfl #[] (by simp) (run_enter Tryd.func95 (by kernel_rfl) (by kernel_rfl)) (.like (IsC 16 RN [iF])) rfl rfl ((minusOneP _).mono fun _ _ h => h.sq) hK'
      · obtain rfl := Option.some.inj ho
        obtain ⟨vp, hvp, rfl⟩ := hI.hq 0 _ 45 _ rfl rfl rfl (dp hdep 0 rfl rfl)
        obtain ⟨vq, hvq, aq, rfl, hCq⟩ := hI.hq 1 _ 46 _ rfl rfl rfl (dp hdep 1 rfl rfl)
        exact hI.cq hD hls rfl rfl rfl 58 #[.tmp 45, .tmp 46] _ rfl #[.agg ar15_2, .agg aq] (by simp [eval_of hvp, eval_of hvq]) (run_enter Tryd.func58 (by kernel_rfl) (by kernel_rfl)) (.like (IsC 16 RN [(fpw a e8I.toNat) * iF])) rfl rfl ((rMulE hCr15_2 hCq).mono fun _ _ h => h.sq) hK'
    intro fuel an w18 hf hI
    obtain ⟨vr17_0, hvr17_0, rfl⟩ := hI.hq 0 _ 45 _ rfl rfl rfl rfl
    obtain ⟨vr17_1, hvr17_1, ar17_1, rfl, hCr17_1⟩ := hI.hq 1 _ 46 _ rfl rfl rfl rfl
    obtain ⟨vr17_2, hvr17_2, ar17_2, rfl, hCr17_2⟩ := hI.hq 2 _ 47 _ rfl rfl rfl rfl
    have hupd := hI.upd
    have ha := hI.act [(45, .agg ar15_2), (46, .agg ar17_1), (47, .agg ar17_2)] (by simp [hvr17_0, hvr17_1, hvr17_2]) (by kernel_rfl)
    clear hI hvr17_0 hvr17_1 hvr17_2
    subst ha
    simp only [List.foldl_cons, List.foldl_nil, List.setIfInBounds_toArray, List.set_cons_zero, List.set_cons_succ]
    have Bxr0y0_17 := hupd.keepD Bxr0y0_16
    have Bxr0y1_17 := hupd.keepD Bxr0y1_16
    have Bxr1y1_17 := hupd.keepD Bxr1y1_16
    have Bxr15y3_17 := hupd.keepD Bxr15y3_16
    have HU17 := hh (HU16.out.drew.trans hupd)
    clear hupd
    have hf0 : left #[true, true, true, false] 4 = 1 := by kernel_rfl
    have hf1 : left #[true, true, true, false] 4 ≤ fuel := hf
    obtain ⟨fu, rfl⟩ : ∃ fu, fuel = fu + 1 := ⟨fuel - 1, by omega⟩
    clear hf hf0 hf1
    refine wpAny_storeQ 3 rfl (by kernel_rfl) rfl rfl 45 (.tmp 9) (.tmp 47) rfl br15_3 0 16 rfl ar17_2 rfl 45 ar15_2 Bxr15y3_17.out szN hCr17_2.size (by rw [hCr15_2.size]; exact Nat.le_of_ble_eq_true rfl) hCr17_2.one' ?_
    intro ws17_0 hs17_0 hus17_0
    rw [splice_all _ _ 16 hCr15_2.size hCr17_2.size] at hs17_0
    have Bxr0y0_s17_0 := hus17_0.keepS Bxr0y0_17 (fun e => hner15_3_Bxr0y0_14.out e.symm)
    have Bxr0y1_s17_0 := hus17_0.keepS Bxr0y1_17 (fun e => hner15_3_Bxr0y1_14.out e.symm)
    have Bxr1y1_s17_0 := hus17_0.keepS Bxr1y1_17 (fun e => hner15_3_Bxr1y1_14.out e.symm)
    have Bxr15y3_s17_0 := hh hs17_0
    have HU17_0 := hh (HU17.out.step hus17_0 (fun i hi h => absurd hi (Nat.not_lt.2 (h.symm ▸ hger15_3.out))))
    clear hs17_0 hus17_0
    refine wpAny_done (by kernel_rfl) ?_ _
    refine hK22 _ _ ?_
    clear hK22
    refine wp_seq_k fun K25 hK25 => ?_
    refine wp_region_qD #[true, true, true, true, true, true, true, true, false, false, false] ([.val (.agg ar17_2), .val (.agg (numsA .u64 (canL ((fpw a e8I.toNat) * iF)))), .val (.agg ar17_2), .val (.agg ar17_2), .like (IsC 16 RN [((fpw a e8I.toNat) * iF) * ((fpw a e8I.toNat) * iF)]), .val (.agg (numsA .u64 (canL (((fpw a e8I.toNat) * iF) * ((fpw a e8I.toNat) * iF))))), .val (.agg zr0_0), .val (.agg (numsA .u64 (canL a))), .val undef, .val undef, .val undef] : List SQ) (by kernel_rfl) (by kernel_rfl) (by kernel_rfl) (by kernel_rfl) ?_ ?_
    · intro i o listed an wn ho hls hst hun hdep hI hD K' hK'
      rcases slot_cases (l := [0, 1, 2, 3, 4, 5, 6, 7]) rfl ho hst with rfl | rfl | rfl | rfl | rfl | rfl | rfl | rfl | ⟨⟨⟩⟩
      · obtain rfl := Option.some.inj ho
        have hvp : an.eval (.tmp 9) = ptrTo br15_3 := hI.oq (by kernel_rfl) rfl
        exact hI.pq hD hls rfl rfl rfl _ (run_loadQ rfl hvp wn (hI.upd.keepD Bxr15y3_s17_0).out Tryd.underlying45 rfl szN (by rw [hCr17_2.size]; exact Nat.le_of_ble_eq_true rfl)) (.val (.agg ar17_2)) rfl (congrArg Value.agg (extract_all _ 16 hCr17_2.size)) rfl hK'
      · obtain rfl := Option.some.inj ho
        obtain ⟨vp, hvp, rfl⟩ := hI.hq 0 _ 48 _ rfl rfl rfl (dp hdep 0 rfl rfl)
        exact hI.cq hD hls rfl rfl rfl 88 #[.tmp 48] _ rfl #[.agg ar17_2] (by simp [eval_of hvp]) (run_enter Tryd.func88 (by kernel_rfl) (by kernel_rfl)) (.val (.agg (numsA .u64 (canL ((fpw a e8I.toNat) * iF))))) rfl rfl ((canE _ hCr17_2).mono fun _ _ h => ret_val h) hK'
      · obtain rfl := Option.some.inj ho
        have hvp : an.eval (.tmp 9) = ptrTo br15_3 := hI.oq (by kernel_rfl) rfl
        exact hI.pq hD hls rfl rfl rfl _ (run_loadQ rfl hvp wn (hI.upd.keepD Bxr15y3_s17_0).out Tryd.underlying45 rfl szN (by rw [hCr17_2.size]; exact Nat.le_of_ble_eq_true rfl)) (.val (.agg ar17_2)) rfl (congrArg Value.agg (extract_all _ 16 hCr17_2.size)) rfl hK'
      · obtain rfl := Option.some.inj ho
        have hvp : an.eval (.tmp 9) = ptrTo br15_3 := hI.oq (by kernel_rfl) rfl
        exact hI.pq hD hls rfl rfl rfl _ (run_loadQ rfl hvp wn (hI.upd.keepD Bxr15y3_s17_0).out Tryd.underlying45 rfl szN (by rw [hCr17_2.size]; exact Nat.le_of_ble_eq_true rfl)) (.val (.agg ar17_2)) rfl (congrArg Value.agg (extract_all _ 16 hCr17_2.size)) rfl hK'
      · obtain rfl := Option.some.inj ho
        obtain ⟨vp, hvp, rfl⟩ := hI.hq 2 _ 50 _ rfl rfl rfl (dp hdep 0 rfl rfl)
        obtain ⟨vq, hvq, rfl⟩ := hI.hq 3 _ 51 _ rfl rfl rfl (dp hdep 1 rfl rfl)
        exact hI.cq hD hls rfl rfl rfl 58 #[.tmp 50, .tmp 51] _ rfl #[.agg ar17_2, .agg ar17_2] (by simp [eval_of hvp, eval_of hvq]) (run_enter Tryd.func58 (by kernel_rfl) (by kernel_rfl)) (.like (IsC 16 RN [((fpw a e8I.toNat) * iF) * ((fpw a e8I.toNat) * iF)])) rfl rfl ((rMulE hCr17_2 hCr17_2).mono fun _ _ h => h.sq) hK'
      · obtain rfl := Option.some.inj ho
        obtain ⟨vp, hvp, ap, rfl, hCp⟩ := hI.hq 4 _ 52 _ rfl rfl rfl (dp hdep 0 rfl rfl)
        exact hI.cq hD hls rfl rfl rfl 88 #[.tmp 52] _ rfl #[.agg ap] (by simp [eval_of hvp]) (run_enter Tryd.func88 (by kernel_rfl) (by kernel_rfl)) (.val (.agg (numsA .u64 (canL (((fpw a e8I.toNat) * iF) * ((fpw a e8I.toNat) * iF)))))) rfl rfl ((canE _ hCp).mono fun _ _ h => ret_val h) hK'
      · obtain rfl := Option.some.inj ho
        have hvp : an.eval (.tmp 1) = ptrTo br0_0 := hI.oq (by kernel_rfl) rfl
        exact hI.pq hD hls rfl rfl rfl _ (run_loadQ rfl hvp wn (hI.upd.keepD Bxr0y0_s17_0).out Tryd.underlying45 rfl szN (by rw [hzr0_0.size]; exact Nat.le_of_ble_eq_true rfl)) (.val (.agg zr0_0)) rfl (congrArg Value.agg (extract_all _ 16 hzr0_0.size)) rfl hK'
      · obtain rfl := Option.some.inj ho
        obtain ⟨vp, hvp, rfl⟩ := hI.hq 6 _ 54 _ rfl rfl rfl (dp hdep 0 rfl rfl)
        exact hI.cq hD hls rfl rfl rfl 88 #[.tmp 54] _ rfl #[.agg zr0_0] (by simp [eval_of hvp]) (run_enter Tryd.func88 (by kernel_rfl) (by kernel_rfl)) (.val (.agg (numsA .u64 (canL a)))) rfl rfl ((canE _ hzr0_0).mono fun _ _ h => ret_val h) hK'
    intro fuel an w19 hf hI
    obtain ⟨vr18_0, hvr18_0, rfl⟩ := hI.hq 0 _ 48 _ rfl rfl rfl rfl
    obtain ⟨vr18_1, hvr18_1, rfl⟩ := hI.hq 1 _ 49 _ rfl rfl rfl rfl
    obtain ⟨vr18_2, hvr18_2, rfl⟩ := hI.hq 2 _ 50 _ rfl rfl rfl rfl
    obtain ⟨vr18_3, hvr18_3, rfl⟩ := hI.hq 3 _ 51 _ rfl rfl rfl rfl
    obtain ⟨vr18_4, hvr18_4, ar18_4, rfl, hCr18_4⟩ := hI.hq 4 _ 52 _ rfl rfl rfl rfl
    obtain ⟨vr18_5, hvr18_5, rfl⟩ := hI.hq 5 _ 53 _ rfl rfl rfl rfl
    obtain ⟨vr18_6, hvr18_6, rfl⟩ := hI.hq 6 _ 54 _ rfl rfl rfl rfl
    obtain ⟨vr18_7, hvr18_7, rfl⟩ := hI.hq 7 _ 55 _ rfl rfl rfl rfl
    have hupd := hI.upd
    have ha := hI.act [(48, .agg ar17_2), (49, .agg (numsA .u64 (canL ((fpw a e8I.toNat) * iF)))), (50, .agg ar17_2), (51, .agg ar17_2), (52, .agg ar18_4), (53, .agg (numsA .u64 (canL (((fpw a e8I.toNat) * iF) * ((fpw a e8I.toNat) * iF))))), (54, .agg zr0_0), (55, .agg (numsA .u64 (canL a)))] (by simp [hvr18_0, hvr18_1, hvr18_2, hvr18_3, hvr18_4, hvr18_5, hvr18_6, hvr18_7]) (by kernel_rfl)
    clear hI hvr18_0 hvr18_1 hvr18_2 hvr18_3 hvr18_4 hvr18_5 hvr18_6 hvr18_7
    subst ha
    simp only [List.foldl_cons, List.foldl_nil, List.setIfInBounds_toArray, List.set_cons_zero, List.set_cons_succ]
    have Bxr0y0_18 := hupd.keepD Bxr0y0_s17_0
    have Bxr0y1_18 := hupd.keepD Bxr0y1_s17_0
    have Bxr1y1_18 := hupd.keepD Bxr1y1_s17_0
    have Bxr15y3_18 := hupd.keepD Bxr15y3_s17_0
    have HU18 := hh (HU17_0.out.drew.trans hupd)
    clear hupd
    have hf0 : left #[true, true, true, true, true, true, true, true, false, false, false] 11 = 3 := by kernel_rfl
    have hf1 : left #[true, true, true, true, true, true, true, true, false, false, false] 11 ≤ fuel := hf
    obtain ⟨fu, rfl⟩ : ∃ fu, fuel = fu + 3 := ⟨fuel - 3, by omega⟩
    clear hf hf0 hf1
    refine wpAny_bothQ 8 9 (by decide) rfl rfl [8, 9] (by kernel_rfl) (.inl rfl) (by kernel_rfl) (by kernel_rfl) rfl rfl 56 rfl rfl (.bool (decide ((canL (((fpw a e8I.toNat) * iF) * ((fpw a e8I.toNat) * iF))) = (canL a)))) (fun _ => run_eqlN rfl rfl rfl rfl _) 45 (.tmp 2) (.tmp 49) rfl br0_1 0 16 rfl rfl (numsA .u64 (canL ((fpw a e8I.toNat) * iF))) rfl rfl 45 zr0_1 Bxr0y1_18.out szN (by rw [numsA_size]; exact (canL_length _)) (by rw [hzr0_1.size]; exact Nat.le_of_ble_eq_true rfl) (numsA_one _ _) ?_
    intro ws18_0 hs18_0 hus18_0
    rw [splice_all _ _ 16 hzr0_1.size (by rw [numsA_size]; exact (canL_length _))] at hs18_0
    have Bxr0y0_s18_0 := hus18_0.keepS Bxr0y0_18 (fun e => hner0_0_r0_1.out e)
    have Bxr1y1_s18_0 := hus18_0.keepS Bxr1y1_18 (fun e => hner1_1_Bxr0y1.out e)
    have Bxr15y3_s18_0 := hus18_0.keepS Bxr15y3_18 (fun e => hner15_3_Bxr0y1_14.out e)
    have Bxr0y1_s18_0 := hh hs18_0
    have HU18_0 := hh (HU18.out.step hus18_0 (fun i hi h => absurd hi (Nat.not_lt.2 (h.symm ▸ hger0_1.out))))
    clear hs18_0 hus18_0
    simp only [List.setIfInBounds_toArray, List.set_cons_zero, List.set_cons_succ]
    refine wpAny_pureQ 10 rfl (by kernel_rfl) rfl 3 rfl (.bool (decide ((canL (((fpw a e8I.toNat) * iF) * ((fpw a e8I.toNat) * iF))) = (canL a)))) (run_moveQ (x := .tmp 56) (v := .bool (decide ((canL (((fpw a e8I.toNat) * iF) * ((fpw a e8I.toNat) * iF))) = (canL a)))) (.inr rfl) rfl _) ?_
    simp only [List.setIfInBounds_toArray, List.set_cons_zero, List.set_cons_succ]
    refine wpAny_done (by kernel_rfl) ?_ _
    refine hK25 _ _ ?_
    clear hK25
    refine wp_ret ?_
    try dsimp only [Exit.then]
    try dsimp only [Exit.inBlock]
    exact bodyPost_ret (v := .tuple #[.agg (numsA .u64 (canL ((fpw a e8I.toNat) * iF))), .bool (decide ((canL (((fpw a e8I.toNat) * iF) * ((fpw a e8I.toNat) * iF))) = (canL a)))]) (results_cell_tmpQ (fn := Tryd.f65) (p := 2) (q := 3) (ty := 45) rfl _ _ br0_1 (numsA .u64 (canL ((fpw a e8I.toNat) * iF))) (.bool (decide ((canL (((fpw a e8I.toNat) * iF) * ((fpw a e8I.toNat) * iF))) = (canL a)))) rfl rfl Bxr0y1_s18_0.out Tryd.underlying45 rfl (by rw [numsA_size, (canL_length _)]; exact szN)) rfl ⟨by rw [rroot_n Hcd24.out, canL_inj], HU18_0.out⟩
  have Hcd26 := hh hcd
  clear hcd
  refine wp_skip ?_
  refine hK22 _ _ ?_
  clear hK22
  refine wp_seq_k fun K27 hK27 => ?_
  refine wp_region_qD #[true, true, true, true, true, true, true, true, false, false, false] ([.val (.agg ar15_2), .val (.agg (numsA .u64 (canL (fpw a e8I.toNat)))), .val (.agg ar15_2), .val (.agg ar15_2), .like (IsC 16 RN [(fpw a e8I.toNat) * (fpw a e8I.toNat)]), .val (.agg (numsA .u64 (canL ((fpw a e8I.toNat) * (fpw a e8I.toNat))))), .val (.agg zr0_0), .val (.agg (numsA .u64 (canL a))), .val undef, .val undef, .val undef] : List SQ) (by kernel_rfl) (by kernel_rfl) (by kernel_rfl) (by kernel_rfl) ?_ ?_
  · intro i o listed an wn ho hls hst hun hdep hI hD K' hK'
    rcases slot_cases (l := [0, 1, 2, 3, 4, 5, 6, 7]) rfl ho hst with rfl | rfl | rfl | rfl | rfl | rfl | rfl | rfl | ⟨⟨⟩⟩
    · obtain rfl := Option.some.inj ho
      have hvp : an.eval (.tmp 9) = ptrTo br15_3 := hI.oq (by kernel_rfl) rfl
      exact hI.pq hD hls rfl rfl rfl _ (run_loadQ rfl hvp wn (hI.upd.keepD Bxr15y3_16).out Tryd.underlying45 rfl szN (by rw [hCr15_2.size]; exact Nat.le_of_ble_eq_true rfl)) (.val (.agg ar15_2)) rfl (congrArg Value.agg (extract_all _ 16 hCr15_2.size)) rfl hK'
    · obtain rfl := Option.some.inj ho
      obtain ⟨vp, hvp, rfl⟩ := hI.hq 0 _ 48 _ rfl rfl rfl (dp hdep 0 rfl rfl)
      exact hI.cq hD hls rfl rfl rfl 88 #[.tmp 48] _ rfl #[.agg ar15_2] (by simp [eval_of hvp]) (run_enter Tryd.func88 (by kernel_rfl) (by kernel_rfl)) (.val (.agg (numsA .u64 (canL (fpw a e8I.toNat))))) rfl rfl ((canE _ hCr15_2).mono fun _ _ h => ret_val h) hK'
    · obtain rfl := Option.some.inj ho
      have hvp : an.eval (.tmp 9) = ptrTo br15_3 := hI.oq (by kernel_rfl) rfl
      exact hI.pq hD hls rfl rfl rfl _ (run_loadQ rfl hvp wn (hI.upd.keepD Bxr15y3_16).out Tryd.underlying45 rfl szN (by rw [hCr15_2.size]; exact Nat.le_of_ble_eq_true rfl)) (.val (.agg ar15_2)) rfl (congrArg Value.agg (extract_all _ 16 hCr15_2.size)) rfl hK'
    · obtain rfl := Option.some.inj ho
      have hvp : an.eval (.tmp 9) = ptrTo br15_3 := hI.oq (by kernel_rfl) rfl
      exact hI.pq hD hls rfl rfl rfl _ (run_loadQ rfl hvp wn (hI.upd.keepD Bxr15y3_16).out Tryd.underlying45 rfl szN (by rw [hCr15_2.size]; exact Nat.le_of_ble_eq_true rfl)) (.val (.agg ar15_2)) rfl (congrArg Value.agg (extract_all _ 16 hCr15_2.size)) rfl hK'
    · obtain rfl := Option.some.inj ho
      obtain ⟨vp, hvp, rfl⟩ := hI.hq 2 _ 50 _ rfl rfl rfl (dp hdep 0 rfl rfl)
      obtain ⟨vq, hvq, rfl⟩ := hI.hq 3 _ 51 _ rfl rfl rfl (dp hdep 1 rfl rfl)
      exact hI.cq hD hls rfl rfl rfl 58 #[.tmp 50, .tmp 51] _ rfl #[.agg ar15_2, .agg ar15_2] (by simp [eval_of hvp, eval_of hvq]) (run_enter Tryd.func58 (by kernel_rfl) (by kernel_rfl)) (.like (IsC 16 RN [(fpw a e8I.toNat) * (fpw a e8I.toNat)])) rfl rfl ((rMulE hCr15_2 hCr15_2).mono fun _ _ h => h.sq) hK'
    · obtain rfl := Option.some.inj ho
      obtain ⟨vp, hvp, ap, rfl, hCp⟩ := hI.hq 4 _ 52 _ rfl rfl rfl (dp hdep 0 rfl rfl)
      exact hI.cq hD hls rfl rfl rfl 88 #[.tmp 52] _ rfl #[.agg ap] (by simp [eval_of hvp]) (run_enter Tryd.func88 (by kernel_rfl) (by kernel_rfl)) (.val (.agg (numsA .u64 (canL ((fpw a e8I.toNat) * (fpw a e8I.toNat)))))) rfl rfl ((canE _ hCp).mono fun _ _ h => ret_val h) hK'
    · obtain rfl := Option.some.inj ho
      have hvp : an.eval (.tmp 1) = ptrTo br0_0 := hI.oq (by kernel_rfl) rfl
      exact hI.pq hD hls rfl rfl rfl _ (run_loadQ rfl hvp wn (hI.upd.keepD Bxr0y0_16).out Tryd.underlying45 rfl szN (by rw [hzr0_0.size]; exact Nat.le_of_ble_eq_true rfl)) (.val (.agg zr0_0)) rfl (congrArg Value.agg (extract_all _ 16 hzr0_0.size)) rfl hK'
    · obtain rfl := Option.some.inj ho
      obtain ⟨vp, hvp, rfl⟩ := hI.hq 6 _ 54 _ rfl rfl rfl (dp hdep 0 rfl rfl)
      exact hI.cq hD hls rfl rfl rfl 88 #[.tmp 54] _ rfl #[.agg zr0_0] (by simp [eval_of hvp]) (run_enter Tryd.func88 (by kernel_rfl) (by kernel_rfl)) (.val (.agg (numsA .u64 (canL a)))) rfl rfl ((canE _ hzr0_0).mono fun _ _ h => ret_val h) hK'
  intro fuel an w20 hf hI
  obtain ⟨vr19_0, hvr19_0, rfl⟩ := hI.hq 0 _ 48 _ rfl rfl rfl rfl
  obtain ⟨vr19_1, hvr19_1, rfl⟩ := hI.hq 1 _ 49 _ rfl rfl rfl rfl
  obtain ⟨vr19_2, hvr19_2, rfl⟩ := hI.hq 2 _ 50 _ rfl rfl rfl rfl
  obtain ⟨vr19_3, hvr19_3, rfl⟩ := hI.hq 3 _ 51 _ rfl rfl rfl rfl
  obtain ⟨vr19_4, hvr19_4, ar19_4, rfl, hCr19_4⟩ := hI.hq 4 _ 52 _ rfl rfl rfl rfl
  obtain ⟨vr19_5, hvr19_5, rfl⟩ := hI.hq 5 _ 53 _ rfl rfl rfl rfl
  obtain ⟨vr19_6, hvr19_6, rfl⟩ := hI.hq 6 _ 54 _ rfl rfl rfl rfl
  obtain ⟨vr19_7, hvr19_7, rfl⟩ := hI.hq 7 _ 55 _ rfl rfl rfl rfl
  have hupd := hI.upd
  have ha := hI.act [(48, .agg ar15_2), (49, .agg (numsA .u64 (canL (fpw a e8I.toNat)))), (50, .agg ar15_2), (51, .agg ar15_2), (52, .agg ar19_4), (53, .agg (numsA .u64 (canL ((fpw a e8I.toNat) * (fpw a e8I.toNat))))), (54, .agg zr0_0), (55, .agg (numsA .u64 (canL a)))] (by simp [hvr19_0, hvr19_1, hvr19_2, hvr19_3, hvr19_4, hvr19_5, hvr19_6, hvr19_7]) (by kernel_rfl)
  clear hI hvr19_0 hvr19_1 hvr19_2 hvr19_3 hvr19_4 hvr19_5 hvr19_6 hvr19_7
  subst ha
  simp only [List.foldl_cons, List.foldl_nil, List.setIfInBounds_toArray, List.set_cons_zero, List.set_cons_succ]
  have Bxr0y0_19 := hupd.keepD Bxr0y0_16
  have Bxr0y1_19 := hupd.keepD Bxr0y1_16
  have Bxr1y1_19 := hupd.keepD Bxr1y1_16
  have Bxr15y3_19 := hupd.keepD Bxr15y3_16
  have HU19 := hh (HU16.out.drew.trans hupd)
  clear hupd
  have hf0 : left #[true, true, true, true, true, true, true, true, false, false, false] 11 = 3 := by kernel_rfl
  have hf1 : left #[true, true, true, true, true, true, true, true, false, false, false] 11 ≤ fuel := hf
  obtain ⟨fu, rfl⟩ : ∃ fu, fuel = fu + 3 := ⟨fuel - 3, by omega⟩
  clear hf hf0 hf1
  refine wpAny_bothQ 8 9 (by decide) rfl rfl [8, 9] (by kernel_rfl) (.inl rfl) (by kernel_rfl) (by kernel_rfl) rfl rfl 56 rfl rfl (.bool (decide ((canL ((fpw a e8I.toNat) * (fpw a e8I.toNat))) = (canL a)))) (fun _ => run_eqlN rfl rfl rfl rfl _) 45 (.tmp 2) (.tmp 49) rfl br0_1 0 16 rfl rfl (numsA .u64 (canL (fpw a e8I.toNat))) rfl rfl 45 zr0_1 Bxr0y1_19.out szN (by rw [numsA_size]; exact (canL_length _)) (by rw [hzr0_1.size]; exact Nat.le_of_ble_eq_true rfl) (numsA_one _ _) ?_
  intro ws19_0 hs19_0 hus19_0
  rw [splice_all _ _ 16 hzr0_1.size (by rw [numsA_size]; exact (canL_length _))] at hs19_0
  have Bxr0y0_s19_0 := hus19_0.keepS Bxr0y0_19 (fun e => hner0_0_r0_1.out e)
  have Bxr1y1_s19_0 := hus19_0.keepS Bxr1y1_19 (fun e => hner1_1_Bxr0y1.out e)
  have Bxr15y3_s19_0 := hus19_0.keepS Bxr15y3_19 (fun e => hner15_3_Bxr0y1_14.out e)
  have Bxr0y1_s19_0 := hh hs19_0
  have HU19_0 := hh (HU19.out.step hus19_0 (fun i hi h => absurd hi (Nat.not_lt.2 (h.symm ▸ hger0_1.out))))
  clear hs19_0 hus19_0
  simp only [List.setIfInBounds_toArray, List.set_cons_zero, List.set_cons_succ]
  refine wpAny_pureQ 10 rfl (by kernel_rfl) rfl 3 rfl (.bool (decide ((canL ((fpw a e8I.toNat) * (fpw a e8I.toNat))) = (canL a)))) (run_moveQ (x := .tmp 56) (v := .bool (decide ((canL ((fpw a e8I.toNat) * (fpw a e8I.toNat))) = (canL a)))) (.inr rfl) rfl _) ?_
  simp only [List.setIfInBounds_toArray, List.set_cons_zero, List.set_cons_succ]
  refine wpAny_done (by kernel_rfl) ?_ _
  refine hK27 _ _ ?_
  clear hK27
  refine wp_ret ?_
  try dsimp only [Exit.then]
  try dsimp only [Exit.inBlock]
  exact bodyPost_ret (v := .tuple #[.agg (numsA .u64 (canL (fpw a e8I.toNat))), .bool (decide ((canL ((fpw a e8I.toNat) * (fpw a e8I.toNat))) = (canL a)))]) (results_cell_tmpQ (fn := Tryd.f65) (p := 2) (q := 3) (ty := 45) rfl _ _ br0_1 (numsA .u64 (canL (fpw a e8I.toNat))) (.bool (decide ((canL ((fpw a e8I.toNat) * (fpw a e8I.toNat))) = (canL a)))) rfl rfl Bxr0y1_s19_0.out Tryd.underlying45 rfl (by rw [numsA_size, (canL_length _)]; exact szN)) rfl ⟨by rw [rroot_y Hcd26.out, canL_inj], HU19_0.out⟩
end Go.Proofs.YtdpafemcpbhlfaaDoor
