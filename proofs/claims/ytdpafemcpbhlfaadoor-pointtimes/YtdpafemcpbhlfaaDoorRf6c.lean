/-
  The walk of the reference of layer 6: Decode.
-/
import Derived.Test.YtdpafemcpbhlfaaDoorRf6b
namespace Go.Proofs.YtdpafemcpbhlfaaDoor
set_option maxRecDepth 100000
open Go.RowKit

set_option maxHeartbeats 4000000 in
theorem rdecodeP {k : List Int} (w : World) (hl : k.length = 32) (hd : Digs 256 k) :
    Calls Tryd.prog 25 #[.agg (numsA .u8 k)] w (DecQ k w) := by
  have HU := hh (Upd.refl (fun _ => False) w)
  have hcan : 0 ≤ (canL (rrootF ((((ofKey (k.set 31 ((k.getD 31 0) % 128))) * (ofKey (k.set 31 ((k.getD 31 0) % 128)))) - (fv 1)) * (finv ((dC * ((ofKey (k.set 31 ((k.getD 31 0) % 128))) * (ofKey (k.set 31 ((k.getD 31 0) % 128))))) + (fv 1)))))).getD 0 0 := canL_nn _
  go_enter Tryd.func25, Tryd.ntmps25
  refine wp_seq_k fun K0 hK0 => ?_
  refine wp_region_qSD 3 #[true, true, true] [] ([.blk ptrTo 23 (fun z => z = numsA .u8 k), .blk ptrTo 47 (Ch 16 RN [0, 0, 0]), .val (.int .i64 0)] : List SQ) (by kernel_rfl) (by kernel_rfl) (by kernel_rfl) (by kernel_rfl) ?_ ?_
  · intro i o listed an wn ho hls hst hun hdep hI hD hpre K' hK'
    rcases slot_cases (l := [0, 1, 2]) rfl ho hst with rfl | rfl | rfl | ⟨⟨⟩⟩
    · obtain rfl := Option.some.inj ho
      have hvp : an.eval (.tmp 0) = .agg (numsA .u8 k) := hI.oq (by kernel_rfl) rfl
      exact hI.newQ hD hls (Nat.le_refl _) (newsQ_spec (l := [0, 1]) (by kernel_rfl) ⟨⟨_, _, rfl⟩, ⟨_, _, rfl⟩, trivial⟩) rfl rfl rfl 23 _ (fun z => z = numsA .u8 k) (run_boxQ rfl hvp wn) rfl rfl hK'
    · obtain rfl := Option.some.inj ho
      exact hI.newQ hD hls (Nat.le_refl _) (newsQ_spec (l := [0, 1]) (by kernel_rfl) ⟨⟨_, _, rfl⟩, ⟨_, _, rfl⟩, trivial⟩) rfl rfl rfl 47 zR6 _ (run_allocQ rfl zR6_run wn) rfl zR6_ch hK'
    · obtain rfl := Option.some.inj ho
      exact hI.pq hD hls rfl rfl rfl _ (run_moveQ (.inr rfl) (show an.eval (.const (.int .i64 0)) = .int .i64 0 from rfl) wn) (.val (.int .i64 0)) rfl rfl rfl hK'
  intro an w1 hI
  obtain ⟨vr0_0, hvr0_0, br0_0, zr0_0, rfl, hnr0_0, hbr0_0, hzr0_0⟩ := hI.hq 0 _ 1 _ rfl rfl rfl rfl
  rw [hzr0_0] at hbr0_0
  clear hzr0_0
  obtain ⟨vr0_1, hvr0_1, br0_1, zr0_1, rfl, hnr0_1, hbr0_1, hzr0_1⟩ := hI.hq 1 _ 2 _ rfl rfl rfl rfl
  obtain ⟨vr0_2, hvr0_2, rfl⟩ := hI.hq 2 _ 3 _ rfl rfl rfl rfl
  have hupd := hI.upd
  have hner0_0_r0_1 := hh (show br0_0 ≠ br0_1 from fun e => hI.apart 0 1 _ _ 1 2 (by omega) rfl rfl rfl rfl rfl rfl rfl rfl (by rw [hvr0_0, hvr0_1, e]))
  have ha := hI.act [(1, ptrTo br0_0), (2, ptrTo br0_1), (3, .int .i64 0)] (by simp [hvr0_0, hvr0_1, hvr0_2]) (by kernel_rfl)
  clear hI hvr0_0 hvr0_1 hvr0_2
  subst ha
  simp only [List.foldl_cons, List.foldl_nil, List.setIfInBounds_toArray, List.set_cons_zero, List.set_cons_succ]
  have hger0_0 := geB HU hnr0_0
  have hger0_1 := geB HU hnr0_1
  have Bxr0y0 := hh hbr0_0
  have Bxr0y1 := hh hbr0_1
  have HU0 := hh (HU.out.trans hupd)
  clear hupd
  refine wpOps_nil ?_
  refine hK0 _ _ ?_
  clear hK0
  refine wp_seq_k fun K1 hK1 => ?_
  refine wp_region_qSD 4 #[true, true, true, true] [] ([.val (.pointer (some ⟨br0_0, 0 + 31, none⟩)), .val (.int .u8 (k.getD 31 0)), .val (.bool (decide (128 ≤ (k.getD 31 0)))), .val (.bool (decide (128 ≤ (k.getD 31 0))))] : List SQ) (by kernel_rfl) (by kernel_rfl) (by kernel_rfl) (by kernel_rfl) ?_ ?_
  · intro i o listed an wn ho hls hst hun hdep hI hD hpre K' hK'
    rcases slot_cases (l := [0, 1, 2, 3]) rfl ho hst with rfl | rfl | rfl | rfl | ⟨⟨⟩⟩
    · obtain rfl := Option.some.inj ho
      have hvp : an.eval (.tmp 1) = ptrTo br0_0 := hI.oq (by kernel_rfl) rfl
      exact hI.pq hD hls rfl rfl rfl _ (run_adr (off := 0) (i := 31) rfl Tryd.underlying23 size5 hvp rfl (by omega) wn) (.val (.pointer (some ⟨br0_0, 0 + 31, none⟩))) rfl rfl rfl hK'
    · obtain rfl := Option.some.inj ho
      obtain ⟨vp, hvp, rfl⟩ := hI.hq 0 _ 9 _ rfl rfl rfl (dp hdep 0 rfl rfl)
      exact hI.pq hD hls rfl rfl rfl _ (run_cellQ rfl Tryd.underlying5 (eval_of hvp) wn (hI.upd.keep Bxr0y0).out (by rw [Nat.zero_add]; exact numsA_get _ _ _ (by rw [hl]; omega))) (.val (.int .u8 (k.getD 31 0))) rfl rfl rfl hK'
    · obtain rfl := Option.some.inj ho
      obtain ⟨vp, hvp, rfl⟩ := hI.hq 1 _ 10 _ rfl rfl rfl (dp hdep 0 rfl rfl)
      exact hI.pq hD hls rfl rfl rfl _ (run_geq rfl (eval_of hvp) rfl rfl wn) (.val (.bool (decide (128 ≤ (k.getD 31 0))))) rfl rfl rfl hK'
    · obtain rfl := Option.some.inj ho
      obtain ⟨vp, hvp, rfl⟩ := hI.hq 2 _ 11 _ rfl rfl rfl (dp hdep 0 rfl rfl)
      exact hI.pq hD hls rfl rfl rfl _ (run_moveQ (.inr rfl) (eval_of hvp) wn) (.val (.bool (decide (128 ≤ (k.getD 31 0))))) rfl rfl rfl hK'
  intro an w2 hI
  obtain ⟨vr1_0, hvr1_0, rfl⟩ := hI.hq 0 _ 9 _ rfl rfl rfl rfl
  obtain ⟨vr1_1, hvr1_1, rfl⟩ := hI.hq 1 _ 10 _ rfl rfl rfl rfl
  obtain ⟨vr1_2, hvr1_2, rfl⟩ := hI.hq 2 _ 11 _ rfl rfl rfl rfl
  obtain ⟨vr1_3, hvr1_3, rfl⟩ := hI.hq 3 _ 4 _ rfl rfl rfl rfl
  have hupd := hI.upd
  have ha := hI.act [(9, .pointer (some ⟨br0_0, 0 + 31, none⟩)), (10, .int .u8 (k.getD 31 0)), (11, .bool (decide (128 ≤ (k.getD 31 0)))), (4, .bool (decide (128 ≤ (k.getD 31 0))))] (by simp [hvr1_0, hvr1_1, hvr1_2, hvr1_3]) (by kernel_rfl)
  clear hI hvr1_0 hvr1_1 hvr1_2 hvr1_3
  subst ha
  simp only [List.foldl_cons, List.foldl_nil, List.setIfInBounds_toArray, List.set_cons_zero, List.set_cons_succ]
  have Bxr0y0_1 := hupd.keep Bxr0y0
  have Bxr0y1_1 := hupd.keep Bxr0y1
  have HU1 := hh (HU0.out.trans hupd)
  clear hupd
  refine wpOps_nil ?_
  refine hK1 _ _ ?_
  clear hK1
  refine wp_seq_k fun K2 hK2 => ?_
  refine wp_region_qSD 4 #[true, true, true, true, false] [4] ([.val (.pointer (some ⟨br0_0, 0 + 31, none⟩)), .val (.int .u8 (k.getD 31 0)), .val (.int .u8 ((k.getD 31 0) % 128)), .val (.pointer (some ⟨br0_0, 0 + 31, none⟩)), .val undef] : List SQ) (by kernel_rfl) (by kernel_rfl) (by kernel_rfl) (by kernel_rfl) ?_ ?_
  · intro i o listed an wn ho hls hst hun hdep hI hD hpre K' hK'
    rcases slot_cases (l := [0, 1, 2, 3]) rfl ho hst with rfl | rfl | rfl | rfl | ⟨⟨⟩⟩
    · obtain rfl := Option.some.inj ho
      have hvp : an.eval (.tmp 1) = ptrTo br0_0 := hI.oq (by kernel_rfl) rfl
      exact hI.pq hD hls rfl rfl rfl _ (run_adr (off := 0) (i := 31) rfl Tryd.underlying23 size5 hvp rfl (by omega) wn) (.val (.pointer (some ⟨br0_0, 0 + 31, none⟩))) rfl rfl rfl hK'
    · obtain rfl := Option.some.inj ho
      obtain ⟨vp, hvp, rfl⟩ := hI.hq 0 _ 12 _ rfl rfl rfl (dp hdep 0 rfl rfl)
      exact hI.pq hD hls rfl rfl rfl _ (run_cellQ rfl Tryd.underlying5 (eval_of hvp) wn (hI.upd.keep Bxr0y0_1).out (by rw [Nat.zero_add]; exact numsA_get _ _ _ (by rw [hl]; omega))) (.val (.int .u8 (k.getD 31 0))) rfl rfl rfl hK'
    · obtain rfl := Option.some.inj ho
      obtain ⟨vp, hvp, rfl⟩ := hI.hq 1 _ 13 _ rfl rfl rfl (dp hdep 0 rfl rfl)
      exact hI.pq hD hls rfl rfl rfl _ (run_rem rfl (eval_of hvp) rfl (by decide) (Int.tmod_eq_emod_of_nonneg (Digs.get (B := 256) (by decide) hd _).1) wn) (.val (.int .u8 ((k.getD 31 0) % 128))) rfl rfl rfl hK'
    · obtain rfl := Option.some.inj ho
      have hvp : an.eval (.tmp 1) = ptrTo br0_0 := hI.oq (by kernel_rfl) rfl
      exact hI.pq hD hls rfl rfl rfl _ (run_adr (off := 0) (i := 31) rfl Tryd.underlying23 size5 hvp rfl (by omega) wn) (.val (.pointer (some ⟨br0_0, 0 + 31, none⟩))) rfl rfl rfl hK'
  intro an w3 hI
  obtain ⟨vr2_0, hvr2_0, rfl⟩ := hI.hq 0 _ 12 _ rfl rfl rfl rfl
  obtain ⟨vr2_1, hvr2_1, rfl⟩ := hI.hq 1 _ 13 _ rfl rfl rfl rfl
  obtain ⟨vr2_2, hvr2_2, rfl⟩ := hI.hq 2 _ 14 _ rfl rfl rfl rfl
  obtain ⟨vr2_3, hvr2_3, rfl⟩ := hI.hq 3 _ 15 _ rfl rfl rfl rfl
  have hupd := hI.upd
  have ha := hI.act [(12, .pointer (some ⟨br0_0, 0 + 31, none⟩)), (13, .int .u8 (k.getD 31 0)), (14, .int .u8 ((k.getD 31 0) % 128)), (15, .pointer (some ⟨br0_0, 0 + 31, none⟩))] (by simp [hvr2_0, hvr2_1, hvr2_2, hvr2_3]) (by kernel_rfl)
  clear hI hvr2_0 hvr2_1 hvr2_2 hvr2_3
  subst ha
  simp only [List.foldl_cons, List.foldl_nil, List.setIfInBounds_toArray, List.set_cons_zero, List.set_cons_succ]
  have Bxr0y0_2 := hupd.keep Bxr0y0_1
  have Bxr0y1_2 := hupd.keep Bxr0y1_1
  have HU2 := hh (HU1.out.trans hupd)
  clear hupd
  refine wpOps_storeB 4 rfl rfl rfl 5 (.tmp 15) (.tmp 14) rfl size5 br0_0 (0 + 31) rfl ((k.getD 31 0) % 128) rfl 23 k Bxr0y0_2.out (by rw [hl]; omega) ?_
  rw [Nat.zero_add]
  intro ws2_0 hs2_0 hus2_0
  have Bxr0y1_s2_0 := hus2_0.keepS Bxr0y1_2 (fun e => hner0_0_r0_1.out e.symm)
  have Bxr0y0_s2_0 := hh hs2_0
  have HU2_0 := hh (HU2.out.step hus2_0 (fun i hi h => absurd hi (Nat.not_lt.2 (h.symm ▸ hger0_0.out))))
  clear hs2_0 hus2_0
  refine wpOps_nil ?_
  refine hK2 _ _ ?_
  clear hK2
  refine wp_seq_k fun K3 hK3 => ?_
  refine wp_region_qSD 3 #[true, true, true, false] [3] ([.val (.agg (numsA .u8 (k.set 31 ((k.getD 31 0) % 128)))), .like (IsC 16 RN [ofKey (k.set 31 ((k.getD 31 0) % 128))]), .blk ptrTo 45 (Ch 16 RN [0]), .val undef] : List SQ) (by kernel_rfl) (by kernel_rfl) (by kernel_rfl) (by kernel_rfl) ?_ ?_
  · intro i o listed an wn ho hls hst hun hdep hI hD hpre K' hK'
    rcases slot_cases (l := [0, 1, 2]) rfl ho hst with rfl | rfl | rfl | ⟨⟨⟩⟩
    · obtain rfl := Option.some.inj ho
      have hvp : an.eval (.tmp 1) = ptrTo br0_0 := hI.oq (by kernel_rfl) rfl
      exact hI.pq hD hls rfl rfl rfl _ (run_loadQ rfl hvp wn (hI.upd.keep Bxr0y0_s2_0).out Tryd.underlying23 rfl sizeKey (by rw [numsA_size, (set_length hl _ _)]; omega)) (.val (.agg (numsA .u8 (k.set 31 ((k.getD 31 0) % 128))))) rfl (congrArg Value.agg (extract_all _ 32 (by rw [numsA_size]; exact (set_length hl _ _)))) rfl hK'
    · obtain rfl := Option.some.inj ho
      obtain ⟨vp, hvp, rfl⟩ := hI.hq 0 _ 16 _ rfl rfl rfl (dp hdep 0 rfl rfl)
      exact hI.cq hD hls rfl rfl rfl 53 #[.tmp 16] _ rfl #[.agg (numsA .u8 (k.set 31 ((k.getD 31 0) % 128)))] (by simp [eval_of hvp]) (run_enter Tryd.func53 (by kernel_rfl) (by kernel_rfl)) (.like (IsC 16 RN [ofKey (k.set 31 ((k.getD 31 0) % 128))])) rfl rfl ((rOfE (k.set 31 ((k.getD 31 0) % 128)) ((set_length hl _ _)) ((digs_set hd _ _ (rem8_bnd 128 (by decide) (Digs.get (B := 256) (by decide) hd _)).1 (rem8_bnd 128 (by decide) (Digs.get (B := 256) (by decide) hd _)).2))).mono fun _ _ h => h.sq) hK'
    · obtain rfl := Option.some.inj ho
      exact hI.newQ hD hls (Nat.le_refl _) (newsQ_spec (l := [2]) (by kernel_rfl) ⟨⟨_, _, rfl⟩, trivial⟩) rfl rfl rfl 45 zeroN _ (run_allocQ rfl zN_run wn) rfl zN_ch hK'
  intro an w4 hI
  obtain ⟨vr3_0, hvr3_0, rfl⟩ := hI.hq 0 _ 16 _ rfl rfl rfl rfl
  obtain ⟨vr3_1, hvr3_1, ar3_1, rfl, hCr3_1⟩ := hI.hq 1 _ 17 _ rfl rfl rfl rfl
  obtain ⟨vr3_2, hvr3_2, br3_2, zr3_2, rfl, hnr3_2, hbr3_2, hzr3_2⟩ := hI.hq 2 _ 5 _ rfl rfl rfl rfl
  have hupd := hI.upd
  have ha := hI.act [(16, .agg (numsA .u8 (k.set 31 ((k.getD 31 0) % 128)))), (17, .agg ar3_1), (5, ptrTo br3_2)] (by simp [hvr3_0, hvr3_1, hvr3_2]) (by kernel_rfl)
  clear hI hvr3_0 hvr3_1 hvr3_2
  subst ha
  simp only [List.foldl_cons, List.foldl_nil, List.setIfInBounds_toArray, List.set_cons_zero, List.set_cons_succ]
  have hner3_2_Bxr0y0_s2_0 := apartB Bxr0y0_s2_0 hnr3_2
  have hner3_2_Bxr0y1_s2_0 := apartB Bxr0y1_s2_0 hnr3_2
  have hger3_2 := geB HU2_0 hnr3_2
  have Bxr0y0_3 := hupd.keep Bxr0y0_s2_0
  have Bxr0y1_3 := hupd.keep Bxr0y1_s2_0
  have Bxr3y2 := hh hbr3_2
  have HU3 := hh (HU2_0.out.trans hupd)
  clear hupd
  refine wpOps_storeQ 3 rfl rfl rfl 45 (.tmp 5) (.tmp 17) rfl br3_2 0 16 rfl ar3_1 rfl 45 zr3_2 Bxr3y2.out szN hCr3_1.size (by rw [hzr3_2.size]; exact Nat.le_of_ble_eq_true rfl) hCr3_1.one' ?_
  intro ws3_0 hs3_0 hus3_0
  rw [splice_all _ _ 16 hzr3_2.size hCr3_1.size] at hs3_0
  have Bxr0y0_s3_0 := hus3_0.keepS Bxr0y0_3 (fun e => hner3_2_Bxr0y0_s2_0.out e.symm)
  have Bxr0y1_s3_0 := hus3_0.keepS Bxr0y1_3 (fun e => hner3_2_Bxr0y1_s2_0.out e.symm)
  have Bxr3y2_s3_0 := hh hs3_0
  have HU3_0 := hh (HU3.out.step hus3_0 (fun i hi h => absurd hi (Nat.not_lt.2 (h.symm ▸ hger3_2.out))))
  clear hs3_0 hus3_0
  refine wpOps_nil ?_
  refine hK3 _ _ ?_
  clear hK3
  refine wp_seq_k fun K4 hK4 => ?_
  refine wp_seq_k fun K5 hK5 => ?_
  refine wp_region_qD #[true, true, true, true] ([.val (.agg ar3_1), .val (.agg (numsA .u8 (keyOf (ofKey (k.set 31 ((k.getD 31 0) % 128)))))), .val (.agg (numsA .u8 (k.set 31 ((k.getD 31 0) % 128)))), .val (.bool (!(decide ((keyOf (ofKey (k.set 31 ((k.getD 31 0) % 128)))) = (k.set 31 ((k.getD 31 0) % 128))))))] : List SQ) (by kernel_rfl) (by kernel_rfl) (by kernel_rfl) (by kernel_rfl) ?_ ?_
  · intro i o listed an wn ho hls hst hun hdep hI hD K' hK'
    rcases slot_cases (l := [0, 1, 2, 3]) rfl ho hst with rfl | rfl | rfl | rfl | ⟨⟨⟩⟩
    · obtain rfl := Option.some.inj ho
      have hvp : an.eval (.tmp 5) = ptrTo br3_2 := hI.oq (by kernel_rfl) rfl
      exact hI.pq hD hls rfl rfl rfl _ (run_loadQ rfl hvp wn (hI.upd.keepD Bxr3y2_s3_0).out Tryd.underlying45 rfl szN (by rw [hCr3_1.size]; exact Nat.le_of_ble_eq_true rfl)) (.val (.agg ar3_1)) rfl (congrArg Value.agg (extract_all _ 16 hCr3_1.size)) rfl hK'
    · obtain rfl := Option.some.inj ho
      obtain ⟨vp, hvp, rfl⟩ := hI.hq 0 _ 18 _ rfl rfl rfl (dp hdep 0 rfl rfl)
      exact hI.cq hD hls rfl rfl rfl 57 #[.tmp 18] _ rfl #[.agg ar3_1] (by simp [eval_of hvp]) (run_enter Tryd.func57 (by kernel_rfl) (by kernel_rfl)) (.val (.agg (numsA .u8 (keyOf (ofKey (k.set 31 ((k.getD 31 0) % 128))))))) rfl rfl ((rBytesE hCr3_1).mono fun _ _ h => ret_val h) hK'
    · obtain rfl := Option.some.inj ho
      have hvp : an.eval (.tmp 1) = ptrTo br0_0 := hI.oq (by kernel_rfl) rfl
      exact hI.pq hD hls rfl rfl rfl _ (run_loadQ rfl hvp wn (hI.upd.keepD Bxr0y0_s3_0).out Tryd.underlying23 rfl sizeKey (by rw [numsA_size, (set_length hl _ _)]; omega)) (.val (.agg (numsA .u8 (k.set 31 ((k.getD 31 0) % 128))))) rfl (congrArg Value.agg (extract_all _ 32 (by rw [numsA_size]; exact (set_length hl _ _)))) rfl hK'
    · obtain rfl := Option.some.inj ho
      obtain ⟨vp, hvp, rfl⟩ := hI.hq 1 _ 19 _ rfl rfl rfl (dp hdep 0 rfl rfl)
      obtain ⟨vq, hvq, rfl⟩ := hI.hq 2 _ 20 _ rfl rfl rfl (dp hdep 1 rfl rfl)
      exact hI.pq hD hls rfl rfl rfl _ (run_neqK rfl (eval_of hvp) (eval_of hvq) (keyOf_length _) (set_length hl _ _) (Bool.not_not _).symm wn) (.val (.bool (!(decide ((keyOf (ofKey (k.set 31 ((k.getD 31 0) % 128)))) = (k.set 31 ((k.getD 31 0) % 128))))))) rfl rfl rfl hK'
  intro fuel an w5 hf hI
  obtain ⟨vr4_0, hvr4_0, rfl⟩ := hI.hq 0 _ 18 _ rfl rfl rfl rfl
  obtain ⟨vr4_1, hvr4_1, rfl⟩ := hI.hq 1 _ 19 _ rfl rfl rfl rfl
  obtain ⟨vr4_2, hvr4_2, rfl⟩ := hI.hq 2 _ 20 _ rfl rfl rfl rfl
  obtain ⟨vr4_3, hvr4_3, rfl⟩ := hI.hq 3 _ 21 _ rfl rfl rfl rfl
  have hupd := hI.upd
  have ha := hI.act [(18, .agg ar3_1), (19, .agg (numsA .u8 (keyOf (ofKey (k.set 31 ((k.getD 31 0) % 128)))))), (20, .agg (numsA .u8 (k.set 31 ((k.getD 31 0) % 128)))), (21, .bool (!(decide ((keyOf (ofKey (k.set 31 ((k.getD 31 0) % 128)))) = (k.set 31 ((k.getD 31 0) % 128))))))] (by simp [hvr4_0, hvr4_1, hvr4_2, hvr4_3]) (by kernel_rfl)
  clear hI hvr4_0 hvr4_1 hvr4_2 hvr4_3
  subst ha
  simp only [List.foldl_cons, List.foldl_nil, List.setIfInBounds_toArray, List.set_cons_zero, List.set_cons_succ]
  have Bxr0y0_4 := hupd.keepD Bxr0y0_s3_0
  have Bxr0y1_4 := hupd.keepD Bxr0y1_s3_0
  have Bxr3y2_4 := hupd.keepD Bxr3y2_s3_0
  have HU4 := hh (HU3_0.out.drew.trans hupd)
  clear hupd
  refine wpAny_done (by kernel_rfl) ?_ _
  refine hK5 _ _ ?_
  clear hK5
  refine wp_cond_split (t := (!(decide ((keyOf (ofKey (k.set 31 ((k.getD 31 0) % 128)))) = (k.set 31 ((k.getD 31 0) % 128)))))) rfl (fun hcd => ?_) (fun hcd => ?_)
  · have Hcd6 := hh hcd
    clear hcd
    refine wp_seq_k fun K7 hK7 => ?_
    refine wp_region_qSD 1 #[true, false, false] [1, 2] ([.val (.agg zR6), .val undef, .val undef] : List SQ) (by kernel_rfl) (by kernel_rfl) (by kernel_rfl) (by kernel_rfl) ?_ ?_
    · intro i o listed an wn ho hls hst hun hdep hI hD hpre K' hK'
      rcases slot_cases (l := [0]) rfl ho hst with rfl | ⟨⟨⟩⟩
      · obtain rfl := Option.some.inj ho
        exact hI.pq hD hls rfl rfl rfl _ (run_buildR60 rfl wn) (.val (.agg zR6)) rfl rfl rfl hK'
    intro an w6 hI
    obtain ⟨vr5_0, hvr5_0, rfl⟩ := hI.hq 0 _ 22 _ rfl rfl rfl rfl
    have hupd := hI.upd
    have ha := hI.act [(22, .agg zR6)] (by simp [hvr5_0]) (by kernel_rfl)
    clear hI hvr5_0
    subst ha
    simp only [List.foldl_cons, List.foldl_nil, List.setIfInBounds_toArray, List.set_cons_zero, List.set_cons_succ]
    have Bxr0y0_5 := hupd.keep Bxr0y0_4
    have Bxr0y1_5 := hupd.keep Bxr0y1_4
    have Bxr3y2_5 := hupd.keep Bxr3y2_4
    have HU5 := hh (HU4.out.trans hupd)
    clear hupd
    refine wpOps_storeQ 1 rfl rfl rfl 47 (.tmp 2) (.tmp 22) rfl br0_1 0 48 rfl zR6 rfl 47 zr0_1 Bxr0y1_5.out szR6 zR6_ch.size (by rw [hzr0_1.size]; exact Nat.le_of_ble_eq_true rfl) zR6_ch.one' ?_
    intro ws5_0 hs5_0 hus5_0
    rw [splice_all _ _ 48 hzr0_1.size zR6_ch.size] at hs5_0
    have Bxr0y0_s5_0 := hus5_0.keepS Bxr0y0_5 (fun e => hner0_0_r0_1.out e)
    have Bxr3y2_s5_0 := hus5_0.keepS Bxr3y2_5 (fun e => hner3_2_Bxr0y1_s2_0.out e)
    have Bxr0y1_s5_0 := hh hs5_0
    have HU5_0 := hh (HU5.out.step hus5_0 (fun i hi h => absurd hi (Nat.not_lt.2 (h.symm ▸ hger0_1.out))))
    clear hs5_0 hus5_0
    refine wpOps_pureQ 2 rfl rfl 3 rfl (.int .i64 60) (run_moveQ (x := .const (.int .i64 60)) (v := .int .i64 60) (.inr rfl) rfl _) ?_
    simp only [List.setIfInBounds_toArray, List.set_cons_zero, List.set_cons_succ]
    refine wpOps_nil ?_
    refine hK7 _ _ ?_
    clear hK7
    refine wp_ret ?_
    try dsimp only [Exit.then]
    try dsimp only [Exit.inBlock]
    exact bodyPost_ret (v := .tuple #[.agg zR6, .int .i64 60]) (results_cell_tmpQ (fn := Tryd.f25) (p := 2) (q := 3) (ty := 47) rfl _ _ br0_1 zR6 (.int .i64 60) rfl rfl Bxr0y1_s5_0.out Tryd.underlying47 rfl (by rw [zR6_ch.size]; exact szR6)) rfl ⟨_, .inl ⟨rfl, zR6_ch, qA Hcd6.out⟩, HU5_0.out⟩
  have Hcd8 := hh hcd
  clear hcd
  refine wp_skip ?_
  refine hK4 _ _ ?_
  clear hK4
  refine wp_seq_k fun K9 hK9 => ?_
  refine wp_region_qSD 4 #[true, true, true, true, false] [4] ([.val (.agg ar3_1), .val (.agg ar3_1), .like (IsC 16 RN [(ofKey (k.set 31 ((k.getD 31 0) % 128))) * (ofKey (k.set 31 ((k.getD 31 0) % 128)))]), .blk ptrTo 45 (Ch 16 RN [0]), .val undef] : List SQ) (by kernel_rfl) (by kernel_rfl) (by kernel_rfl) (by kernel_rfl) ?_ ?_
  · intro i o listed an wn ho hls hst hun hdep hI hD hpre K' hK'
    rcases slot_cases (l := [0, 1, 2, 3]) rfl ho hst with rfl | rfl | rfl | rfl | ⟨⟨⟩⟩
    · obtain rfl := Option.some.inj ho
      have hvp : an.eval (.tmp 5) = ptrTo br3_2 := hI.oq (by kernel_rfl) rfl
      exact hI.pq hD hls rfl rfl rfl _ (run_loadQ rfl hvp wn (hI.upd.keep Bxr3y2_4).out Tryd.underlying45 rfl szN (by rw [hCr3_1.size]; exact Nat.le_of_ble_eq_true rfl)) (.val (.agg ar3_1)) rfl (congrArg Value.agg (extract_all _ 16 hCr3_1.size)) rfl hK'
    · obtain rfl := Option.some.inj ho
      have hvp : an.eval (.tmp 5) = ptrTo br3_2 := hI.oq (by kernel_rfl) rfl
      exact hI.pq hD hls rfl rfl rfl _ (run_loadQ rfl hvp wn (hI.upd.keep Bxr3y2_4).out Tryd.underlying45 rfl szN (by rw [hCr3_1.size]; exact Nat.le_of_ble_eq_true rfl)) (.val (.agg ar3_1)) rfl (congrArg Value.agg (extract_all _ 16 hCr3_1.size)) rfl hK'
    · obtain rfl := Option.some.inj ho
      obtain ⟨vp, hvp, rfl⟩ := hI.hq 0 _ 23 _ rfl rfl rfl (dp hdep 0 rfl rfl)
      obtain ⟨vq, hvq, rfl⟩ := hI.hq 1 _ 24 _ rfl rfl rfl (dp hdep 1 rfl rfl)
      exact hI.cq hD hls rfl rfl rfl 58 #[.tmp 23, .tmp 24] _ rfl #[.agg ar3_1, .agg ar3_1] (by simp [eval_of hvp, eval_of hvq]) (run_enter Tryd.func58 (by kernel_rfl) (by kernel_rfl)) (.like (IsC 16 RN [(ofKey (k.set 31 ((k.getD 31 0) % 128))) * (ofKey (k.set 31 ((k.getD 31 0) % 128)))])) rfl rfl ((rMulE hCr3_1 hCr3_1).mono fun _ _ h => h.sq) hK'
    · obtain rfl := Option.some.inj ho
      exact hI.newQ hD hls (Nat.le_refl _) (newsQ_spec (l := [3]) (by kernel_rfl) ⟨⟨_, _, rfl⟩, trivial⟩) rfl rfl rfl 45 zeroN _ (run_allocQ rfl zN_run wn) rfl zN_ch hK'
  intro an w7 hI
  obtain ⟨vr6_0, hvr6_0, rfl⟩ := hI.hq 0 _ 23 _ rfl rfl rfl rfl
  obtain ⟨vr6_1, hvr6_1, rfl⟩ := hI.hq 1 _ 24 _ rfl rfl rfl rfl
  obtain ⟨vr6_2, hvr6_2, ar6_2, rfl, hCr6_2⟩ := hI.hq 2 _ 25 _ rfl rfl rfl rfl
  obtain ⟨vr6_3, hvr6_3, br6_3, zr6_3, rfl, hnr6_3, hbr6_3, hzr6_3⟩ := hI.hq 3 _ 6 _ rfl rfl rfl rfl
  have hupd := hI.upd
  have ha := hI.act [(23, .agg ar3_1), (24, .agg ar3_1), (25, .agg ar6_2), (6, ptrTo br6_3)] (by simp [hvr6_0, hvr6_1, hvr6_2, hvr6_3]) (by kernel_rfl)
  clear hI hvr6_0 hvr6_1 hvr6_2 hvr6_3
  subst ha
  simp only [List.foldl_cons, List.foldl_nil, List.setIfInBounds_toArray, List.set_cons_zero, List.set_cons_succ]
  have hner6_3_Bxr0y0_4 := apartB Bxr0y0_4 hnr6_3
  have hner6_3_Bxr0y1_4 := apartB Bxr0y1_4 hnr6_3
  have hner6_3_Bxr3y2_4 := apartB Bxr3y2_4 hnr6_3
  have hger6_3 := geB HU4 hnr6_3
  have Bxr0y0_6 := hupd.keep Bxr0y0_4
  have Bxr0y1_6 := hupd.keep Bxr0y1_4
  have Bxr3y2_6 := hupd.keep Bxr3y2_4
  have Bxr6y3 := hh hbr6_3
  have HU6 := hh (HU4.out.trans hupd)
  clear hupd
  refine wpOps_storeQ 4 rfl rfl rfl 45 (.tmp 6) (.tmp 25) rfl br6_3 0 16 rfl ar6_2 rfl 45 zr6_3 Bxr6y3.out szN hCr6_2.size (by rw [hzr6_3.size]; exact Nat.le_of_ble_eq_true rfl) hCr6_2.one' ?_
  intro ws6_0 hs6_0 hus6_0
  rw [splice_all _ _ 16 hzr6_3.size hCr6_2.size] at hs6_0
  have Bxr0y0_s6_0 := hus6_0.keepS Bxr0y0_6 (fun e => hner6_3_Bxr0y0_4.out e.symm)
  have Bxr0y1_s6_0 := hus6_0.keepS Bxr0y1_6 (fun e => hner6_3_Bxr0y1_4.out e.symm)
  have Bxr3y2_s6_0 := hus6_0.keepS Bxr3y2_6 (fun e => hner6_3_Bxr3y2_4.out e.symm)
  have Bxr6y3_s6_0 := hh hs6_0
  have HU6_0 := hh (HU6.out.step hus6_0 (fun i hi h => absurd hi (Nat.not_lt.2 (h.symm ▸ hger6_3.out))))
  clear hs6_0 hus6_0
  refine wpOps_nil ?_
  refine hK9 _ _ ?_
  clear hK9
  refine wp_seq_k fun K10 hK10 => ?_
  refine wp_region_r #[true, true, true, true, true, true, true, true, true, true, true, true, true, true, true, true, true] ([.val (.agg ar6_2), .like (IsC 16 RN [fv 1]), .like (IsC 16 RN [((ofKey (k.set 31 ((k.getD 31 0) % 128))) * (ofKey (k.set 31 ((k.getD 31 0) % 128)))) - (fv 1)]), .like (IsC 16 RN [dC]), .val (.agg ar6_2), .like (IsC 16 RN [dC * ((ofKey (k.set 31 ((k.getD 31 0) % 128))) * (ofKey (k.set 31 ((k.getD 31 0) % 128))))]), .like (IsC 16 RN [fv 1]), .like (IsC 16 RN [(dC * ((ofKey (k.set 31 ((k.getD 31 0) % 128))) * (ofKey (k.set 31 ((k.getD 31 0) % 128))))) + (fv 1)]), .like (IsC 16 RN [finv ((dC * ((ofKey (k.set 31 ((k.getD 31 0) % 128))) * (ofKey (k.set 31 ((k.getD 31 0) % 128))))) + (fv 1))]), .like (IsC 16 RN [(((ofKey (k.set 31 ((k.getD 31 0) % 128))) * (ofKey (k.set 31 ((k.getD 31 0) % 128)))) - (fv 1)) * (finv ((dC * ((ofKey (k.set 31 ((k.getD 31 0) % 128))) * (ofKey (k.set 31 ((k.getD 31 0) % 128))))) + (fv 1)))]), .val (.tuple #[.agg (numsA .u64 (canL (rrootF ((((ofKey (k.set 31 ((k.getD 31 0) % 128))) * (ofKey (k.set 31 ((k.getD 31 0) % 128)))) - (fv 1)) * (finv ((dC * ((ofKey (k.set 31 ((k.getD 31 0) % 128))) * (ofKey (k.set 31 ((k.getD 31 0) % 128))))) + (fv 1))))))), .bool (decide ((rrootF ((((ofKey (k.set 31 ((k.getD 31 0) % 128))) * (ofKey (k.set 31 ((k.getD 31 0) % 128)))) - (fv 1)) * (finv ((dC * ((ofKey (k.set 31 ((k.getD 31 0) % 128))) * (ofKey (k.set 31 ((k.getD 31 0) % 128))))) + (fv 1))))) * (rrootF ((((ofKey (k.set 31 ((k.getD 31 0) % 128))) * (ofKey (k.set 31 ((k.getD 31 0) % 128)))) - (fv 1)) * (finv ((dC * ((ofKey (k.set 31 ((k.getD 31 0) % 128))) * (ofKey (k.set 31 ((k.getD 31 0) % 128))))) + (fv 1))))) = ((((ofKey (k.set 31 ((k.getD 31 0) % 128))) * (ofKey (k.set 31 ((k.getD 31 0) % 128)))) - (fv 1)) * (finv ((dC * ((ofKey (k.set 31 ((k.getD 31 0) % 128))) * (ofKey (k.set 31 ((k.getD 31 0) % 128))))) + (fv 1))))))]), .val (.tuple #[.agg (numsA .u64 (canL (rrootF ((((ofKey (k.set 31 ((k.getD 31 0) % 128))) * (ofKey (k.set 31 ((k.getD 31 0) % 128)))) - (fv 1)) * (finv ((dC * ((ofKey (k.set 31 ((k.getD 31 0) % 128))) * (ofKey (k.set 31 ((k.getD 31 0) % 128))))) + (fv 1))))))), .bool (decide ((rrootF ((((ofKey (k.set 31 ((k.getD 31 0) % 128))) * (ofKey (k.set 31 ((k.getD 31 0) % 128)))) - (fv 1)) * (finv ((dC * ((ofKey (k.set 31 ((k.getD 31 0) % 128))) * (ofKey (k.set 31 ((k.getD 31 0) % 128))))) + (fv 1))))) * (rrootF ((((ofKey (k.set 31 ((k.getD 31 0) % 128))) * (ofKey (k.set 31 ((k.getD 31 0) % 128)))) - (fv 1)) * (finv ((dC * ((ofKey (k.set 31 ((k.getD 31 0) % 128))) * (ofKey (k.set 31 ((k.getD 31 0) % 128))))) + (fv 1))))) = ((((ofKey (k.set 31 ((k.getD 31 0) % 128))) * (ofKey (k.set 31 ((k.getD 31 0) % 128)))) - (fv 1)) * (finv ((dC * ((ofKey (k.set 31 ((k.getD 31 0) % 128))) * (ofKey (k.set 31 ((k.getD 31 0) % 128))))) + (fv 1))))))]), .val (.agg (numsA .u64 (canL (rrootF ((((ofKey (k.set 31 ((k.getD 31 0) % 128))) * (ofKey (k.set 31 ((k.getD 31 0) % 128)))) - (fv 1)) * (finv ((dC * ((ofKey (k.set 31 ((k.getD 31 0) % 128))) * (ofKey (k.set 31 ((k.getD 31 0) % 128))))) + (fv 1)))))))), .val (.bool (decide ((rrootF ((((ofKey (k.set 31 ((k.getD 31 0) % 128))) * (ofKey (k.set 31 ((k.getD 31 0) % 128)))) - (fv 1)) * (finv ((dC * ((ofKey (k.set 31 ((k.getD 31 0) % 128))) * (ofKey (k.set 31 ((k.getD 31 0) % 128))))) + (fv 1))))) * (rrootF ((((ofKey (k.set 31 ((k.getD 31 0) % 128))) * (ofKey (k.set 31 ((k.getD 31 0) % 128)))) - (fv 1)) * (finv ((dC * ((ofKey (k.set 31 ((k.getD 31 0) % 128))) * (ofKey (k.set 31 ((k.getD 31 0) % 128))))) + (fv 1))))) = ((((ofKey (k.set 31 ((k.getD 31 0) % 128))) * (ofKey (k.set 31 ((k.getD 31 0) % 128)))) - (fv 1)) * (finv ((dC * ((ofKey (k.set 31 ((k.getD 31 0) % 128))) * (ofKey (k.set 31 ((k.getD 31 0) % 128))))) + (fv 1))))))), .new 45 16, .val undef, .val (.bool (decide ((rrootF ((((ofKey (k.set 31 ((k.getD 31 0) % 128))) * (ofKey (k.set 31 ((k.getD 31 0) % 128)))) - (fv 1)) * (finv ((dC * ((ofKey (k.set 31 ((k.getD 31 0) % 128))) * (ofKey (k.set 31 ((k.getD 31 0) % 128))))) + (fv 1))))) * (rrootF ((((ofKey (k.set 31 ((k.getD 31 0) % 128))) * (ofKey (k.set 31 ((k.getD 31 0) % 128)))) - (fv 1)) * (finv ((dC * ((ofKey (k.set 31 ((k.getD 31 0) % 128))) * (ofKey (k.set 31 ((k.getD 31 0) % 128))))) + (fv 1))))) = ((((ofKey (k.set 31 ((k.getD 31 0) % 128))) * (ofKey (k.set 31 ((k.getD 31 0) % 128)))) - (fv 1)) * (finv ((dC * ((ofKey (k.set 31 ((k.getD 31 0) % 128))) * (ofKey (k.set 31 ((k.getD 31 0) % 128))))) + (fv 1)))))))] : List SR) ([none, none, none, none, none, none, none, none, none, none, none, none, none, none, none, some ⟨7, 14, 45, fun z => z = numsA .u64 (canL (rrootF ((((ofKey (k.set 31 ((k.getD 31 0) % 128))) * (ofKey (k.set 31 ((k.getD 31 0) % 128)))) - (fv 1)) * (finv ((dC * ((ofKey (k.set 31 ((k.getD 31 0) % 128))) * (ofKey (k.set 31 ((k.getD 31 0) % 128))))) + (fv 1))))))⟩, none] : List (Option St)) (by kernel_rfl) (by kernel_rfl) (by kernel_rfl) ?_ ?_
  · intro i o listed an wn ho hls hst hun hdep hI K' hK'
    rcases slot_cases (l := [0, 1, 2, 3, 4, 5, 6, 7, 8, 9, 10, 11, 12, 13, 14, 15, 16]) rfl ho hst with rfl | rfl | rfl | rfl | rfl | rfl | rfl | rfl | rfl | rfl | rfl | rfl | rfl | rfl | rfl | rfl | rfl | ⟨⟨⟩⟩
    · obtain rfl := Option.some.inj ho
      have hvp : an.eval (.tmp 6) = ptrTo br6_3 := hI.old (by kernel_rfl) rfl
      exact hI.pure (by kernel_rfl) (by kernel_rfl) hls hun rfl rfl rfl _ (run_loadQ rfl hvp wn (hI.sl.upd.keepD Bxr6y3_s6_0).out Tryd.underlying45 rfl szN (by rw [hCr6_2.size]; exact Nat.le_of_ble_eq_true rfl)) (.val (.agg ar6_2)) rfl (congrArg Value.agg (extract_all _ 16 hCr6_2.size)) rfl hK'
    · obtain rfl := Option.some.inj ho
      exact hI.call (by kernel_rfl) (by kernel_rfl) hls hun rfl rfl rfl 54 #[.const (.int .u64 1)] _ rfl #[.int .u64 1] (by simp [Act.eval]) (run_enter Tryd.func54 (by kernel_rfl) (by kernel_rfl)) (.like (IsC 16 RN [fv 1])) rfl rfl ((rSmallE 1 (by decide) (by decide)).mono fun _ _ h => h.sr) hK'
    · obtain rfl := Option.some.inj ho
      obtain ⟨vp, hvp, rfl⟩ := hI.have 0 _ 27 _ rfl rfl rfl (dp hdep 0 rfl rfl)
      obtain ⟨vq, hvq, aq, rfl, hCq⟩ := hI.have 1 _ 28 _ rfl rfl rfl (dp hdep 1 rfl rfl)
      exact hI.call (by kernel_rfl) (by kernel_rfl) hls hun rfl rfl rfl 66 #[.tmp 27, .tmp 28] _ rfl #[.agg ar6_2, .agg aq] (by simp [eval_of hvp, eval_of hvq]) (run_enter Tryd.func66 (by kernel_rfl) (by kernel_rfl)) (.like (IsC 16 RN [((ofKey (k.set 31 ((k.getD 31 0) % 128))) * (ofKey (k.set 31 ((k.getD 31 0) % 128)))) - (fv 1)])) rfl rfl ((rSubE hCr6_2 hCq).mono fun _ _ h => h.sr) hK'
    · obtain rfl := Option.some.inj ho
      exact hI.call (by kernel_rfl) (by kernel_rfl) hls hun rfl rfl rfl 30 #[] _ rfl #[] (by simp) (run_enter Tryd.func30 (by kernel_rfl) (by kernel_rfl)) (.like (IsC 16 RN [dC])) rfl rfl ((rDR _).mono fun _ _ h => h.sr) hK'
    · obtain rfl := Option.some.inj ho
      have hvp : an.eval (.tmp 6) = ptrTo br6_3 := hI.old (by kernel_rfl) rfl
      exact hI.pure (by kernel_rfl) (by kernel_rfl) hls hun rfl rfl rfl _ (run_loadQ rfl hvp wn (hI.sl.upd.keepD Bxr6y3_s6_0).out Tryd.underlying45 rfl szN (by rw [hCr6_2.size]; exact Nat.le_of_ble_eq_true rfl)) (.val (.agg ar6_2)) rfl (congrArg Value.agg (extract_all _ 16 hCr6_2.size)) rfl hK'
    · obtain rfl := Option.some.inj ho
      obtain ⟨vp, hvp, ap, rfl, hCp⟩ := hI.have 3 _ 30 _ rfl rfl rfl (dp hdep 0 rfl rfl)
      obtain ⟨vq, hvq, rfl⟩ := hI.have 4 _ 31 _ rfl rfl rfl (dp hdep 1 rfl rfl)
      exact hI.call (by kernel_rfl) (by kernel_rfl) hls hun rfl rfl rfl 58 #[.tmp 30, .tmp 31] _ rfl #[.agg ap, .agg ar6_2] (by simp [eval_of hvp, eval_of hvq]) (run_enter Tryd.func58 (by kernel_rfl) (by kernel_rfl)) (.like (IsC 16 RN [dC * ((ofKey (k.set 31 ((k.getD 31 0) % 128))) * (ofKey (k.set 31 ((k.getD 31 0) % 128))))])) rfl rfl ((rMulE hCp hCr6_2).mono fun _ _ h => h.sr) hK'
    · obtain rfl := Option.some.inj ho
      exact hI.call (by kernel_rfl) (by kernel_rfl) hls hun rfl rfl rfl 54 #[.const (.int .u64 1)] _ rfl #[.int .u64 1] (by simp [Act.eval]) (run_enter Tryd.func54 (by kernel_rfl) (by kernel_rfl)) (.like (IsC 16 RN [fv 1])) rfl rfl ((rSmallE 1 (by decide) (by decide)).mono fun _ _ h => h.sr) hK'
    · obtain rfl := Option.some.inj ho
      obtain ⟨vp, hvp, ap, rfl, hCp⟩ := hI.have 5 _ 32 _ rfl rfl rfl (dp hdep 0 rfl rfl)
      obtain ⟨vq, hvq, aq, rfl, hCq⟩ := hI.have 6 _ 33 _ rfl rfl rfl (dp hdep 1 rfl rfl)
      exact hI.call (by kernel_rfl) (by kernel_rfl) hls hun rfl rfl rfl 67 #[.tmp 32, .tmp 33] _ rfl #[.agg ap, .agg aq] (by simp [eval_of hvp, eval_of hvq]) (run_enter Tryd.func67 (by kernel_rfl) (by kernel_rfl)) (.like (IsC 16 RN [(dC * ((ofKey (k.set 31 ((k.getD 31 0) % 128))) * (ofKey (k.set 31 ((k.getD 31 0) % 128))))) + (fv 1)])) rfl rfl ((rAddE hCp hCq).mono fun _ _ h => h.sr) hK'
    · obtain rfl := Option.some.inj ho
      obtain ⟨vp, hvp, ap, rfl, hCp⟩ := hI.have 7 _ 34 _ rfl rfl rfl (dp hdep 0 rfl rfl)
      exact hI.call (by kernel_rfl) (by kernel_rfl) hls hun rfl rfl rfl 59 #[.tmp 34] _ rfl #[.agg ap] (by simp [eval_of hvp]) (run_enter Tryd.func59 (by kernel_rfl) (by kernel_rfl)) (.like (IsC 16 RN [finv ((dC * ((ofKey (k.set 31 ((k.getD 31 0) % 128))) * (ofKey (k.set 31 ((k.getD 31 0) % 128))))) + (fv 1))])) rfl rfl ((rInvE hCp).mono fun _ _ h => h.sr) hK'
    · obtain rfl := Option.some.inj ho
      obtain ⟨vp, hvp, ap, rfl, hCp⟩ := hI.have 2 _ 29 _ rfl rfl rfl (dp hdep 0 rfl rfl)
      obtain ⟨vq, hvq, aq, rfl, hCq⟩ := hI.have 8 _ 35 _ rfl rfl rfl (dp hdep 1 rfl rfl)
      exact hI.call (by kernel_rfl) (by kernel_rfl) hls hun rfl rfl rfl 58 #[.tmp 29, .tmp 35] _ rfl #[.agg ap, .agg aq] (by simp [eval_of hvp, eval_of hvq]) (run_enter Tryd.func58 (by kernel_rfl) (by kernel_rfl)) (.like (IsC 16 RN [(((ofKey (k.set 31 ((k.getD 31 0) % 128))) * (ofKey (k.set 31 ((k.getD 31 0) % 128)))) - (fv 1)) * (finv ((dC * ((ofKey (k.set 31 ((k.getD 31 0) % 128))) * (ofKey (k.set 31 ((k.getD 31 0) % 128))))) + (fv 1)))])) rfl rfl ((rMulE hCp hCq).mono fun _ _ h => h.sr) hK'
    · obtain rfl := Option.some.inj ho
      obtain ⟨vp, hvp, ap, rfl, hCp⟩ := hI.have 9 _ 36 _ rfl rfl rfl (dp hdep 0 rfl rfl)
      exact hI.call (by kernel_rfl) (by kernel_rfl) hls hun rfl rfl rfl 65 #[.tmp 36] _ rfl #[.agg ap] (by simp [eval_of hvp]) (run_enter Tryd.func65 (by kernel_rfl) (by kernel_rfl)) (.val (.tuple #[.agg (numsA .u64 (canL (rrootF ((((ofKey (k.set 31 ((k.getD 31 0) % 128))) * (ofKey (k.set 31 ((k.getD 31 0) % 128)))) - (fv 1)) * (finv ((dC * ((ofKey (k.set 31 ((k.getD 31 0) % 128))) * (ofKey (k.set 31 ((k.getD 31 0) % 128))))) + (fv 1))))))), .bool (decide ((rrootF ((((ofKey (k.set 31 ((k.getD 31 0) % 128))) * (ofKey (k.set 31 ((k.getD 31 0) % 128)))) - (fv 1)) * (finv ((dC * ((ofKey (k.set 31 ((k.getD 31 0) % 128))) * (ofKey (k.set 31 ((k.getD 31 0) % 128))))) + (fv 1))))) * (rrootF ((((ofKey (k.set 31 ((k.getD 31 0) % 128))) * (ofKey (k.set 31 ((k.getD 31 0) % 128)))) - (fv 1)) * (finv ((dC * ((ofKey (k.set 31 ((k.getD 31 0) % 128))) * (ofKey (k.set 31 ((k.getD 31 0) % 128))))) + (fv 1))))) = ((((ofKey (k.set 31 ((k.getD 31 0) % 128))) * (ofKey (k.set 31 ((k.getD 31 0) % 128)))) - (fv 1)) * (finv ((dC * ((ofKey (k.set 31 ((k.getD 31 0) % 128))) * (ofKey (k.set 31 ((k.getD 31 0) % 128))))) + (fv 1))))))])) rfl rfl ((rrootR _ hCp).mono fun _ _ h => ret_valR h) hK'
    · obtain rfl := Option.some.inj ho
      obtain ⟨vp, hvp, rfl⟩ := hI.have 10 _ 37 _ rfl rfl rfl (dp hdep 0 rfl rfl)
      exact hI.pure (by kernel_rfl) (by kernel_rfl) hls hun rfl rfl rfl _ (run_moveQ (.inl rfl) (eval_of hvp) wn) (.val (.tuple #[.agg (numsA .u64 (canL (rrootF ((((ofKey (k.set 31 ((k.getD 31 0) % 128))) * (ofKey (k.set 31 ((k.getD 31 0) % 128)))) - (fv 1)) * (finv ((dC * ((ofKey (k.set 31 ((k.getD 31 0) % 128))) * (ofKey (k.set 31 ((k.getD 31 0) % 128))))) + (fv 1))))))), .bool (decide ((rrootF ((((ofKey (k.set 31 ((k.getD 31 0) % 128))) * (ofKey (k.set 31 ((k.getD 31 0) % 128)))) - (fv 1)) * (finv ((dC * ((ofKey (k.set 31 ((k.getD 31 0) % 128))) * (ofKey (k.set 31 ((k.getD 31 0) % 128))))) + (fv 1))))) * (rrootF ((((ofKey (k.set 31 ((k.getD 31 0) % 128))) * (ofKey (k.set 31 ((k.getD 31 0) % 128)))) - (fv 1)) * (finv ((dC * ((ofKey (k.set 31 ((k.getD 31 0) % 128))) * (ofKey (k.set 31 ((k.getD 31 0) % 128))))) + (fv 1))))) = ((((ofKey (k.set 31 ((k.getD 31 0) % 128))) * (ofKey (k.set 31 ((k.getD 31 0) % 128)))) - (fv 1)) * (finv ((dC * ((ofKey (k.set 31 ((k.getD 31 0) % 128))) * (ofKey (k.set 31 ((k.getD 31 0) % 128))))) + (fv 1))))))])) rfl rfl rfl hK'
    · obtain rfl := Option.some.inj ho
      obtain ⟨vp, hvp, rfl⟩ := hI.have 11 _ 26 _ rfl rfl rfl (dp hdep 0 rfl rfl)
      exact hI.pure (by kernel_rfl) (by kernel_rfl) hls hun rfl rfl rfl _ (run_extractQ rfl (eval_of hvp) rfl wn) (.val (.agg (numsA .u64 (canL (rrootF ((((ofKey (k.set 31 ((k.getD 31 0) % 128))) * (ofKey (k.set 31 ((k.getD 31 0) % 128)))) - (fv 1)) * (finv ((dC * ((ofKey (k.set 31 ((k.getD 31 0) % 128))) * (ofKey (k.set 31 ((k.getD 31 0) % 128))))) + (fv 1))))))))) rfl rfl rfl hK'
    · obtain rfl := Option.some.inj ho
      obtain ⟨vp, hvp, rfl⟩ := hI.have 11 _ 26 _ rfl rfl rfl (dp hdep 0 rfl rfl)
      exact hI.pure (by kernel_rfl) (by kernel_rfl) hls hun rfl rfl rfl _ (run_extractQ rfl (eval_of hvp) rfl wn) (.val (.bool (decide ((rrootF ((((ofKey (k.set 31 ((k.getD 31 0) % 128))) * (ofKey (k.set 31 ((k.getD 31 0) % 128)))) - (fv 1)) * (finv ((dC * ((ofKey (k.set 31 ((k.getD 31 0) % 128))) * (ofKey (k.set 31 ((k.getD 31 0) % 128))))) + (fv 1))))) * (rrootF ((((ofKey (k.set 31 ((k.getD 31 0) % 128))) * (ofKey (k.set 31 ((k.getD 31 0) % 128)))) - (fv 1)) * (finv ((dC * ((ofKey (k.set 31 ((k.getD 31 0) % 128))) * (ofKey (k.set 31 ((k.getD 31 0) % 128))))) + (fv 1))))) = ((((ofKey (k.set 31 ((k.getD 31 0) % 128))) * (ofKey (k.set 31 ((k.getD 31 0) % 128)))) - (fv 1)) * (finv ((dC * ((ofKey (k.set 31 ((k.getD 31 0) % 128))) * (ofKey (k.set 31 ((k.getD 31 0) % 128))))) + (fv 1)))))))) rfl rfl rfl hK'
    · obtain rfl := Option.some.inj ho
      exact hI.new (by kernel_rfl) (by kernel_rfl) hls hun (newsR_spec (l := [14]) (by kernel_rfl) ⟨⟨_, _, rfl⟩, trivial⟩) rfl rfl rfl 45 zeroN (run_allocQ rfl zN_run wn) rfl hK'
    · obtain rfl := Option.some.inj ho
      obtain ⟨vp, hvp, rfl⟩ := hI.have 12 _ 38 _ rfl rfl rfl (dp hdep 1 rfl rfl)
      exact hI.store (by kernel_rfl) hls hdep rfl rfl rfl ⟨7, 14, 45, fun z => z = numsA .u64 (canL (rrootF ((((ofKey (k.set 31 ((k.getD 31 0) % 128))) * (ofKey (k.set 31 ((k.getD 31 0) % 128)))) - (fv 1)) * (finv ((dC * ((ofKey (k.set 31 ((k.getD 31 0) % 128))) * (ofKey (k.set 31 ((k.getD 31 0) % 128))))) + (fv 1))))))⟩ rfl ⟨14, .data⟩ (by simp) rfl rfl 16 rfl 45 (.tmp 38) rfl (numsA .u64 (canL (rrootF ((((ofKey (k.set 31 ((k.getD 31 0) % 128))) * (ofKey (k.set 31 ((k.getD 31 0) % 128)))) - (fv 1)) * (finv ((dC * ((ofKey (k.set 31 ((k.getD 31 0) % 128))) * (ofKey (k.set 31 ((k.getD 31 0) % 128))))) + (fv 1))))))) (eval_of hvp) szN (by rw [numsA_size]; exact (canL_length _)) (numsA_one _ _) rfl hK'
    · obtain rfl := Option.some.inj ho
      obtain ⟨vp, hvp, rfl⟩ := hI.have 13 _ 39 _ rfl rfl rfl (dp hdep 0 rfl rfl)
      exact hI.pure (by kernel_rfl) (by kernel_rfl) hls hun rfl rfl rfl _ (run_moveQ (.inr rfl) (eval_of hvp) wn) (.val (.bool (decide ((rrootF ((((ofKey (k.set 31 ((k.getD 31 0) % 128))) * (ofKey (k.set 31 ((k.getD 31 0) % 128)))) - (fv 1)) * (finv ((dC * ((ofKey (k.set 31 ((k.getD 31 0) % 128))) * (ofKey (k.set 31 ((k.getD 31 0) % 128))))) + (fv 1))))) * (rrootF ((((ofKey (k.set 31 ((k.getD 31 0) % 128))) * (ofKey (k.set 31 ((k.getD 31 0) % 128)))) - (fv 1)) * (finv ((dC * ((ofKey (k.set 31 ((k.getD 31 0) % 128))) * (ofKey (k.set 31 ((k.getD 31 0) % 128))))) + (fv 1))))) = ((((ofKey (k.set 31 ((k.getD 31 0) % 128))) * (ofKey (k.set 31 ((k.getD 31 0) % 128)))) - (fv 1)) * (finv ((dC * ((ofKey (k.set 31 ((k.getD 31 0) % 128))) * (ofKey (k.set 31 ((k.getD 31 0) % 128))))) + (fv 1)))))))) rfl rfl rfl hK'
  intro fuel an w8 hf hI
  obtain ⟨vr7_0, hvr7_0, rfl⟩ := hI.have 0 _ 27 _ rfl rfl rfl rfl
  obtain ⟨vr7_1, hvr7_1, ar7_1, rfl, hCr7_1⟩ := hI.have 1 _ 28 _ rfl rfl rfl rfl
  obtain ⟨vr7_2, hvr7_2, ar7_2, rfl, hCr7_2⟩ := hI.have 2 _ 29 _ rfl rfl rfl rfl
  obtain ⟨vr7_3, hvr7_3, ar7_3, rfl, hCr7_3⟩ := hI.have 3 _ 30 _ rfl rfl rfl rfl
  obtain ⟨vr7_4, hvr7_4, rfl⟩ := hI.have 4 _ 31 _ rfl rfl rfl rfl
  obtain ⟨vr7_5, hvr7_5, ar7_5, rfl, hCr7_5⟩ := hI.have 5 _ 32 _ rfl rfl rfl rfl
  obtain ⟨vr7_6, hvr7_6, ar7_6, rfl, hCr7_6⟩ := hI.have 6 _ 33 _ rfl rfl rfl rfl
  obtain ⟨vr7_7, hvr7_7, ar7_7, rfl, hCr7_7⟩ := hI.have 7 _ 34 _ rfl rfl rfl rfl
  obtain ⟨vr7_8, hvr7_8, ar7_8, rfl, hCr7_8⟩ := hI.have 8 _ 35 _ rfl rfl rfl rfl
  obtain ⟨vr7_9, hvr7_9, ar7_9, rfl, hCr7_9⟩ := hI.have 9 _ 36 _ rfl rfl rfl rfl
  obtain ⟨vr7_10, hvr7_10, rfl⟩ := hI.have 10 _ 37 _ rfl rfl rfl rfl
  obtain ⟨vr7_11, hvr7_11, rfl⟩ := hI.have 11 _ 26 _ rfl rfl rfl rfl
  obtain ⟨vr7_12, hvr7_12, rfl⟩ := hI.have 12 _ 38 _ rfl rfl rfl rfl
  obtain ⟨vr7_13, hvr7_13, rfl⟩ := hI.have 13 _ 39 _ rfl rfl rfl rfl
  obtain ⟨vr7_14, hvr7_14, br7_14, zr7_14, rfl, hnr7_14, hbr7_14, hzr7_14⟩ := hI.have 14 _ 7 _ rfl rfl rfl rfl
  obtain ⟨vr7_16, hvr7_16, rfl⟩ := hI.have 16 _ 8 _ rfl rfl rfl rfl
  obtain ⟨-, cr7_15, yr7_15, hpr7_15, hBr7_15, hyr7_15⟩ := hI.mem 15 ⟨7, 14, 45, fun z => z = numsA .u64 (canL (rrootF ((((ofKey (k.set 31 ((k.getD 31 0) % 128))) * (ofKey (k.set 31 ((k.getD 31 0) % 128)))) - (fv 1)) * (finv ((dC * ((ofKey (k.set 31 ((k.getD 31 0) % 128))) * (ofKey (k.set 31 ((k.getD 31 0) % 128))))) + (fv 1))))))⟩ rfl rfl
  obtain rfl := ptr_inj (hvr7_14.symm.trans hpr7_15)
  have hyr7_15 : yr7_15 = numsA .u64 (canL (rrootF ((((ofKey (k.set 31 ((k.getD 31 0) % 128))) * (ofKey (k.set 31 ((k.getD 31 0) % 128)))) - (fv 1)) * (finv ((dC * ((ofKey (k.set 31 ((k.getD 31 0) % 128))) * (ofKey (k.set 31 ((k.getD 31 0) % 128))))) + (fv 1)))))) := hyr7_15
  subst hyr7_15
  have hupd := hI.sl.upd
  have ha := hI.sl.act [(27, .agg ar6_2), (28, .agg ar7_1), (29, .agg ar7_2), (30, .agg ar7_3), (31, .agg ar6_2), (32, .agg ar7_5), (33, .agg ar7_6), (34, .agg ar7_7), (35, .agg ar7_8), (36, .agg ar7_9), (37, .tuple #[.agg (numsA .u64 (canL (rrootF ((((ofKey (k.set 31 ((k.getD 31 0) % 128))) * (ofKey (k.set 31 ((k.getD 31 0) % 128)))) - (fv 1)) * (finv ((dC * ((ofKey (k.set 31 ((k.getD 31 0) % 128))) * (ofKey (k.set 31 ((k.getD 31 0) % 128))))) + (fv 1))))))), .bool (decide ((rrootF ((((ofKey (k.set 31 ((k.getD 31 0) % 128))) * (ofKey (k.set 31 ((k.getD 31 0) % 128)))) - (fv 1)) * (finv ((dC * ((ofKey (k.set 31 ((k.getD 31 0) % 128))) * (ofKey (k.set 31 ((k.getD 31 0) % 128))))) + (fv 1))))) * (rrootF ((((ofKey (k.set 31 ((k.getD 31 0) % 128))) * (ofKey (k.set 31 ((k.getD 31 0) % 128)))) - (fv 1)) * (finv ((dC * ((ofKey (k.set 31 ((k.getD 31 0) % 128))) * (ofKey (k.set 31 ((k.getD 31 0) % 128))))) + (fv 1))))) = ((((ofKey (k.set 31 ((k.getD 31 0) % 128))) * (ofKey (k.set 31 ((k.getD 31 0) % 128)))) - (fv 1)) * (finv ((dC * ((ofKey (k.set 31 ((k.getD 31 0) % 128))) * (ofKey (k.set 31 ((k.getD 31 0) % 128))))) + (fv 1))))))]), (26, .tuple #[.agg (numsA .u64 (canL (rrootF ((((ofKey (k.set 31 ((k.getD 31 0) % 128))) * (ofKey (k.set 31 ((k.getD 31 0) % 128)))) - (fv 1)) * (finv ((dC * ((ofKey (k.set 31 ((k.getD 31 0) % 128))) * (ofKey (k.set 31 ((k.getD 31 0) % 128))))) + (fv 1))))))), .bool (decide ((rrootF ((((ofKey (k.set 31 ((k.getD 31 0) % 128))) * (ofKey (k.set 31 ((k.getD 31 0) % 128)))) - (fv 1)) * (finv ((dC * ((ofKey (k.set 31 ((k.getD 31 0) % 128))) * (ofKey (k.set 31 ((k.getD 31 0) % 128))))) + (fv 1))))) * (rrootF ((((ofKey (k.set 31 ((k.getD 31 0) % 128))) * (ofKey (k.set 31 ((k.getD 31 0) % 128)))) - (fv 1)) * (finv ((dC * ((ofKey (k.set 31 ((k.getD 31 0) % 128))) * (ofKey (k.set 31 ((k.getD 31 0) % 128))))) + (fv 1))))) = ((((ofKey (k.set 31 ((k.getD 31 0) % 128))) * (ofKey (k.set 31 ((k.getD 31 0) % 128)))) - (fv 1)) * (finv ((dC * ((ofKey (k.set 31 ((k.getD 31 0) % 128))) * (ofKey (k.set 31 ((k.getD 31 0) % 128))))) + (fv 1))))))]), (38, .agg (numsA .u64 (canL (rrootF ((((ofKey (k.set 31 ((k.getD 31 0) % 128))) * (ofKey (k.set 31 ((k.getD 31 0) % 128)))) - (fv 1)) * (finv ((dC * ((ofKey (k.set 31 ((k.getD 31 0) % 128))) * (ofKey (k.set 31 ((k.getD 31 0) % 128))))) + (fv 1)))))))), (39, .bool (decide ((rrootF ((((ofKey (k.set 31 ((k.getD 31 0) % 128))) * (ofKey (k.set 31 ((k.getD 31 0) % 128)))) - (fv 1)) * (finv ((dC * ((ofKey (k.set 31 ((k.getD 31 0) % 128))) * (ofKey (k.set 31 ((k.getD 31 0) % 128))))) + (fv 1))))) * (rrootF ((((ofKey (k.set 31 ((k.getD 31 0) % 128))) * (ofKey (k.set 31 ((k.getD 31 0) % 128)))) - (fv 1)) * (finv ((dC * ((ofKey (k.set 31 ((k.getD 31 0) % 128))) * (ofKey (k.set 31 ((k.getD 31 0) % 128))))) + (fv 1))))) = ((((ofKey (k.set 31 ((k.getD 31 0) % 128))) * (ofKey (k.set 31 ((k.getD 31 0) % 128)))) - (fv 1)) * (finv ((dC * ((ofKey (k.set 31 ((k.getD 31 0) % 128))) * (ofKey (k.set 31 ((k.getD 31 0) % 128))))) + (fv 1))))))), (7, ptrTo cr7_15), (8, .bool (decide ((rrootF ((((ofKey (k.set 31 ((k.getD 31 0) % 128))) * (ofKey (k.set 31 ((k.getD 31 0) % 128)))) - (fv 1)) * (finv ((dC * ((ofKey (k.set 31 ((k.getD 31 0) % 128))) * (ofKey (k.set 31 ((k.getD 31 0) % 128))))) + (fv 1))))) * (rrootF ((((ofKey (k.set 31 ((k.getD 31 0) % 128))) * (ofKey (k.set 31 ((k.getD 31 0) % 128)))) - (fv 1)) * (finv ((dC * ((ofKey (k.set 31 ((k.getD 31 0) % 128))) * (ofKey (k.set 31 ((k.getD 31 0) % 128))))) + (fv 1))))) = ((((ofKey (k.set 31 ((k.getD 31 0) % 128))) * (ofKey (k.set 31 ((k.getD 31 0) % 128)))) - (fv 1)) * (finv ((dC * ((ofKey (k.set 31 ((k.getD 31 0) % 128))) * (ofKey (k.set 31 ((k.getD 31 0) % 128))))) + (fv 1)))))))] (by simp [hvr7_0, hvr7_1, hvr7_2, hvr7_3, hvr7_4, hvr7_5, hvr7_6, hvr7_7, hvr7_8, hvr7_9, hvr7_10, hvr7_11, hvr7_12, hvr7_13, hvr7_14, hvr7_16]) (by kernel_rfl)
  clear hI
  subst ha
  simp only [List.foldl_cons, List.foldl_nil, List.setIfInBounds_toArray, List.set_cons_zero, List.set_cons_succ]
  have hner7_14_Bxr0y0_s6_0 := apartB Bxr0y0_s6_0 hnr7_14
  have hner7_14_Bxr0y1_s6_0 := apartB Bxr0y1_s6_0 hnr7_14
  have hner7_14_Bxr3y2_s6_0 := apartB Bxr3y2_s6_0 hnr7_14
  have hner7_14_Bxr6y3_s6_0 := apartB Bxr6y3_s6_0 hnr7_14
  have hger7_14 := geB HU6_0 hnr7_14
  have Bxr0y0_7 := hupd.keepD Bxr0y0_s6_0
  have Bxr0y1_7 := hupd.keepD Bxr0y1_s6_0
  have Bxr3y2_7 := hupd.keepD Bxr3y2_s6_0
  have Bxr6y3_7 := hupd.keepD Bxr6y3_s6_0
  have Bxr7y14 := hh hBr7_15
  have HU7 := hh (HU6_0.out.drew.trans hupd)
  clear hupd
  refine wpAny_done (by kernel_rfl) ?_ _
  refine hK10 _ _ ?_
  clear hK10
  refine wp_seq_k fun K11 hK11 => ?_
  refine wp_seq_k fun K12 hK12 => ?_
  obtain hsp13 | hsp13 := bool_two (decide ((rrootF ((((ofKey (k.set 31 ((k.getD 31 0) % 128))) * (ofKey (k.set 31 ((k.getD 31 0) % 128)))) - (fv 1)) * (finv ((dC * ((ofKey (k.set 31 ((k.getD 31 0) % 128))) * (ofKey (k.set 31 ((k.getD 31 0) % 128))))) + (fv 1))))) * (rrootF ((((ofKey (k.set 31 ((k.getD 31 0) % 128))) * (ofKey (k.set 31 ((k.getD 31 0) % 128)))) - (fv 1)) * (finv ((dC * ((ofKey (k.set 31 ((k.getD 31 0) % 128))) * (ofKey (k.set 31 ((k.getD 31 0) % 128))))) + (fv 1))))) = ((((ofKey (k.set 31 ((k.getD 31 0) % 128))) * (ofKey (k.set 31 ((k.getD 31 0) % 128)))) - (fv 1)) * (finv ((dC * ((ofKey (k.set 31 ((k.getD 31 0) % 128))) * (ofKey (k.set 31 ((k.getD 31 0) % 128))))) + (fv 1))))))
  · have Hsp13 := hh hsp13
    rw [hsp13]
    clear hsp13
    obtain hsp14 | hsp14 := bool_two (decide ((canL (rrootF ((((ofKey (k.set 31 ((k.getD 31 0) % 128))) * (ofKey (k.set 31 ((k.getD 31 0) % 128)))) - (fv 1)) * (finv ((dC * ((ofKey (k.set 31 ((k.getD 31 0) % 128))) * (ofKey (k.set 31 ((k.getD 31 0) % 128))))) + (fv 1)))))) = (canL 0)))
    · have Hsp14 := hh hsp14
      clear hsp14
      refine wp_region_qSD 10 #[true, true, true, true, true, true, true, true, true, true] [] ([.val (.bool true), .val (.bool false), .val (.bool false), .val (.agg (numsA .u64 (canL (rrootF ((((ofKey (k.set 31 ((k.getD 31 0) % 128))) * (ofKey (k.set 31 ((k.getD 31 0) % 128)))) - (fv 1)) * (finv ((dC * ((ofKey (k.set 31 ((k.getD 31 0) % 128))) * (ofKey (k.set 31 ((k.getD 31 0) % 128))))) + (fv 1)))))))), .val (.agg (numsA .u64 (canL 0))), .val (.bool true), .val (.bool true), .val (.bool (decide (128 ≤ (k.getD 31 0)))), .val (.bool (decide (128 ≤ (k.getD 31 0)))), .val (.bool (decide (128 ≤ (k.getD 31 0))))] : List SQ) (by kernel_rfl) (by kernel_rfl) (by kernel_rfl) (by kernel_rfl) ?_ ?_
      · intro i o listed an wn ho hls hst hun hdep hI hD hpre K' hK'
        rcases slot_cases (l := [0, 1, 2, 3, 4, 5, 6, 7, 8, 9]) rfl ho hst with rfl | rfl | rfl | rfl | rfl | rfl | rfl | rfl | rfl | rfl | ⟨⟨⟩⟩
        · obtain rfl := Option.some.inj ho
          have hvp : an.eval (.tmp 8) = .bool true := hI.oq (by kernel_rfl) rfl
          exact hI.pq hD hls rfl rfl rfl _ (run_moveQ (.inl rfl) hvp wn) (.val (.bool true)) rfl rfl rfl hK'
        · obtain rfl := Option.some.inj ho
          obtain ⟨vp, hvp, rfl⟩ := hI.hq 0 _ 40 _ rfl rfl rfl (dp hdep 0 rfl rfl)
          exact hI.pq hD hls rfl rfl rfl _ (run_not rfl (eval_of hvp) wn) (.val (.bool false)) rfl rfl rfl hK'
        · obtain rfl := Option.some.inj ho
          obtain ⟨vp, hvp, rfl⟩ := hI.hq 1 _ 41 _ rfl rfl rfl (dp hdep 0 rfl rfl)
          exact hI.pq hD hls rfl rfl rfl _ (run_moveQ (.inl rfl) (eval_of hvp) wn) (.val (.bool false)) rfl rfl rfl hK'
        · obtain rfl := Option.some.inj ho
          obtain ⟨vg, hvg, rfl⟩ := hI.hq 2 _ 42 _ rfl rfl rfl (dp hdep 0 rfl rfl)
          have hvp : an.eval (.tmp 7) = ptrTo cr7_15 := hI.oq (by kernel_rfl) rfl
          exact hI.pq hD hls rfl (wanted_of rfl rfl rfl hvg) rfl _ (run_loadQ rfl hvp wn (hI.upd.keep Bxr7y14).out Tryd.underlying45 rfl szN (by rw [numsA_size, (canL_length _)]; omega)) (.val (.agg (numsA .u64 (canL (rrootF ((((ofKey (k.set 31 ((k.getD 31 0) % 128))) * (ofKey (k.set 31 ((k.getD 31 0) % 128)))) - (fv 1)) * (finv ((dC * ((ofKey (k.set 31 ((k.getD 31 0) % 128))) * (ofKey (k.set 31 ((k.getD 31 0) % 128))))) + (fv 1))))))))) rfl (congrArg Value.agg (extract_all _ 16 (by rw [numsA_size]; exact (canL_length _)))) rfl hK'
        · obtain rfl := Option.some.inj ho
          obtain ⟨vg, hvg, rfl⟩ := hI.hq 2 _ 42 _ rfl rfl rfl (dp hdep 0 rfl rfl)
          exact hI.pq hD hls rfl (wanted_of rfl rfl rfl hvg) rfl _ (run_buildN0 rfl wn) (.val (.agg (numsA .u64 (canL 0)))) rfl rfl rfl hK'
        · obtain rfl := Option.some.inj ho
          obtain ⟨vg, hvg, rfl⟩ := hI.hq 2 _ 42 _ rfl rfl rfl (dp hdep 2 rfl rfl)
          obtain ⟨vp, hvp, rfl⟩ := hI.hq 3 _ 43 _ rfl rfl rfl (dp hdep 0 rfl rfl)
          obtain ⟨vq, hvq, rfl⟩ := hI.hq 4 _ 44 _ rfl rfl rfl (dp hdep 1 rfl rfl)
          exact hI.pq hD hls rfl (wanted_of rfl rfl rfl hvg) rfl _ (run_eqlN (b := true) rfl (eval_of hvp) (eval_of hvq) Hsp14.out wn) (.val (.bool true)) rfl rfl rfl hK'
        · obtain rfl := Option.some.inj ho
          obtain ⟨vg, hvg, rfl⟩ := hI.hq 2 _ 42 _ rfl rfl rfl (dp hdep 2 rfl rfl)
          obtain ⟨vp, hvp, rfl⟩ := hI.hq 5 _ 45 _ rfl rfl rfl (dp hdep 0 rfl rfl)
          exact hI.pq hD hls rfl (wanted_of rfl rfl rfl hvg) rfl _ (run_moveQ (.inl rfl) (eval_of hvp) wn) (.val (.bool true)) rfl rfl rfl hK'
        · obtain rfl := Option.some.inj ho
          obtain ⟨vg, hvg, rfl⟩ := hI.hq 6 _ 46 _ rfl rfl rfl (dp hdep 0 rfl rfl)
          have hvp : an.eval (.tmp 4) = .bool (decide (128 ≤ (k.getD 31 0))) := hI.oq (by kernel_rfl) rfl
          exact hI.pq hD hls rfl (wanted_of rfl rfl rfl hvg) rfl _ (run_moveQ (.inl rfl) hvp wn) (.val (.bool (decide (128 ≤ (k.getD 31 0))))) rfl rfl rfl hK'
        · obtain rfl := Option.some.inj ho
          obtain ⟨vg, hvg, rfl⟩ := hI.hq 2 _ 42 _ rfl rfl rfl (dp hdep 2 rfl rfl)
          obtain ⟨vp, hvp, rfl⟩ := hI.hq 6 _ 46 _ rfl rfl rfl (dp hdep 0 rfl rfl)
          obtain ⟨vq, hvq, rfl⟩ := hI.hq 7 _ 47 _ rfl rfl rfl (dp hdep 1 rfl rfl)
          exact hI.pq hD hls rfl (wanted_of rfl rfl rfl hvg) rfl _ (run_pickT rfl (eval_of hvp) (eval_of hvq) wn) (.val (.bool (decide (128 ≤ (k.getD 31 0))))) rfl rfl rfl hK'
        · obtain rfl := Option.some.inj ho
          obtain ⟨vp, hvp, rfl⟩ := hI.hq 2 _ 42 _ rfl rfl rfl (dp hdep 0 rfl rfl)
          obtain ⟨vq, hvq, rfl⟩ := hI.hq 8 _ 48 _ rfl rfl rfl (dp hdep 1 rfl rfl)
          exact hI.pq hD hls rfl rfl rfl _ (run_pickF rfl (eval_of hvp) (eval_of hvq) wn) (.val (.bool (decide (128 ≤ (k.getD 31 0))))) rfl rfl rfl hK'
      intro an w9 hI
      obtain ⟨vr8_0, hvr8_0, rfl⟩ := hI.hq 0 _ 40 _ rfl rfl rfl rfl
      obtain ⟨vr8_1, hvr8_1, rfl⟩ := hI.hq 1 _ 41 _ rfl rfl rfl rfl
      obtain ⟨vr8_2, hvr8_2, rfl⟩ := hI.hq 2 _ 42 _ rfl rfl rfl rfl
      obtain ⟨vr8_3, hvr8_3, rfl⟩ := hI.hq 3 _ 43 _ rfl rfl rfl rfl
      obtain ⟨vr8_4, hvr8_4, rfl⟩ := hI.hq 4 _ 44 _ rfl rfl rfl rfl
      obtain ⟨vr8_5, hvr8_5, rfl⟩ := hI.hq 5 _ 45 _ rfl rfl rfl rfl
      obtain ⟨vr8_6, hvr8_6, rfl⟩ := hI.hq 6 _ 46 _ rfl rfl rfl rfl
      obtain ⟨vr8_7, hvr8_7, rfl⟩ := hI.hq 7 _ 47 _ rfl rfl rfl rfl
      obtain ⟨vr8_8, hvr8_8, rfl⟩ := hI.hq 8 _ 48 _ rfl rfl rfl rfl
      obtain ⟨vr8_9, hvr8_9, rfl⟩ := hI.hq 9 _ 49 _ rfl rfl rfl rfl
      have hupd := hI.upd
      have ha := hI.act [(40, .bool true), (41, .bool false), (42, .bool false), (43, .agg (numsA .u64 (canL (rrootF ((((ofKey (k.set 31 ((k.getD 31 0) % 128))) * (ofKey (k.set 31 ((k.getD 31 0) % 128)))) - (fv 1)) * (finv ((dC * ((ofKey (k.set 31 ((k.getD 31 0) % 128))) * (ofKey (k.set 31 ((k.getD 31 0) % 128))))) + (fv 1)))))))), (44, .agg (numsA .u64 (canL 0))), (45, .bool true), (46, .bool true), (47, .bool (decide (128 ≤ (k.getD 31 0)))), (48, .bool (decide (128 ≤ (k.getD 31 0)))), (49, .bool (decide (128 ≤ (k.getD 31 0))))] (by simp [hvr8_0, hvr8_1, hvr8_2, hvr8_3, hvr8_4, hvr8_5, hvr8_6, hvr8_7, hvr8_8, hvr8_9]) (by kernel_rfl)
      clear hI hvr8_0 hvr8_1 hvr8_2 hvr8_3 hvr8_4 hvr8_5 hvr8_6 hvr8_7 hvr8_8 hvr8_9
      subst ha
      simp only [List.foldl_cons, List.foldl_nil, List.setIfInBounds_toArray, List.set_cons_zero, List.set_cons_succ]
      have Bxr0y0_8 := hupd.keep Bxr0y0_7
      have Bxr0y1_8 := hupd.keep Bxr0y1_7
      have Bxr3y2_8 := hupd.keep Bxr3y2_7
      have Bxr6y3_8 := hupd.keep Bxr6y3_7
      have Bxr7y14_8 := hupd.keep Bxr7y14
      have HU8 := hh (HU7.out.trans hupd)
      clear hupd
      refine wpOps_nil ?_
      refine hK12 _ _ ?_
      clear hK12
      refine wp_cond_split (t := (decide (128 ≤ (k.getD 31 0)))) rfl (fun hcd => ?_) (fun hcd => ?_)
      · have Hcd15 := hh hcd
        clear hcd
        refine wp_seq_k fun K16 hK16 => ?_
        refine wp_region_qSD 1 #[true, false, false] [1, 2] ([.val (.agg zR6), .val undef, .val undef] : List SQ) (by kernel_rfl) (by kernel_rfl) (by kernel_rfl) (by kernel_rfl) ?_ ?_
        · intro i o listed an wn ho hls hst hun hdep hI hD hpre K' hK'
          rcases slot_cases (l := [0]) rfl ho hst with rfl | ⟨⟨⟩⟩
          · obtain rfl := Option.some.inj ho
            exact hI.pq hD hls rfl rfl rfl _ (run_buildR60 rfl wn) (.val (.agg zR6)) rfl rfl rfl hK'
        intro an w10 hI
        obtain ⟨vr9_0, hvr9_0, rfl⟩ := hI.hq 0 _ 50 _ rfl rfl rfl rfl
        have hupd := hI.upd
        have ha := hI.act [(50, .agg zR6)] (by simp [hvr9_0]) (by kernel_rfl)
        clear hI hvr9_0
        subst ha
        simp only [List.foldl_cons, List.foldl_nil, List.setIfInBounds_toArray, List.set_cons_zero, List.set_cons_succ]
        have Bxr0y0_9 := hupd.keep Bxr0y0_8
        have Bxr0y1_9 := hupd.keep Bxr0y1_8
        have Bxr3y2_9 := hupd.keep Bxr3y2_8
        have Bxr6y3_9 := hupd.keep Bxr6y3_8
        have Bxr7y14_9 := hupd.keep Bxr7y14_8
        have HU9 := hh (HU8.out.trans hupd)
        clear hupd
        refine wpOps_storeQ 1 rfl rfl rfl 47 (.tmp 2) (.tmp 50) rfl br0_1 0 48 rfl zR6 rfl 47 zr0_1 Bxr0y1_9.out szR6 zR6_ch.size (by rw [hzr0_1.size]; exact Nat.le_of_ble_eq_true rfl) zR6_ch.one' ?_
        intro ws9_0 hs9_0 hus9_0
        rw [splice_all _ _ 48 hzr0_1.size zR6_ch.size] at hs9_0
        have Bxr0y0_s9_0 := hus9_0.keepS Bxr0y0_9 (fun e => hner0_0_r0_1.out e)
        have Bxr3y2_s9_0 := hus9_0.keepS Bxr3y2_9 (fun e => hner3_2_Bxr0y1_s2_0.out e)
        have Bxr6y3_s9_0 := hus9_0.keepS Bxr6y3_9 (fun e => hner6_3_Bxr0y1_4.out e)
        have Bxr7y14_s9_0 := hus9_0.keepS Bxr7y14_9 (fun e => hner7_14_Bxr0y1_s6_0.out e)
        have Bxr0y1_s9_0 := hh hs9_0
        have HU9_0 := hh (HU9.out.step hus9_0 (fun i hi h => absurd hi (Nat.not_lt.2 (h.symm ▸ hger0_1.out))))
        clear hs9_0 hus9_0
        refine wpOps_pureQ 2 rfl rfl 3 rfl (.int .i64 60) (run_moveQ (x := .const (.int .i64 60)) (v := .int .i64 60) (.inr rfl) rfl _) ?_
        simp only [List.setIfInBounds_toArray, List.set_cons_zero, List.set_cons_succ]
        refine wpOps_nil ?_
        refine hK16 _ _ ?_
        clear hK16
        refine wp_ret ?_
        try dsimp only [Exit.then]
        try dsimp only [Exit.inBlock]
        exact bodyPost_ret (v := .tuple #[.agg zR6, .int .i64 60]) (results_cell_tmpQ (fn := Tryd.f25) (p := 2) (q := 3) (ty := 47) rfl _ _ br0_1 zR6 (.int .i64 60) rfl rfl Bxr0y1_s9_0.out Tryd.underlying47 rfl (by rw [zR6_ch.size]; exact szR6)) rfl ⟨_, .inl ⟨rfl, zR6_ch, qC Hsp13.out Hsp14.out Hcd15.out⟩, HU9_0.out⟩
      have Hcd17 := hh hcd
      clear hcd
      refine wp_skip ?_
      refine hK11 _ _ ?_
      clear hK11
      refine wp_seq_k fun K18 hK18 => ?_
      refine wp_seq_k fun K19 hK19 => ?_
      have hq10_2 : Int.tmod ((canL (rrootF ((((ofKey (k.set 31 ((k.getD 31 0) % 128))) * (ofKey (k.set 31 ((k.getD 31 0) % 128)))) - (fv 1)) * (finv ((dC * ((ofKey (k.set 31 ((k.getD 31 0) % 128))) * (ofKey (k.set 31 ((k.getD 31 0) % 128))))) + (fv 1)))))).getD 0 0) 2 = (((canL (rrootF ((((ofKey (k.set 31 ((k.getD 31 0) % 128))) * (ofKey (k.set 31 ((k.getD 31 0) % 128)))) - (fv 1)) * (finv ((dC * ((ofKey (k.set 31 ((k.getD 31 0) % 128))) * (ofKey (k.set 31 ((k.getD 31 0) % 128))))) + (fv 1)))))).getD 0 0) % 2) := Int.tmod_eq_emod_of_nonneg (by omega)
      refine wp_region_qSD 6 #[true, true, true, true, true, true] [] ([.val (.pointer (some ⟨cr7_15, 0 + 0, none⟩)), .val (.int .u64 ((canL (rrootF ((((ofKey (k.set 31 ((k.getD 31 0) % 128))) * (ofKey (k.set 31 ((k.getD 31 0) % 128)))) - (fv 1)) * (finv ((dC * ((ofKey (k.set 31 ((k.getD 31 0) % 128))) * (ofKey (k.set 31 ((k.getD 31 0) % 128))))) + (fv 1)))))).getD 0 0)), .val (.int .u64 (((canL (rrootF ((((ofKey (k.set 31 ((k.getD 31 0) % 128))) * (ofKey (k.set 31 ((k.getD 31 0) % 128)))) - (fv 1)) * (finv ((dC * ((ofKey (k.set 31 ((k.getD 31 0) % 128))) * (ofKey (k.set 31 ((k.getD 31 0) % 128))))) + (fv 1)))))).getD 0 0) % 2)), .val (.bool (decide ((((canL (rrootF ((((ofKey (k.set 31 ((k.getD 31 0) % 128))) * (ofKey (k.set 31 ((k.getD 31 0) % 128)))) - (fv 1)) * (finv ((dC * ((ofKey (k.set 31 ((k.getD 31 0) % 128))) * (ofKey (k.set 31 ((k.getD 31 0) % 128))))) + (fv 1)))))).getD 0 0) % 2) = 1))), .val (.bool (decide (128 ≤ (k.getD 31 0)))), .val (.bool ((decide ((((canL (rrootF ((((ofKey (k.set 31 ((k.getD 31 0) % 128))) * (ofKey (k.set 31 ((k.getD 31 0) % 128)))) - (fv 1)) * (finv ((dC * ((ofKey (k.set 31 ((k.getD 31 0) % 128))) * (ofKey (k.set 31 ((k.getD 31 0) % 128))))) + (fv 1)))))).getD 0 0) % 2) = 1)) != (decide (128 ≤ (k.getD 31 0)))))] : List SQ) (by kernel_rfl) (by kernel_rfl) (by kernel_rfl) (by kernel_rfl) ?_ ?_
      · intro i o listed an wn ho hls hst hun hdep hI hD hpre K' hK'
        rcases slot_cases (l := [0, 1, 2, 3, 4, 5]) rfl ho hst with rfl | rfl | rfl | rfl | rfl | rfl | ⟨⟨⟩⟩
        · obtain rfl := Option.some.inj ho
          have hvp : an.eval (.tmp 7) = ptrTo cr7_15 := hI.oq (by kernel_rfl) rfl
          exact hI.pq hD hls rfl rfl rfl _ (run_adr (off := 0) (i := 0) rfl Tryd.underlying45 (by kernel_rfl) hvp rfl (by omega) wn) (.val (.pointer (some ⟨cr7_15, 0 + 0, none⟩))) rfl rfl rfl hK'
        · obtain rfl := Option.some.inj ho
          obtain ⟨vp, hvp, rfl⟩ := hI.hq 0 _ 51 _ rfl rfl rfl (dp hdep 0 rfl rfl)
          exact hI.pq hD hls rfl rfl rfl _ (run_cellQ rfl Tryd.underlying36 (eval_of hvp) wn (hI.upd.keep Bxr7y14_8).out (by rw [Nat.zero_add]; exact numsA_get _ _ _ (by rw [(canL_length _)]; omega))) (.val (.int .u64 ((canL (rrootF ((((ofKey (k.set 31 ((k.getD 31 0) % 128))) * (ofKey (k.set 31 ((k.getD 31 0) % 128)))) - (fv 1)) * (finv ((dC * ((ofKey (k.set 31 ((k.getD 31 0) % 128))) * (ofKey (k.set 31 ((k.getD 31 0) % 128))))) + (fv 1)))))).getD 0 0))) rfl rfl rfl hK'
        · obtain rfl := Option.some.inj ho
          obtain ⟨vp, hvp, rfl⟩ := hI.hq 1 _ 52 _ rfl rfl rfl (dp hdep 0 rfl rfl)
          exact hI.pq hD hls rfl rfl rfl _ (run_rem rfl (eval_of hvp) rfl (by decide) hq10_2 wn) (.val (.int .u64 (((canL (rrootF ((((ofKey (k.set 31 ((k.getD 31 0) % 128))) * (ofKey (k.set 31 ((k.getD 31 0) % 128)))) - (fv 1)) * (finv ((dC * ((ofKey (k.set 31 ((k.getD 31 0) % 128))) * (ofKey (k.set 31 ((k.getD 31 0) % 128))))) + (fv 1)))))).getD 0 0) % 2))) rfl rfl rfl hK'
        · obtain rfl := Option.some.inj ho
          obtain ⟨vp, hvp, rfl⟩ := hI.hq 2 _ 53 _ rfl rfl rfl (dp hdep 0 rfl rfl)
          exact hI.pq hD hls rfl rfl rfl _ (run_eql rfl (eval_of hvp) rfl rfl wn) (.val (.bool (decide ((((canL (rrootF ((((ofKey (k.set 31 ((k.getD 31 0) % 128))) * (ofKey (k.set 31 ((k.getD 31 0) % 128)))) - (fv 1)) * (finv ((dC * ((ofKey (k.set 31 ((k.getD 31 0) % 128))) * (ofKey (k.set 31 ((k.getD 31 0) % 128))))) + (fv 1)))))).getD 0 0) % 2) = 1)))) rfl rfl rfl hK'
        · obtain rfl := Option.some.inj ho
          have hvp : an.eval (.tmp 4) = .bool (decide (128 ≤ (k.getD 31 0))) := hI.oq (by kernel_rfl) rfl
          exact hI.pq hD hls rfl rfl rfl _ (run_moveQ (.inl rfl) hvp wn) (.val (.bool (decide (128 ≤ (k.getD 31 0))))) rfl rfl rfl hK'
        · obtain rfl := Option.some.inj ho
          obtain ⟨vp, hvp, rfl⟩ := hI.hq 3 _ 54 _ rfl rfl rfl (dp hdep 0 rfl rfl)
          obtain ⟨vq, hvq, rfl⟩ := hI.hq 4 _ 55 _ rfl rfl rfl (dp hdep 1 rfl rfl)
          exact hI.pq hD hls rfl rfl rfl _ (run_neqB rfl (eval_of hvp) (eval_of hvq) rfl wn) (.val (.bool ((decide ((((canL (rrootF ((((ofKey (k.set 31 ((k.getD 31 0) % 128))) * (ofKey (k.set 31 ((k.getD 31 0) % 128)))) - (fv 1)) * (finv ((dC * ((ofKey (k.set 31 ((k.getD 31 0) % 128))) * (ofKey (k.set 31 ((k.getD 31 0) % 128))))) + (fv 1)))))).getD 0 0) % 2) = 1)) != (decide (128 ≤ (k.getD 31 0)))))) rfl rfl rfl hK'
      intro an w11 hI
      obtain ⟨vr10_0, hvr10_0, rfl⟩ := hI.hq 0 _ 51 _ rfl rfl rfl rfl
      obtain ⟨vr10_1, hvr10_1, rfl⟩ := hI.hq 1 _ 52 _ rfl rfl rfl rfl
      obtain ⟨vr10_2, hvr10_2, rfl⟩ := hI.hq 2 _ 53 _ rfl rfl rfl rfl
      obtain ⟨vr10_3, hvr10_3, rfl⟩ := hI.hq 3 _ 54 _ rfl rfl rfl rfl
      obtain ⟨vr10_4, hvr10_4, rfl⟩ := hI.hq 4 _ 55 _ rfl rfl rfl rfl
      obtain ⟨vr10_5, hvr10_5, rfl⟩ := hI.hq 5 _ 56 _ rfl rfl rfl rfl
      have hupd := hI.upd
      have ha := hI.act [(51, .pointer (some ⟨cr7_15, 0 + 0, none⟩)), (52, .int .u64 ((canL (rrootF ((((ofKey (k.set 31 ((k.getD 31 0) % 128))) * (ofKey (k.set 31 ((k.getD 31 0) % 128)))) - (fv 1)) * (finv ((dC * ((ofKey (k.set 31 ((k.getD 31 0) % 128))) * (ofKey (k.set 31 ((k.getD 31 0) % 128))))) + (fv 1)))))).getD 0 0)), (53, .int .u64 (((canL (rrootF ((((ofKey (k.set 31 ((k.getD 31 0) % 128))) * (ofKey (k.set 31 ((k.getD 31 0) % 128)))) - (fv 1)) * (finv ((dC * ((ofKey (k.set 31 ((k.getD 31 0) % 128))) * (ofKey (k.set 31 ((k.getD 31 0) % 128))))) + (fv 1)))))).getD 0 0) % 2)), (54, .bool (decide ((((canL (rrootF ((((ofKey (k.set 31 ((k.getD 31 0) % 128))) * (ofKey (k.set 31 ((k.getD 31 0) % 128)))) - (fv 1)) * (finv ((dC * ((ofKey (k.set 31 ((k.getD 31 0) % 128))) * (ofKey (k.set 31 ((k.getD 31 0) % 128))))) + (fv 1)))))).getD 0 0) % 2) = 1))), (55, .bool (decide (128 ≤ (k.getD 31 0)))), (56, .bool ((decide ((((canL (rrootF ((((ofKey (k.set 31 ((k.getD 31 0) % 128))) * (ofKey (k.set 31 ((k.getD 31 0) % 128)))) - (fv 1)) * (finv ((dC * ((ofKey (k.set 31 ((k.getD 31 0) % 128))) * (ofKey (k.set 31 ((k.getD 31 0) % 128))))) + (fv 1)))))).getD 0 0) % 2) = 1)) != (decide (128 ≤ (k.getD 31 0)))))] (by simp [hvr10_0, hvr10_1, hvr10_2, hvr10_3, hvr10_4, hvr10_5]) (by kernel_rfl)
      clear hI hvr10_0 hvr10_1 hvr10_2 hvr10_3 hvr10_4 hvr10_5
      subst ha
      simp only [List.foldl_cons, List.foldl_nil, List.setIfInBounds_toArray, List.set_cons_zero, List.set_cons_succ]
      have Bxr0y0_10 := hupd.keep Bxr0y0_8
      have Bxr0y1_10 := hupd.keep Bxr0y1_8
      have Bxr3y2_10 := hupd.keep Bxr3y2_8
      have Bxr6y3_10 := hupd.keep Bxr6y3_8
      have Bxr7y14_10 := hupd.keep Bxr7y14_8
      have HU10 := hh (HU8.out.trans hupd)
      clear hupd
      refine wpOps_nil ?_
      refine hK19 _ _ ?_
      clear hK19
      refine wp_cond_split (t := ((decide ((((canL (rrootF ((((ofKey (k.set 31 ((k.getD 31 0) % 128))) * (ofKey (k.set 31 ((k.getD 31 0) % 128)))) - (fv 1)) * (finv ((dC * ((ofKey (k.set 31 ((k.getD 31 0) % 128))) * (ofKey (k.set 31 ((k.getD 31 0) % 128))))) + (fv 1)))))).getD 0 0) % 2) = 1)) != (decide (128 ≤ (k.getD 31 0))))) rfl (fun hcd => ?_) (fun hcd => ?_)
      · have Hcd20 := hh hcd
        clear hcd
        refine wp_region_qSD 2 #[true, true, false] [2] ([.val (.agg (numsA .u64 (canL (rrootF ((((ofKey (k.set 31 ((k.getD 31 0) % 128))) * (ofKey (k.set 31 ((k.getD 31 0) % 128)))) - (fv 1)) * (finv ((dC * ((ofKey (k.set 31 ((k.getD 31 0) % 128))) * (ofKey (k.set 31 ((k.getD 31 0) % 128))))) + (fv 1)))))))), .like (IsC 16 RN [-(rrootF ((((ofKey (k.set 31 ((k.getD 31 0) % 128))) * (ofKey (k.set 31 ((k.getD 31 0) % 128)))) - (fv 1)) * (finv ((dC * ((ofKey (k.set 31 ((k.getD 31 0) % 128))) * (ofKey (k.set 31 ((k.getD 31 0) % 128))))) + (fv 1)))))]), .val undef] : List SQ) (by kernel_rfl) (by kernel_rfl) (by kernel_rfl) (by kernel_rfl) ?_ ?_
        · intro i o listed an wn ho hls hst hun hdep hI hD hpre K' hK'
          rcases slot_cases (l := [0, 1]) rfl ho hst with rfl | rfl | ⟨⟨⟩⟩
          · obtain rfl := Option.some.inj ho
            have hvp : an.eval (.tmp 7) = ptrTo cr7_15 := hI.oq (by kernel_rfl) rfl
            exact hI.pq hD hls rfl rfl rfl _ (run_loadQ rfl hvp wn (hI.upd.keep Bxr7y14_10).out Tryd.underlying45 rfl szN (by rw [numsA_size, (canL_length _)]; omega)) (.val (.agg (numsA .u64 (canL (rrootF ((((ofKey (k.set 31 ((k.getD 31 0) % 128))) * (ofKey (k.set 31 ((k.getD 31 0) % 128)))) - (fv 1)) * (finv ((dC * ((ofKey (k.set 31 ((k.getD 31 0) % 128))) * (ofKey (k.set 31 ((k.getD 31 0) % 128))))) + (fv 1))))))))) rfl (congrArg Value.agg (extract_all _ 16 (by rw [numsA_size]; exact (canL_length _)))) rfl hK'
          · obtain rfl := Option.some.inj ho
            obtain ⟨vp, hvp, rfl⟩ := hI.hq 0 _ 57 _ rfl rfl rfl (dp hdep 0 rfl rfl)
            exact hI.cq hD hls rfl rfl rfl 68 #[.tmp 57] _ rfl #[.agg (numsA .u64 (canL (rrootF ((((ofKey (k.set 31 ((k.getD 31 0) % 128))) * (ofKey (k.set 31 ((k.getD 31 0) % 128)))) - (fv 1)) * (finv ((dC * ((ofKey (k.set 31 ((k.getD 31 0) % 128))) * (ofKey (k.set 31 ((k.getD 31 0) % 128))))) + (fv 1)))))))] (by simp [eval_of hvp]) (run_enter Tryd.func68 (by kernel_rfl) (by kernel_rfl)) (.like (IsC 16 RN [-(rrootF ((((ofKey (k.set 31 ((k.getD 31 0) % 128))) * (ofKey (k.set 31 ((k.getD 31 0) % 128)))) - (fv 1)) * (finv ((dC * ((ofKey (k.set 31 ((k.getD 31 0) % 128))) * (ofKey (k.set 31 ((k.getD 31 0) % 128))))) + (fv 1)))))])) rfl rfl ((rNegE (Ch.can _)).mono fun _ _ h => h.sq) hK'
        intro an w12 hI
        obtain ⟨vr11_0, hvr11_0, rfl⟩ := hI.hq 0 _ 57 _ rfl rfl rfl rfl
        obtain ⟨vr11_1, hvr11_1, ar11_1, rfl, hCr11_1⟩ := hI.hq 1 _ 58 _ rfl rfl rfl rfl
        have hupd := hI.upd
        have ha := hI.act [(57, .agg (numsA .u64 (canL (rrootF ((((ofKey (k.set 31 ((k.getD 31 0) % 128))) * (ofKey (k.set 31 ((k.getD 31 0) % 128)))) - (fv 1)) * (finv ((dC * ((ofKey (k.set 31 ((k.getD 31 0) % 128))) * (ofKey (k.set 31 ((k.getD 31 0) % 128))))) + (fv 1)))))))), (58, .agg ar11_1)] (by simp [hvr11_0, hvr11_1]) (by kernel_rfl)
        clear hI hvr11_0 hvr11_1
        subst ha
        simp only [List.foldl_cons, List.foldl_nil, List.setIfInBounds_toArray, List.set_cons_zero, List.set_cons_succ]
        have Bxr0y0_11 := hupd.keep Bxr0y0_10
        have Bxr0y1_11 := hupd.keep Bxr0y1_10
        have Bxr3y2_11 := hupd.keep Bxr3y2_10
        have Bxr6y3_11 := hupd.keep Bxr6y3_10
        have Bxr7y14_11 := hupd.keep Bxr7y14_10
        have HU11 := hh (HU10.out.trans hupd)
        clear hupd
        refine wpOps_storeQ 2 rfl rfl rfl 45 (.tmp 7) (.tmp 58) rfl cr7_15 0 16 rfl ar11_1 rfl 45 (numsA .u64 (canL (rrootF ((((ofKey (k.set 31 ((k.getD 31 0) % 128))) * (ofKey (k.set 31 ((k.getD 31 0) % 128)))) - (fv 1)) * (finv ((dC * ((ofKey (k.set 31 ((k.getD 31 0) % 128))) * (ofKey (k.set 31 ((k.getD 31 0) % 128))))) + (fv 1))))))) Bxr7y14_11.out szN hCr11_1.size (by rw [(show (numsA _ _).size = 16 by rw [numsA_size]; exact (canL_length _))]; exact Nat.le_of_ble_eq_true rfl) hCr11_1.one' ?_
        intro ws11_0 hs11_0 hus11_0
        rw [splice_all _ _ 16 (show (numsA _ _).size = 16 by rw [numsA_size]; exact (canL_length _)) hCr11_1.size] at hs11_0
        have Bxr0y0_s11_0 := hus11_0.keepS Bxr0y0_11 (fun e => hner7_14_Bxr0y0_s6_0.out e.symm)
        have Bxr0y1_s11_0 := hus11_0.keepS Bxr0y1_11 (fun e => hner7_14_Bxr0y1_s6_0.out e.symm)
        have Bxr3y2_s11_0 := hus11_0.keepS Bxr3y2_11 (fun e => hner7_14_Bxr3y2_s6_0.out e.symm)
        have Bxr6y3_s11_0 := hus11_0.keepS Bxr6y3_11 (fun e => hner7_14_Bxr6y3_s6_0.out e.symm)
        have Bxr7y14_s11_0 := hh hs11_0
        have HU11_0 := hh (HU11.out.step hus11_0 (fun i hi h => absurd hi (Nat.not_lt.2 (h.symm ▸ hger7_14.out))))
        clear hs11_0 hus11_0
        refine wpOps_nil ?_
        refine hK18 _ _ ?_
        clear hK18
        refine wp_seq_k fun K21 hK21 => ?_
        refine wp_region_qD #[true, true, true, true, false, false] ([.val (.agg ar11_1), .val (.agg ar3_1), .like (IsC 16 RN [fv 1]), .like (IsC 16 RN [-(rrootF ((((ofKey (k.set 31 ((k.getD 31 0) % 128))) * (ofKey (k.set 31 ((k.getD 31 0) % 128)))) - (fv 1)) * (finv ((dC * ((ofKey (k.set 31 ((k.getD 31 0) % 128))) * (ofKey (k.set 31 ((k.getD 31 0) % 128))))) + (fv 1))))), ofKey (k.set 31 ((k.getD 31 0) % 128)), fv 1]), .val undef, .val undef] : List SQ) (by kernel_rfl) (by kernel_rfl) (by kernel_rfl) (by kernel_rfl) ?_ ?_
        · intro i o listed an wn ho hls hst hun hdep hI hD K' hK'
          rcases slot_cases (l := [0, 1, 2, 3]) rfl ho hst with rfl | rfl | rfl | rfl | ⟨⟨⟩⟩
          · obtain rfl := Option.some.inj ho
            have hvp : an.eval (.tmp 7) = ptrTo cr7_15 := hI.oq (by kernel_rfl) rfl
            exact hI.pq hD hls rfl rfl rfl _ (run_loadQ rfl hvp wn (hI.upd.keepD Bxr7y14_s11_0).out Tryd.underlying45 rfl szN (by rw [hCr11_1.size]; exact Nat.le_of_ble_eq_true rfl)) (.val (.agg ar11_1)) rfl (congrArg Value.agg (extract_all _ 16 hCr11_1.size)) rfl hK'
          · obtain rfl := Option.some.inj ho
            have hvp : an.eval (.tmp 5) = ptrTo br3_2 := hI.oq (by kernel_rfl) rfl
            exact hI.pq hD hls rfl rfl rfl _ (run_loadQ rfl hvp wn (hI.upd.keepD Bxr3y2_s11_0).out Tryd.underlying45 rfl szN (by rw [hCr3_1.size]; exact Nat.le_of_ble_eq_true rfl)) (.val (.agg ar3_1)) rfl (congrArg Value.agg (extract_all _ 16 hCr3_1.size)) rfl hK'
          · obtain rfl := Option.some.inj ho
            exact hI.cq hD hls rfl rfl rfl 54 #[.const (.int .u64 1)] _ rfl #[.int .u64 1] (by simp [Act.eval]) (run_enter Tryd.func54 (by kernel_rfl) (by kernel_rfl)) (.like (IsC 16 RN [fv 1])) rfl rfl ((rSmallE 1 (by decide) (by decide)).mono fun _ _ h => h.sq) hK'
          · obtain rfl := Option.some.inj ho
            obtain ⟨vp, hvp, rfl⟩ := hI.hq 0 _ 59 _ rfl rfl rfl (dp hdep 0 rfl rfl)
            obtain ⟨vq, hvq, rfl⟩ := hI.hq 1 _ 60 _ rfl rfl rfl (dp hdep 1 rfl rfl)
            obtain ⟨vr, hvr, ar, rfl, hCr⟩ := hI.hq 2 _ 61 _ rfl rfl rfl (dp hdep 2 rfl rfl)
            exact hI.pq hD hls rfl rfl rfl _ (run_buildR6 rfl (eval_of hvp) (eval_of hvq) (eval_of hvr) hCr11_1.size hCr3_1.size hCr.size wn) (.like (IsC 16 RN [-(rrootF ((((ofKey (k.set 31 ((k.getD 31 0) % 128))) * (ofKey (k.set 31 ((k.getD 31 0) % 128)))) - (fv 1)) * (finv ((dC * ((ofKey (k.set 31 ((k.getD 31 0) % 128))) * (ofKey (k.set 31 ((k.getD 31 0) % 128))))) + (fv 1))))), ofKey (k.set 31 ((k.getD 31 0) % 128)), fv 1])) rfl ⟨_, rfl, ((hCr11_1.cat hCr3_1).cat hCr)⟩ rfl hK'
        intro fuel an w13 hf hI
        obtain ⟨vr12_0, hvr12_0, rfl⟩ := hI.hq 0 _ 59 _ rfl rfl rfl rfl
        obtain ⟨vr12_1, hvr12_1, rfl⟩ := hI.hq 1 _ 60 _ rfl rfl rfl rfl
        obtain ⟨vr12_2, hvr12_2, ar12_2, rfl, hCr12_2⟩ := hI.hq 2 _ 61 _ rfl rfl rfl rfl
        obtain ⟨vr12_3, hvr12_3, ar12_3, rfl, hCr12_3⟩ := hI.hq 3 _ 62 _ rfl rfl rfl rfl
        have hupd := hI.upd
        have ha := hI.act [(59, .agg ar11_1), (60, .agg ar3_1), (61, .agg ar12_2), (62, .agg ar12_3)] (by simp [hvr12_0, hvr12_1, hvr12_2, hvr12_3]) (by kernel_rfl)
        clear hI hvr12_0 hvr12_1 hvr12_2 hvr12_3
        subst ha
        simp only [List.foldl_cons, List.foldl_nil, List.setIfInBounds_toArray, List.set_cons_zero, List.set_cons_succ]
        have Bxr0y0_12 := hupd.keepD Bxr0y0_s11_0
        have Bxr0y1_12 := hupd.keepD Bxr0y1_s11_0
        have Bxr3y2_12 := hupd.keepD Bxr3y2_s11_0
        have Bxr6y3_12 := hupd.keepD Bxr6y3_s11_0
        have Bxr7y14_12 := hupd.keepD Bxr7y14_s11_0
        have HU12 := hh (HU11_0.out.drew.trans hupd)
        clear hupd
        have hf0 : left #[true, true, true, true, false, false] 6 = 2 := by kernel_rfl
        have hf1 : left #[true, true, true, true, false, false] 6 ≤ fuel := hf
        obtain ⟨fu, rfl⟩ : ∃ fu, fuel = fu + 2 := ⟨fuel - 2, by omega⟩
        clear hf hf0 hf1
        refine wpAny_storeQ 4 rfl (by kernel_rfl) rfl rfl 47 (.tmp 2) (.tmp 62) rfl br0_1 0 48 rfl ar12_3 rfl 47 zr0_1 Bxr0y1_12.out szR6 hCr12_3.size (by rw [hzr0_1.size]; exact Nat.le_of_ble_eq_true rfl) hCr12_3.one' ?_
        intro ws12_0 hs12_0 hus12_0
        rw [splice_all _ _ 48 hzr0_1.size hCr12_3.size] at hs12_0
        have Bxr0y0_s12_0 := hus12_0.keepS Bxr0y0_12 (fun e => hner0_0_r0_1.out e)
        have Bxr3y2_s12_0 := hus12_0.keepS Bxr3y2_12 (fun e => hner3_2_Bxr0y1_s2_0.out e)
        have Bxr6y3_s12_0 := hus12_0.keepS Bxr6y3_12 (fun e => hner6_3_Bxr0y1_4.out e)
        have Bxr7y14_s12_0 := hus12_0.keepS Bxr7y14_12 (fun e => hner7_14_Bxr0y1_s6_0.out e)
        have Bxr0y1_s12_0 := hh hs12_0
        have HU12_0 := hh (HU12.out.step hus12_0 (fun i hi h => absurd hi (Nat.not_lt.2 (h.symm ▸ hger0_1.out))))
        clear hs12_0 hus12_0
        refine wpAny_pureQ 5 rfl (by kernel_rfl) rfl 3 rfl (.int .i64 0) (run_moveQ (x := .const (.int .i64 0)) (v := .int .i64 0) (.inr rfl) rfl _) ?_
        simp only [List.setIfInBounds_toArray, List.set_cons_zero, List.set_cons_succ]
        refine wpAny_done (by kernel_rfl) ?_ _
        refine hK21 _ _ ?_
        clear hK21
        refine wp_ret ?_
        try dsimp only [Exit.then]
        try dsimp only [Exit.inBlock]
        exact bodyPost_ret (v := .tuple #[.agg ar12_3, .int .i64 0]) (results_cell_tmpQ (fn := Tryd.f25) (p := 2) (q := 3) (ty := 47) rfl _ _ br0_1 ar12_3 (.int .i64 0) rfl rfl Bxr0y1_s12_0.out Tryd.underlying47 rfl (by rw [hCr12_3.size]; exact szR6)) rfl ⟨_, .inr ⟨_, rfl, hCr12_3, qT hl hd Hcd8.out Hsp13.out (zO Hcd17.out) Hcd20.out⟩, HU12_0.out⟩
      have Hcd22 := hh hcd
      clear hcd
      refine wp_skip ?_
      refine hK18 _ _ ?_
      clear hK18
      refine wp_seq_k fun K23 hK23 => ?_
      refine wp_region_qD #[true, true, true, true, false, false] ([.val (.agg (numsA .u64 (canL (rrootF ((((ofKey (k.set 31 ((k.getD 31 0) % 128))) * (ofKey (k.set 31 ((k.getD 31 0) % 128)))) - (fv 1)) * (finv ((dC * ((ofKey (k.set 31 ((k.getD 31 0) % 128))) * (ofKey (k.set 31 ((k.getD 31 0) % 128))))) + (fv 1)))))))), .val (.agg ar3_1), .like (IsC 16 RN [fv 1]), .like (IsC 16 RN [(rrootF ((((ofKey (k.set 31 ((k.getD 31 0) % 128))) * (ofKey (k.set 31 ((k.getD 31 0) % 128)))) - (fv 1)) * (finv ((dC * ((ofKey (k.set 31 ((k.getD 31 0) % 128))) * (ofKey (k.set 31 ((k.getD 31 0) % 128))))) + (fv 1))))), ofKey (k.set 31 ((k.getD 31 0) % 128)), fv 1]), .val undef, .val undef] : List SQ) (by kernel_rfl) (by kernel_rfl) (by kernel_rfl) (by kernel_rfl) ?_ ?_
      · intro i o listed an wn ho hls hst hun hdep hI hD K' hK'
        rcases slot_cases (l := [0, 1, 2, 3]) rfl ho hst with rfl | rfl | rfl | rfl | ⟨⟨⟩⟩
        · obtain rfl := Option.some.inj ho
          have hvp : an.eval (.tmp 7) = ptrTo cr7_15 := hI.oq (by kernel_rfl) rfl
          exact hI.pq hD hls rfl rfl rfl _ (run_loadQ rfl hvp wn (hI.upd.keepD Bxr7y14_10).out Tryd.underlying45 rfl szN (by rw [numsA_size, (canL_length _)]; omega)) (.val (.agg (numsA .u64 (canL (rrootF ((((ofKey (k.set 31 ((k.getD 31 0) % 128))) * (ofKey (k.set 31 ((k.getD 31 0) % 128)))) - (fv 1)) * (finv ((dC * ((ofKey (k.set 31 ((k.getD 31 0) % 128))) * (ofKey (k.set 31 ((k.getD 31 0) % 128))))) + (fv 1))))))))) rfl (congrArg Value.agg (extract_all _ 16 (by rw [numsA_size]; exact (canL_length _)))) rfl hK'
        · obtain rfl := Option.some.inj ho
          have hvp : an.eval (.tmp 5) = ptrTo br3_2 := hI.oq (by kernel_rfl) rfl
          exact hI.pq hD hls rfl rfl rfl _ (run_loadQ rfl hvp wn (hI.upd.keepD Bxr3y2_10).out Tryd.underlying45 rfl szN (by rw [hCr3_1.size]; exact Nat.le_of_ble_eq_true rfl)) (.val (.agg ar3_1)) rfl (congrArg Value.agg (extract_all _ 16 hCr3_1.size)) rfl hK'
        · obtain rfl := Option.some.inj ho
          exact hI.cq hD hls rfl rfl rfl 54 #[.const (.int .u64 1)] _ rfl #[.int .u64 1] (by simp [Act.eval]) (run_enter Tryd.func54 (by kernel_rfl) (by kernel_rfl)) (.like (IsC 16 RN [fv 1])) rfl rfl ((rSmallE 1 (by decide) (by decide)).mono fun _ _ h => h.sq) hK'
        · obtain rfl := Option.some.inj ho
          obtain ⟨vp, hvp, rfl⟩ := hI.hq 0 _ 59 _ rfl rfl rfl (dp hdep 0 rfl rfl)
          obtain ⟨vq, hvq, rfl⟩ := hI.hq 1 _ 60 _ rfl rfl rfl (dp hdep 1 rfl rfl)
          obtain ⟨vr, hvr, ar, rfl, hCr⟩ := hI.hq 2 _ 61 _ rfl rfl rfl (dp hdep 2 rfl rfl)
          exact hI.pq hD hls rfl rfl rfl _ (run_buildR6 rfl (eval_of hvp) (eval_of hvq) (eval_of hvr) (Ch.can _).size hCr3_1.size hCr.size wn) (.like (IsC 16 RN [(rrootF ((((ofKey (k.set 31 ((k.getD 31 0) % 128))) * (ofKey (k.set 31 ((k.getD 31 0) % 128)))) - (fv 1)) * (finv ((dC * ((ofKey (k.set 31 ((k.getD 31 0) % 128))) * (ofKey (k.set 31 ((k.getD 31 0) % 128))))) + (fv 1))))), ofKey (k.set 31 ((k.getD 31 0) % 128)), fv 1])) rfl ⟨_, rfl, (((Ch.can _).cat hCr3_1).cat hCr)⟩ rfl hK'
      intro fuel an w14 hf hI
      obtain ⟨vr13_0, hvr13_0, rfl⟩ := hI.hq 0 _ 59 _ rfl rfl rfl rfl
      obtain ⟨vr13_1, hvr13_1, rfl⟩ := hI.hq 1 _ 60 _ rfl rfl rfl rfl
      obtain ⟨vr13_2, hvr13_2, ar13_2, rfl, hCr13_2⟩ := hI.hq 2 _ 61 _ rfl rfl rfl rfl
      obtain ⟨vr13_3, hvr13_3, ar13_3, rfl, hCr13_3⟩ := hI.hq 3 _ 62 _ rfl rfl rfl rfl
      have hupd := hI.upd
      have ha := hI.act [(59, .agg (numsA .u64 (canL (rrootF ((((ofKey (k.set 31 ((k.getD 31 0) % 128))) * (ofKey (k.set 31 ((k.getD 31 0) % 128)))) - (fv 1)) * (finv ((dC * ((ofKey (k.set 31 ((k.getD 31 0) % 128))) * (ofKey (k.set 31 ((k.getD 31 0) % 128))))) + (fv 1)))))))), (60, .agg ar3_1), (61, .agg ar13_2), (62, .agg ar13_3)] (by simp [hvr13_0, hvr13_1, hvr13_2, hvr13_3]) (by kernel_rfl)
      clear hI hvr13_0 hvr13_1 hvr13_2 hvr13_3
      subst ha
      simp only [List.foldl_cons, List.foldl_nil, List.setIfInBounds_toArray, List.set_cons_zero, List.set_cons_succ]
      have Bxr0y0_13 := hupd.keepD Bxr0y0_10
      have Bxr0y1_13 := hupd.keepD Bxr0y1_10
      have Bxr3y2_13 := hupd.keepD Bxr3y2_10
      have Bxr6y3_13 := hupd.keepD Bxr6y3_10
      have Bxr7y14_13 := hupd.keepD Bxr7y14_10
      have HU13 := hh (HU10.out.drew.trans hupd)
      clear hupd
      have hf0 : left #[true, true, true, true, false, false] 6 = 2 := by kernel_rfl
      have hf1 : left #[true, true, true, true, false, false] 6 ≤ fuel := hf
      obtain ⟨fu, rfl⟩ : ∃ fu, fuel = fu + 2 := ⟨fuel - 2, by omega⟩
      clear hf hf0 hf1
      refine wpAny_storeQ 4 rfl (by kernel_rfl) rfl rfl 47 (.tmp 2) (.tmp 62) rfl br0_1 0 48 rfl ar13_3 rfl 47 zr0_1 Bxr0y1_13.out szR6 hCr13_3.size (by rw [hzr0_1.size]; exact Nat.le_of_ble_eq_true rfl) hCr13_3.one' ?_
      intro ws13_0 hs13_0 hus13_0
      rw [splice_all _ _ 48 hzr0_1.size hCr13_3.size] at hs13_0
      have Bxr0y0_s13_0 := hus13_0.keepS Bxr0y0_13 (fun e => hner0_0_r0_1.out e)
      have Bxr3y2_s13_0 := hus13_0.keepS Bxr3y2_13 (fun e => hner3_2_Bxr0y1_s2_0.out e)
      have Bxr6y3_s13_0 := hus13_0.keepS Bxr6y3_13 (fun e => hner6_3_Bxr0y1_4.out e)
      have Bxr7y14_s13_0 := hus13_0.keepS Bxr7y14_13 (fun e => hner7_14_Bxr0y1_s6_0.out e)
      have Bxr0y1_s13_0 := hh hs13_0
      have HU13_0 := hh (HU13.out.step hus13_0 (fun i hi h => absurd hi (Nat.not_lt.2 (h.symm ▸ hger0_1.out))))
      clear hs13_0 hus13_0
      refine wpAny_pureQ 5 rfl (by kernel_rfl) rfl 3 rfl (.int .i64 0) (run_moveQ (x := .const (.int .i64 0)) (v := .int .i64 0) (.inr rfl) rfl _) ?_
      simp only [List.setIfInBounds_toArray, List.set_cons_zero, List.set_cons_succ]
      refine wpAny_done (by kernel_rfl) ?_ _
      refine hK23 _ _ ?_
      clear hK23
      refine wp_ret ?_
      try dsimp only [Exit.then]
      try dsimp only [Exit.inBlock]
      exact bodyPost_ret (v := .tuple #[.agg ar13_3, .int .i64 0]) (results_cell_tmpQ (fn := Tryd.f25) (p := 2) (q := 3) (ty := 47) rfl _ _ br0_1 ar13_3 (.int .i64 0) rfl rfl Bxr0y1_s13_0.out Tryd.underlying47 rfl (by rw [hCr13_3.size]; exact szR6)) rfl ⟨_, .inr ⟨_, rfl, hCr13_3, qF hl hd Hcd8.out Hsp13.out (zO Hcd17.out) Hcd22.out⟩, HU13_0.out⟩
    have Hsp14 := hh hsp14
    clear hsp14
    refine wp_region_qSD 10 #[true, true, true, true, true, true, true, true, true, true] [] ([.val (.bool true), .val (.bool false), .val (.bool false), .val (.agg (numsA .u64 (canL (rrootF ((((ofKey (k.set 31 ((k.getD 31 0) % 128))) * (ofKey (k.set 31 ((k.getD 31 0) % 128)))) - (fv 1)) * (finv ((dC * ((ofKey (k.set 31 ((k.getD 31 0) % 128))) * (ofKey (k.set 31 ((k.getD 31 0) % 128))))) + (fv 1)))))))), .val (.agg (numsA .u64 (canL 0))), .val (.bool false), .val (.bool false), .val undef, .val (.bool false), .val (.bool false)] : List SQ) (by kernel_rfl) (by kernel_rfl) (by kernel_rfl) (by kernel_rfl) ?_ ?_
    · intro i o listed an wn ho hls hst hun hdep hI hD hpre K' hK'
      rcases slot_cases (l := [0, 1, 2, 3, 4, 5, 6, 7, 8, 9]) rfl ho hst with rfl | rfl | rfl | rfl | rfl | rfl | rfl | rfl | rfl | rfl | ⟨⟨⟩⟩
      · obtain rfl := Option.some.inj ho
        have hvp : an.eval (.tmp 8) = .bool true := hI.oq (by kernel_rfl) rfl
        exact hI.pq hD hls rfl rfl rfl _ (run_moveQ (.inl rfl) hvp wn) (.val (.bool true)) rfl rfl rfl hK'
      · obtain rfl := Option.some.inj ho
        obtain ⟨vp, hvp, rfl⟩ := hI.hq 0 _ 40 _ rfl rfl rfl (dp hdep 0 rfl rfl)
        exact hI.pq hD hls rfl rfl rfl _ (run_not rfl (eval_of hvp) wn) (.val (.bool false)) rfl rfl rfl hK'
      · obtain rfl := Option.some.inj ho
        obtain ⟨vp, hvp, rfl⟩ := hI.hq 1 _ 41 _ rfl rfl rfl (dp hdep 0 rfl rfl)
        exact hI.pq hD hls rfl rfl rfl _ (run_moveQ (.inl rfl) (eval_of hvp) wn) (.val (.bool false)) rfl rfl rfl hK'
      · obtain rfl := Option.some.inj ho
        obtain ⟨vg, hvg, rfl⟩ := hI.hq 2 _ 42 _ rfl rfl rfl (dp hdep 0 rfl rfl)
        have hvp : an.eval (.tmp 7) = ptrTo cr7_15 := hI.oq (by kernel_rfl) rfl
        exact hI.pq hD hls rfl (wanted_of rfl rfl rfl hvg) rfl _ (run_loadQ rfl hvp wn (hI.upd.keep Bxr7y14).out Tryd.underlying45 rfl szN (by rw [numsA_size, (canL_length _)]; omega)) (.val (.agg (numsA .u64 (canL (rrootF ((((ofKey (k.set 31 ((k.getD 31 0) % 128))) * (ofKey (k.set 31 ((k.getD 31 0) % 128)))) - (fv 1)) * (finv ((dC * ((ofKey (k.set 31 ((k.getD 31 0) % 128))) * (ofKey (k.set 31 ((k.getD 31 0) % 128))))) + (fv 1))))))))) rfl (congrArg Value.agg (extract_all _ 16 (by rw [numsA_size]; exact (canL_length _)))) rfl hK'
      · obtain rfl := Option.some.inj ho
        obtain ⟨vg, hvg, rfl⟩ := hI.hq 2 _ 42 _ rfl rfl rfl (dp hdep 0 rfl rfl)
        exact hI.pq hD hls rfl (wanted_of rfl rfl rfl hvg) rfl _ (run_buildN0 rfl wn) (.val (.agg (numsA .u64 (canL 0)))) rfl rfl rfl hK'
      · obtain rfl := Option.some.inj ho
        obtain ⟨vg, hvg, rfl⟩ := hI.hq 2 _ 42 _ rfl rfl rfl (dp hdep 2 rfl rfl)
        obtain ⟨vp, hvp, rfl⟩ := hI.hq 3 _ 43 _ rfl rfl rfl (dp hdep 0 rfl rfl)
        obtain ⟨vq, hvq, rfl⟩ := hI.hq 4 _ 44 _ rfl rfl rfl (dp hdep 1 rfl rfl)
        exact hI.pq hD hls rfl (wanted_of rfl rfl rfl hvg) rfl _ (run_eqlN (b := false) rfl (eval_of hvp) (eval_of hvq) Hsp14.out wn) (.val (.bool false)) rfl rfl rfl hK'
      · obtain rfl := Option.some.inj ho
        obtain ⟨vg, hvg, rfl⟩ := hI.hq 2 _ 42 _ rfl rfl rfl (dp hdep 2 rfl rfl)
        obtain ⟨vp, hvp, rfl⟩ := hI.hq 5 _ 45 _ rfl rfl rfl (dp hdep 0 rfl rfl)
        exact hI.pq hD hls rfl (wanted_of rfl rfl rfl hvg) rfl _ (run_moveQ (.inl rfl) (eval_of hvp) wn) (.val (.bool false)) rfl rfl rfl hK'
      · obtain rfl := Option.some.inj ho
        obtain ⟨vg, hvg, rfl⟩ := hI.hq 6 _ 46 _ rfl rfl rfl (dp hdep 0 rfl rfl)
        exact hI.skipQ hD hls rfl (wanted_notQ rfl rfl rfl hvg rfl) rfl rfl rfl hK'
      · obtain rfl := Option.some.inj ho
        obtain ⟨vg, hvg, rfl⟩ := hI.hq 2 _ 42 _ rfl rfl rfl (dp hdep 2 rfl rfl)
        obtain ⟨vp, hvp, rfl⟩ := hI.hq 6 _ 46 _ rfl rfl rfl (dp hdep 0 rfl rfl)
        exact hI.pq hD hls rfl (wanted_of rfl rfl rfl hvg) rfl _ (run_pickF rfl (eval_of hvp) (show an.eval (.const (.bool false)) = .bool false from rfl) wn) (.val (.bool false)) rfl rfl rfl hK'
      · obtain rfl := Option.some.inj ho
        obtain ⟨vp, hvp, rfl⟩ := hI.hq 2 _ 42 _ rfl rfl rfl (dp hdep 0 rfl rfl)
        obtain ⟨vq, hvq, rfl⟩ := hI.hq 8 _ 48 _ rfl rfl rfl (dp hdep 1 rfl rfl)
        exact hI.pq hD hls rfl rfl rfl _ (run_pickF rfl (eval_of hvp) (eval_of hvq) wn) (.val (.bool false)) rfl rfl rfl hK'
    intro an w15 hI
    obtain ⟨vr14_0, hvr14_0, rfl⟩ := hI.hq 0 _ 40 _ rfl rfl rfl rfl
    obtain ⟨vr14_1, hvr14_1, rfl⟩ := hI.hq 1 _ 41 _ rfl rfl rfl rfl
    obtain ⟨vr14_2, hvr14_2, rfl⟩ := hI.hq 2 _ 42 _ rfl rfl rfl rfl
    obtain ⟨vr14_3, hvr14_3, rfl⟩ := hI.hq 3 _ 43 _ rfl rfl rfl rfl
    obtain ⟨vr14_4, hvr14_4, rfl⟩ := hI.hq 4 _ 44 _ rfl rfl rfl rfl
    obtain ⟨vr14_5, hvr14_5, rfl⟩ := hI.hq 5 _ 45 _ rfl rfl rfl rfl
    obtain ⟨vr14_6, hvr14_6, rfl⟩ := hI.hq 6 _ 46 _ rfl rfl rfl rfl
    obtain ⟨vr14_7, hvr14_7, rfl⟩ := hI.hq 7 _ 47 _ rfl rfl rfl rfl
    obtain ⟨vr14_8, hvr14_8, rfl⟩ := hI.hq 8 _ 48 _ rfl rfl rfl rfl
    obtain ⟨vr14_9, hvr14_9, rfl⟩ := hI.hq 9 _ 49 _ rfl rfl rfl rfl
    have hupd := hI.upd
    have ha := hI.act [(40, .bool true), (41, .bool false), (42, .bool false), (43, .agg (numsA .u64 (canL (rrootF ((((ofKey (k.set 31 ((k.getD 31 0) % 128))) * (ofKey (k.set 31 ((k.getD 31 0) % 128)))) - (fv 1)) * (finv ((dC * ((ofKey (k.set 31 ((k.getD 31 0) % 128))) * (ofKey (k.set 31 ((k.getD 31 0) % 128))))) + (fv 1)))))))), (44, .agg (numsA .u64 (canL 0))), (45, .bool false), (46, .bool false), (47, undef), (48, .bool false), (49, .bool false)] (by simp [hvr14_0, hvr14_1, hvr14_2, hvr14_3, hvr14_4, hvr14_5, hvr14_6, hvr14_7, hvr14_8, hvr14_9]) (by kernel_rfl)
    clear hI hvr14_0 hvr14_1 hvr14_2 hvr14_3 hvr14_4 hvr14_5 hvr14_6 hvr14_7 hvr14_8 hvr14_9
    subst ha
    simp only [List.foldl_cons, List.foldl_nil, List.setIfInBounds_toArray, List.set_cons_zero, List.set_cons_succ]
    have Bxr0y0_14 := hupd.keep Bxr0y0_7
    have Bxr0y1_14 := hupd.keep Bxr0y1_7
    have Bxr3y2_14 := hupd.keep Bxr3y2_7
    have Bxr6y3_14 := hupd.keep Bxr6y3_7
    have Bxr7y14_14 := hupd.keep Bxr7y14
    have HU14 := hh (HU7.out.trans hupd)
    clear hupd
    refine wpOps_nil ?_
    refine hK12 _ _ ?_
    clear hK12
    refine wp_cond_false rfl ?_
    refine wp_skip ?_
    refine hK11 _ _ ?_
    clear hK11
    refine wp_seq_k fun K24 hK24 => ?_
    refine wp_seq_k fun K25 hK25 => ?_
    have hq15_2 : Int.tmod ((canL (rrootF ((((ofKey (k.set 31 ((k.getD 31 0) % 128))) * (ofKey (k.set 31 ((k.getD 31 0) % 128)))) - (fv 1)) * (finv ((dC * ((ofKey (k.set 31 ((k.getD 31 0) % 128))) * (ofKey (k.set 31 ((k.getD 31 0) % 128))))) + (fv 1)))))).getD 0 0) 2 = (((canL (rrootF ((((ofKey (k.set 31 ((k.getD 31 0) % 128))) * (ofKey (k.set 31 ((k.getD 31 0) % 128)))) - (fv 1)) * (finv ((dC * ((ofKey (k.set 31 ((k.getD 31 0) % 128))) * (ofKey (k.set 31 ((k.getD 31 0) % 128))))) + (fv 1)))))).getD 0 0) % 2) := Int.tmod_eq_emod_of_nonneg (by omega)
    refine wp_region_qSD 6 #[true, true, true, true, true, true] [] ([.val (.pointer (some ⟨cr7_15, 0 + 0, none⟩)), .val (.int .u64 ((canL (rrootF ((((ofKey (k.set 31 ((k.getD 31 0) % 128))) * (ofKey (k.set 31 ((k.getD 31 0) % 128)))) - (fv 1)) * (finv ((dC * ((ofKey (k.set 31 ((k.getD 31 0) % 128))) * (ofKey (k.set 31 ((k.getD 31 0) % 128))))) + (fv 1)))))).getD 0 0)), .val (.int .u64 (((canL (rrootF ((((ofKey (k.set 31 ((k.getD 31 0) % 128))) * (ofKey (k.set 31 ((k.getD 31 0) % 128)))) - (fv 1)) * (finv ((dC * ((ofKey (k.set 31 ((k.getD 31 0) % 128))) * (ofKey (k.set 31 ((k.getD 31 0) % 128))))) + (fv 1)))))).getD 0 0) % 2)), .val (.bool (decide ((((canL (rrootF ((((ofKey (k.set 31 ((k.getD 31 0) % 128))) * (ofKey (k.set 31 ((k.getD 31 0) % 128)))) - (fv 1)) * (finv ((dC * ((ofKey (k.set 31 ((k.getD 31 0) % 128))) * (ofKey (k.set 31 ((k.getD 31 0) % 128))))) + (fv 1)))))).getD 0 0) % 2) = 1))), .val (.bool (decide (128 ≤ (k.getD 31 0)))), .val (.bool ((decide ((((canL (rrootF ((((ofKey (k.set 31 ((k.getD 31 0) % 128))) * (ofKey (k.set 31 ((k.getD 31 0) % 128)))) - (fv 1)) * (finv ((dC * ((ofKey (k.set 31 ((k.getD 31 0) % 128))) * (ofKey (k.set 31 ((k.getD 31 0) % 128))))) + (fv 1)))))).getD 0 0) % 2) = 1)) != (decide (128 ≤ (k.getD 31 0)))))] : List SQ) (by kernel_rfl) (by kernel_rfl) (by kernel_rfl) (by kernel_rfl) ?_ ?_
    · intro i o listed an wn ho hls hst hun hdep hI hD hpre K' hK'
      rcases slot_cases (l := [0, 1, 2, 3, 4, 5]) rfl ho hst with rfl | rfl | rfl | rfl | rfl | rfl | ⟨⟨⟩⟩
      · obtain rfl := Option.some.inj ho
        have hvp : an.eval (.tmp 7) = ptrTo cr7_15 := hI.oq (by kernel_rfl) rfl
        exact hI.pq hD hls rfl rfl rfl _ (run_adr (off := 0) (i := 0) rfl Tryd.underlying45 (by kernel_rfl) hvp rfl (by omega) wn) (.val (.pointer (some ⟨cr7_15, 0 + 0, none⟩))) rfl rfl rfl hK'
      · obtain rfl := Option.some.inj ho
        obtain ⟨vp, hvp, rfl⟩ := hI.hq 0 _ 51 _ rfl rfl rfl (dp hdep 0 rfl rfl)
        exact hI.pq hD hls rfl rfl rfl _ (run_cellQ rfl Tryd.underlying36 (eval_of hvp) wn (hI.upd.keep Bxr7y14_14).out (by rw [Nat.zero_add]; exact numsA_get _ _ _ (by rw [(canL_length _)]; omega))) (.val (.int .u64 ((canL (rrootF ((((ofKey (k.set 31 ((k.getD 31 0) % 128))) * (ofKey (k.set 31 ((k.getD 31 0) % 128)))) - (fv 1)) * (finv ((dC * ((ofKey (k.set 31 ((k.getD 31 0) % 128))) * (ofKey (k.set 31 ((k.getD 31 0) % 128))))) + (fv 1)))))).getD 0 0))) rfl rfl rfl hK'
      · obtain rfl := Option.some.inj ho
        obtain ⟨vp, hvp, rfl⟩ := hI.hq 1 _ 52 _ rfl rfl rfl (dp hdep 0 rfl rfl)
        exact hI.pq hD hls rfl rfl rfl _ (run_rem rfl (eval_of hvp) rfl (by decide) hq15_2 wn) (.val (.int .u64 (((canL (rrootF ((((ofKey (k.set 31 ((k.getD 31 0) % 128))) * (ofKey (k.set 31 ((k.getD 31 0) % 128)))) - (fv 1)) * (finv ((dC * ((ofKey (k.set 31 ((k.getD 31 0) % 128))) * (ofKey (k.set 31 ((k.getD 31 0) % 128))))) + (fv 1)))))).getD 0 0) % 2))) rfl rfl rfl hK'
      · obtain rfl := Option.some.inj ho
        obtain ⟨vp, hvp, rfl⟩ := hI.hq 2 _ 53 _ rfl rfl rfl (dp hdep 0 rfl rfl)
        exact hI.pq hD hls rfl rfl rfl _ (run_eql rfl (eval_of hvp) rfl rfl wn) (.val (.bool (decide ((((canL (rrootF ((((ofKey (k.set 31 ((k.getD 31 0) % 128))) * (ofKey (k.set 31 ((k.getD 31 0) % 128)))) - (fv 1)) * (finv ((dC * ((ofKey (k.set 31 ((k.getD 31 0) % 128))) * (ofKey (k.set 31 ((k.getD 31 0) % 128))))) + (fv 1)))))).getD 0 0) % 2) = 1)))) rfl rfl rfl hK'
      · obtain rfl := Option.some.inj ho
        have hvp : an.eval (.tmp 4) = .bool (decide (128 ≤ (k.getD 31 0))) := hI.oq (by kernel_rfl) rfl
        exact hI.pq hD hls rfl rfl rfl _ (run_moveQ (.inl rfl) hvp wn) (.val (.bool (decide (128 ≤ (k.getD 31 0))))) rfl rfl rfl hK'
      · obtain rfl := Option.some.inj ho
        obtain ⟨vp, hvp, rfl⟩ := hI.hq 3 _ 54 _ rfl rfl rfl (dp hdep 0 rfl rfl)
        obtain ⟨vq, hvq, rfl⟩ := hI.hq 4 _ 55 _ rfl rfl rfl (dp hdep 1 rfl rfl)
        exact hI.pq hD hls rfl rfl rfl _ (run_neqB rfl (eval_of hvp) (eval_of hvq) rfl wn) (.val (.bool ((decide ((((canL (rrootF ((((ofKey (k.set 31 ((k.getD 31 0) % 128))) * (ofKey (k.set 31 ((k.getD 31 0) % 128)))) - (fv 1)) * (finv ((dC * ((ofKey (k.set 31 ((k.getD 31 0) % 128))) * (ofKey (k.set 31 ((k.getD 31 0) % 128))))) + (fv 1)))))).getD 0 0) % 2) = 1)) != (decide (128 ≤ (k.getD 31 0)))))) rfl rfl rfl hK'
    intro an w16 hI
    obtain ⟨vr15_0, hvr15_0, rfl⟩ := hI.hq 0 _ 51 _ rfl rfl rfl rfl
    obtain ⟨vr15_1, hvr15_1, rfl⟩ := hI.hq 1 _ 52 _ rfl rfl rfl rfl
    obtain ⟨vr15_2, hvr15_2, rfl⟩ := hI.hq 2 _ 53 _ rfl rfl rfl rfl
    obtain ⟨vr15_3, hvr15_3, rfl⟩ := hI.hq 3 _ 54 _ rfl rfl rfl rfl
    obtain ⟨vr15_4, hvr15_4, rfl⟩ := hI.hq 4 _ 55 _ rfl rfl rfl rfl
    obtain ⟨vr15_5, hvr15_5, rfl⟩ := hI.hq 5 _ 56 _ rfl rfl rfl rfl
    have hupd := hI.upd
    have ha := hI.act [(51, .pointer (some ⟨cr7_15, 0 + 0, none⟩)), (52, .int .u64 ((canL (rrootF ((((ofKey (k.set 31 ((k.getD 31 0) % 128))) * (ofKey (k.set 31 ((k.getD 31 0) % 128)))) - (fv 1)) * (finv ((dC * ((ofKey (k.set 31 ((k.getD 31 0) % 128))) * (ofKey (k.set 31 ((k.getD 31 0) % 128))))) + (fv 1)))))).getD 0 0)), (53, .int .u64 (((canL (rrootF ((((ofKey (k.set 31 ((k.getD 31 0) % 128))) * (ofKey (k.set 31 ((k.getD 31 0) % 128)))) - (fv 1)) * (finv ((dC * ((ofKey (k.set 31 ((k.getD 31 0) % 128))) * (ofKey (k.set 31 ((k.getD 31 0) % 128))))) + (fv 1)))))).getD 0 0) % 2)), (54, .bool (decide ((((canL (rrootF ((((ofKey (k.set 31 ((k.getD 31 0) % 128))) * (ofKey (k.set 31 ((k.getD 31 0) % 128)))) - (fv 1)) * (finv ((dC * ((ofKey (k.set 31 ((k.getD 31 0) % 128))) * (ofKey (k.set 31 ((k.getD 31 0) % 128))))) + (fv 1)))))).getD 0 0) % 2) = 1))), (55, .bool (decide (128 ≤ (k.getD 31 0)))), (56, .bool ((decide ((((canL (rrootF ((((ofKey (k.set 31 ((k.getD 31 0) % 128))) * (ofKey (k.set 31 ((k.getD 31 0) % 128)))) - (fv 1)) * (finv ((dC * ((ofKey (k.set 31 ((k.getD 31 0) % 128))) * (ofKey (k.set 31 ((k.getD 31 0) % 128))))) + (fv 1)))))).getD 0 0) % 2) = 1)) != (decide (128 ≤ (k.getD 31 0)))))] (by simp [hvr15_0, hvr15_1, hvr15_2, hvr15_3, hvr15_4, hvr15_5]) (by kernel_rfl)
    clear hI hvr15_0 hvr15_1 hvr15_2 hvr15_3 hvr15_4 hvr15_5
    subst ha
    simp only [List.foldl_cons, List.foldl_nil, List.setIfInBounds_toArray, List.set_cons_zero, List.set_cons_succ]
    have Bxr0y0_15 := hupd.keep Bxr0y0_14
    have Bxr0y1_15 := hupd.keep Bxr0y1_14
    have Bxr3y2_15 := hupd.keep Bxr3y2_14
    have Bxr6y3_15 := hupd.keep Bxr6y3_14
    have Bxr7y14_15 := hupd.keep Bxr7y14_14
    have HU15 := hh (HU14.out.trans hupd)
    clear hupd
    refine wpOps_nil ?_
    refine hK25 _ _ ?_
    clear hK25
    refine wp_cond_split (t := ((decide ((((canL (rrootF ((((ofKey (k.set 31 ((k.getD 31 0) % 128))) * (ofKey (k.set 31 ((k.getD 31 0) % 128)))) - (fv 1)) * (finv ((dC * ((ofKey (k.set 31 ((k.getD 31 0) % 128))) * (ofKey (k.set 31 ((k.getD 31 0) % 128))))) + (fv 1)))))).getD 0 0) % 2) = 1)) != (decide (128 ≤ (k.getD 31 0))))) rfl (fun hcd => ?_) (fun hcd => ?_)
    · have Hcd26 := hh hcd
      clear hcd
      refine wp_region_qSD 2 #[true, true, false] [2] ([.val (.agg (numsA .u64 (canL (rrootF ((((ofKey (k.set 31 ((k.getD 31 0) % 128))) * (ofKey (k.set 31 ((k.getD 31 0) % 128)))) - (fv 1)) * (finv ((dC * ((ofKey (k.set 31 ((k.getD 31 0) % 128))) * (ofKey (k.set 31 ((k.getD 31 0) % 128))))) + (fv 1)))))))), .like (IsC 16 RN [-(rrootF ((((ofKey (k.set 31 ((k.getD 31 0) % 128))) * (ofKey (k.set 31 ((k.getD 31 0) % 128)))) - (fv 1)) * (finv ((dC * ((ofKey (k.set 31 ((k.getD 31 0) % 128))) * (ofKey (k.set 31 ((k.getD 31 0) % 128))))) + (fv 1)))))]), .val undef] : List SQ) (by kernel_rfl) (by kernel_rfl) (by kernel_rfl) (by kernel_rfl) ?_ ?_
      · intro i o listed an wn ho hls hst hun hdep hI hD hpre K' hK'
        rcases slot_cases (l := [0, 1]) rfl ho hst with rfl | rfl | ⟨⟨⟩⟩
        · obtain rfl := Option.some.inj ho
          have hvp : an.eval (.tmp 7) = ptrTo cr7_15 := hI.oq (by kernel_rfl) rfl
          exact hI.pq hD hls rfl rfl rfl _ (run_loadQ rfl hvp wn (hI.upd.keep Bxr7y14_15).out Tryd.underlying45 rfl szN (by rw [numsA_size, (canL_length _)]; omega)) (.val (.agg (numsA .u64 (canL (rrootF ((((ofKey (k.set 31 ((k.getD 31 0) % 128))) * (ofKey (k.set 31 ((k.getD 31 0) % 128)))) - (fv 1)) * (finv ((dC * ((ofKey (k.set 31 ((k.getD 31 0) % 128))) * (ofKey (k.set 31 ((k.getD 31 0) % 128))))) + (fv 1))))))))) rfl (congrArg Value.agg (extract_all _ 16 (by rw [numsA_size]; exact (canL_length _)))) rfl hK'
        · obtain rfl := Option.some.inj ho
          obtain ⟨vp, hvp, rfl⟩ := hI.hq 0 _ 57 _ rfl rfl rfl (dp hdep 0 rfl rfl)
          exact hI.cq hD hls rfl rfl rfl 68 #[.tmp 57] _ rfl #[.agg (numsA .u64 (canL (rrootF ((((ofKey (k.set 31 ((k.getD 31 0) % 128))) * (ofKey (k.set 31 ((k.getD 31 0) % 128)))) - (fv 1)) * (finv ((dC * ((ofKey (k.set 31 ((k.getD 31 0) % 128))) * (ofKey (k.set 31 ((k.getD 31 0) % 128))))) + (fv 1)))))))] (by simp [eval_of hvp]) (run_enter Tryd.func68 (by kernel_rfl) (by kernel_rfl)) (.like (IsC 16 RN [-(rrootF ((((ofKey (k.set 31 ((k.getD 31 0) % 128))) * (ofKey (k.set 31 ((k.getD 31 0) % 128)))) - (fv 1)) * (finv ((dC * ((ofKey (k.set 31 ((k.getD 31 0) % 128))) * (ofKey (k.set 31 ((k.getD 31 0) % 128))))) + (fv 1)))))])) rfl rfl ((rNegE (Ch.can _)).mono fun _ _ h => h.sq) hK'
      intro an w17 hI
      obtain ⟨vr16_0, hvr16_0, rfl⟩ := hI.hq 0 _ 57 _ rfl rfl rfl rfl
      obtain ⟨vr16_1, hvr16_1, ar16_1, rfl, hCr16_1⟩ := hI.hq 1 _ 58 _ rfl rfl rfl rfl
      have hupd := hI.upd
      have ha := hI.act [(57, .agg (numsA .u64 (canL (rrootF ((((ofKey (k.set 31 ((k.getD 31 0) % 128))) * (ofKey (k.set 31 ((k.getD 31 0) % 128)))) - (fv 1)) * (finv ((dC * ((ofKey (k.set 31 ((k.getD 31 0) % 128))) * (ofKey (k.set 31 ((k.getD 31 0) % 128))))) + (fv 1)))))))), (58, .agg ar16_1)] (by simp [hvr16_0, hvr16_1]) (by kernel_rfl)
      clear hI hvr16_0 hvr16_1
      subst ha
      simp only [List.foldl_cons, List.foldl_nil, List.setIfInBounds_toArray, List.set_cons_zero, List.set_cons_succ]
      have Bxr0y0_16 := hupd.keep Bxr0y0_15
      have Bxr0y1_16 := hupd.keep Bxr0y1_15
      have Bxr3y2_16 := hupd.keep Bxr3y2_15
      have Bxr6y3_16 := hupd.keep Bxr6y3_15
      have Bxr7y14_16 := hupd.keep Bxr7y14_15
      have HU16 := hh (HU15.out.trans hupd)
      clear hupd
      refine wpOps_storeQ 2 rfl rfl rfl 45 (.tmp 7) (.tmp 58) rfl cr7_15 0 16 rfl ar16_1 rfl 45 (numsA .u64 (canL (rrootF ((((ofKey (k.set 31 ((k.getD 31 0) % 128))) * (ofKey (k.set 31 ((k.getD 31 0) % 128)))) - (fv 1)) * (finv ((dC * ((ofKey (k.set 31 ((k.getD 31 0) % 128))) * (ofKey (k.set 31 ((k.getD 31 0) % 128))))) + (fv 1))))))) Bxr7y14_16.out szN hCr16_1.size (by rw [(show (numsA _ _).size = 16 by rw [numsA_size]; exact (canL_length _))]; exact Nat.le_of_ble_eq_true rfl) hCr16_1.one' ?_
      intro ws16_0 hs16_0 hus16_0
      rw [splice_all _ _ 16 (show (numsA _ _).size = 16 by rw [numsA_size]; exact (canL_length _)) hCr16_1.size] at hs16_0
      have Bxr0y0_s16_0 := hus16_0.keepS Bxr0y0_16 (fun e => hner7_14_Bxr0y0_s6_0.out e.symm)
      have Bxr0y1_s16_0 := hus16_0.keepS Bxr0y1_16 (fun e => hner7_14_Bxr0y1_s6_0.out e.symm)
      have Bxr3y2_s16_0 := hus16_0.keepS Bxr3y2_16 (fun e => hner7_14_Bxr3y2_s6_0.out e.symm)
      have Bxr6y3_s16_0 := hus16_0.keepS Bxr6y3_16 (fun e => hner7_14_Bxr6y3_s6_0.out e.symm)
      have Bxr7y14_s16_0 := hh hs16_0
      have HU16_0 := hh (HU16.out.step hus16_0 (fun i hi h => absurd hi (Nat.not_lt.2 (h.symm ▸ hger7_14.out))))
      clear hs16_0 hus16_0
      refine wpOps_nil ?_
      refine hK24 _ _ ?_
      clear hK24
      refine wp_seq_k fun K27 hK27 => ?_
      refine wp_region_qD #[true, true, true, true, false, false] ([.val (.agg ar16_1), .val (.agg ar3_1), .like (IsC 16 RN [fv 1]), .like (IsC 16 RN [-(rrootF ((((ofKey (k.set 31 ((k.getD 31 0) % 128))) * (ofKey (k.set 31 ((k.getD 31 0) % 128)))) - (fv 1)) * (finv ((dC * ((ofKey (k.set 31 ((k.getD 31 0) % 128))) * (ofKey (k.set 31 ((k.getD 31 0) % 128))))) + (fv 1))))), ofKey (k.set 31 ((k.getD 31 0) % 128)), fv 1]), .val undef, .val undef] : List SQ) (by kernel_rfl) (by kernel_rfl) (by kernel_rfl) (by kernel_rfl) ?_ ?_
      · intro i o listed an wn ho hls hst hun hdep hI hD K' hK'
        rcases slot_cases (l := [0, 1, 2, 3]) rfl ho hst with rfl | rfl | rfl | rfl | ⟨⟨⟩⟩
        · obtain rfl := Option.some.inj ho
          have hvp : an.eval (.tmp 7) = ptrTo cr7_15 := hI.oq (by kernel_rfl) rfl
          exact hI.pq hD hls rfl rfl rfl _ (run_loadQ rfl hvp wn (hI.upd.keepD Bxr7y14_s16_0).out Tryd.underlying45 rfl szN (by rw [hCr16_1.size]; exact Nat.le_of_ble_eq_true rfl)) (.val (.agg ar16_1)) rfl (congrArg Value.agg (extract_all _ 16 hCr16_1.size)) rfl hK'
        · obtain rfl := Option.some.inj ho
          have hvp : an.eval (.tmp 5) = ptrTo br3_2 := hI.oq (by kernel_rfl) rfl
          exact hI.pq hD hls rfl rfl rfl _ (run_loadQ rfl hvp wn (hI.upd.keepD Bxr3y2_s16_0).out Tryd.underlying45 rfl szN (by rw [hCr3_1.size]; exact Nat.le_of_ble_eq_true rfl)) (.val (.agg ar3_1)) rfl (congrArg Value.agg (extract_all _ 16 hCr3_1.size)) rfl hK'
        · obtain rfl := Option.some.inj ho
          exact hI.cq hD hls rfl rfl rfl 54 #[.const (.int .u64 1)] _ rfl #[.int .u64 1] (by simp [Act.eval]) (run_enter Tryd.func54 (by kernel_rfl) (by kernel_rfl)) (.like (IsC 16 RN [fv 1])) rfl rfl ((rSmallE 1 (by decide) (by decide)).mono fun _ _ h => h.sq) hK'
        · obtain rfl := Option.some.inj ho
          obtain ⟨vp, hvp, rfl⟩ := hI.hq 0 _ 59 _ rfl rfl rfl (dp hdep 0 rfl rfl)
          obtain ⟨vq, hvq, rfl⟩ := hI.hq 1 _ 60 _ rfl rfl rfl (dp hdep 1 rfl rfl)
          obtain ⟨vr, hvr, ar, rfl, hCr⟩ := hI.hq 2 _ 61 _ rfl rfl rfl (dp hdep 2 rfl rfl)
          exact hI.pq hD hls rfl rfl rfl _ (run_buildR6 rfl (eval_of hvp) (eval_of hvq) (eval_of hvr) hCr16_1.size hCr3_1.size hCr.size wn) (.like (IsC 16 RN [-(rrootF ((((ofKey (k.set 31 ((k.getD 31 0) % 128))) * (ofKey (k.set 31 ((k.getD 31 0) % 128)))) - (fv 1)) * (finv ((dC * ((ofKey (k.set 31 ((k.getD 31 0) % 128))) * (ofKey (k.set 31 ((k.getD 31 0) % 128))))) + (fv 1))))), ofKey (k.set 31 ((k.getD 31 0) % 128)), fv 1])) rfl ⟨_, rfl, ((hCr16_1.cat hCr3_1).cat hCr)⟩ rfl hK'
      intro fuel an w18 hf hI
      obtain ⟨vr17_0, hvr17_0, rfl⟩ := hI.hq 0 _ 59 _ rfl rfl rfl rfl
      obtain ⟨vr17_1, hvr17_1, rfl⟩ := hI.hq 1 _ 60 _ rfl rfl rfl rfl
      obtain ⟨vr17_2, hvr17_2, ar17_2, rfl, hCr17_2⟩ := hI.hq 2 _ 61 _ rfl rfl rfl rfl
      obtain ⟨vr17_3, hvr17_3, ar17_3, rfl, hCr17_3⟩ := hI.hq 3 _ 62 _ rfl rfl rfl rfl
      have hupd := hI.upd
      have ha := hI.act [(59, .agg ar16_1), (60, .agg ar3_1), (61, .agg ar17_2), (62, .agg ar17_3)] (by simp [hvr17_0, hvr17_1, hvr17_2, hvr17_3]) (by kernel_rfl)
      clear hI hvr17_0 hvr17_1 hvr17_2 hvr17_3
      subst ha
      simp only [List.foldl_cons, List.foldl_nil, List.setIfInBounds_toArray, List.set_cons_zero, List.set_cons_succ]
      have Bxr0y0_17 := hupd.keepD Bxr0y0_s16_0
      have Bxr0y1_17 := hupd.keepD Bxr0y1_s16_0
      have Bxr3y2_17 := hupd.keepD Bxr3y2_s16_0
      have Bxr6y3_17 := hupd.keepD Bxr6y3_s16_0
      have Bxr7y14_17 := hupd.keepD Bxr7y14_s16_0
      have HU17 := hh (HU16_0.out.drew.trans hupd)
      clear hupd
      have hf0 : left #[true, true, true, true, false, false] 6 = 2 := by kernel_rfl
      have hf1 : left #[true, true, true, true, false, false] 6 ≤ fuel := hf
      obtain ⟨fu, rfl⟩ : ∃ fu, fuel = fu + 2 := ⟨fuel - 2, by omega⟩
      clear hf hf0 hf1
      refine wpAny_storeQ 4 rfl (by kernel_rfl) rfl rfl 47 (.tmp 2) (.tmp 62) rfl br0_1 0 48 rfl ar17_3 rfl 47 zr0_1 Bxr0y1_17.out szR6 hCr17_3.size (by rw [hzr0_1.size]; exact Nat.le_of_ble_eq_true rfl) hCr17_3.one' ?_
      intro ws17_0 hs17_0 hus17_0
      rw [splice_all _ _ 48 hzr0_1.size hCr17_3.size] at hs17_0
      have Bxr0y0_s17_0 := hus17_0.keepS Bxr0y0_17 (fun e => hner0_0_r0_1.out e)
      have Bxr3y2_s17_0 := hus17_0.keepS Bxr3y2_17 (fun e => hner3_2_Bxr0y1_s2_0.out e)
      have Bxr6y3_s17_0 := hus17_0.keepS Bxr6y3_17 (fun e => hner6_3_Bxr0y1_4.out e)
      have Bxr7y14_s17_0 := hus17_0.keepS Bxr7y14_17 (fun e => hner7_14_Bxr0y1_s6_0.out e)
      have Bxr0y1_s17_0 := hh hs17_0
      have HU17_0 := hh (HU17.out.step hus17_0 (fun i hi h => absurd hi (Nat.not_lt.2 (h.symm ▸ hger0_1.out))))
      clear hs17_0 hus17_0
      refine wpAny_pureQ 5 rfl (by kernel_rfl) rfl 3 rfl (.int .i64 0) (run_moveQ (x := .const (.int .i64 0)) (v := .int .i64 0) (.inr rfl) rfl _) ?_
      simp only [List.setIfInBounds_toArray, List.set_cons_zero, List.set_cons_succ]
      refine wpAny_done (by kernel_rfl) ?_ _
      refine hK27 _ _ ?_
      clear hK27
      refine wp_ret ?_
      try dsimp only [Exit.then]
      try dsimp only [Exit.inBlock]
      exact bodyPost_ret (v := .tuple #[.agg ar17_3, .int .i64 0]) (results_cell_tmpQ (fn := Tryd.f25) (p := 2) (q := 3) (ty := 47) rfl _ _ br0_1 ar17_3 (.int .i64 0) rfl rfl Bxr0y1_s17_0.out Tryd.underlying47 rfl (by rw [hCr17_3.size]; exact szR6)) rfl ⟨_, .inr ⟨_, rfl, hCr17_3, qT hl hd Hcd8.out Hsp13.out (zF Hsp14.out) Hcd26.out⟩, HU17_0.out⟩
    have Hcd28 := hh hcd
    clear hcd
    refine wp_skip ?_
    refine hK24 _ _ ?_
    clear hK24
    refine wp_seq_k fun K29 hK29 => ?_
    refine wp_region_qD #[true, true, true, true, false, false] ([.val (.agg (numsA .u64 (canL (rrootF ((((ofKey (k.set 31 ((k.getD 31 0) % 128))) * (ofKey (k.set 31 ((k.getD 31 0) % 128)))) - (fv 1)) * (finv ((dC * ((ofKey (k.set 31 ((k.getD 31 0) % 128))) * (ofKey (k.set 31 ((k.getD 31 0) % 128))))) + (fv 1)))))))), .val (.agg ar3_1), .like (IsC 16 RN [fv 1]), .like (IsC 16 RN [(rrootF ((((ofKey (k.set 31 ((k.getD 31 0) % 128))) * (ofKey (k.set 31 ((k.getD 31 0) % 128)))) - (fv 1)) * (finv ((dC * ((ofKey (k.set 31 ((k.getD 31 0) % 128))) * (ofKey (k.set 31 ((k.getD 31 0) % 128))))) + (fv 1))))), ofKey (k.set 31 ((k.getD 31 0) % 128)), fv 1]), .val undef, .val undef] : List SQ) (by kernel_rfl) (by kernel_rfl) (by kernel_rfl) (by kernel_rfl) ?_ ?_
    · intro i o listed an wn ho hls hst hun hdep hI hD K' hK'
      rcases slot_cases (l := [0, 1, 2, 3]) rfl ho hst with rfl | rfl | rfl | rfl | ⟨⟨⟩⟩
      · obtain rfl := Option.some.inj ho
        have hvp : an.eval (.tmp 7) = ptrTo cr7_15 := hI.oq (by kernel_rfl) rfl
        exact hI.pq hD hls rfl rfl rfl _ (run_loadQ rfl hvp wn (hI.upd.keepD Bxr7y14_15).out Tryd.underlying45 rfl szN (by rw [numsA_size, (canL_length _)]; omega)) (.val (.agg (numsA .u64 (canL (rrootF ((((ofKey (k.set 31 ((k.getD 31 0) % 128))) * (ofKey (k.set 31 ((k.getD 31 0) % 128)))) - (fv 1)) * (finv ((dC * ((ofKey (k.set 31 ((k.getD 31 0) % 128))) * (ofKey (k.set 31 ((k.getD 31 0) % 128))))) + (fv 1))))))))) rfl (congrArg Value.agg (extract_all _ 16 (by rw [numsA_size]; exact (canL_length _)))) rfl hK'
      · obtain rfl := Option.some.inj ho
        have hvp : an.eval (.tmp 5) = ptrTo br3_2 := hI.oq (by kernel_rfl) rfl
        exact hI.pq hD hls rfl rfl rfl _ (run_loadQ rfl hvp wn (hI.upd.keepD Bxr3y2_15).out Tryd.underlying45 rfl szN (by rw [hCr3_1.size]; exact Nat.le_of_ble_eq_true rfl)) (.val (.agg ar3_1)) rfl (congrArg Value.agg (extract_all _ 16 hCr3_1.size)) rfl hK'
      · obtain rfl := Option.some.inj ho
        exact hI.cq hD hls rfl rfl rfl 54 #[.const (.int .u64 1)] _ rfl #[.int .u64 1] (by simp [Act.eval]) (run_enter Tryd.func54 (by kernel_rfl) (by kernel_rfl)) (.like (IsC 16 RN [fv 1])) rfl rfl ((rSmallE 1 (by decide) (by decide)).mono fun _ _ h => h.sq) hK'
      · obtain rfl := Option.some.inj ho
        obtain ⟨vp, hvp, rfl⟩ := hI.hq 0 _ 59 _ rfl rfl rfl (dp hdep 0 rfl rfl)
        obtain ⟨vq, hvq, rfl⟩ := hI.hq 1 _ 60 _ rfl rfl rfl (dp hdep 1 rfl rfl)
        obtain ⟨vr, hvr, ar, rfl, hCr⟩ := hI.hq 2 _ 61 _ rfl rfl rfl (dp hdep 2 rfl rfl)
        exact hI.pq hD hls rfl rfl rfl _ (run_buildR6 rfl (eval_of hvp) (eval_of hvq) (eval_of hvr) (Ch.can _).size hCr3_1.size hCr.size wn) (.like (IsC 16 RN [(rrootF ((((ofKey (k.set 31 ((k.getD 31 0) % 128))) * (ofKey (k.set 31 ((k.getD 31 0) % 128)))) - (fv 1)) * (finv ((dC * ((ofKey (k.set 31 ((k.getD 31 0) % 128))) * (ofKey (k.set 31 ((k.getD 31 0) % 128))))) + (fv 1))))), ofKey (k.set 31 ((k.getD 31 0) % 128)), fv 1])) rfl ⟨_, rfl, (((Ch.can _).cat hCr3_1).cat hCr)⟩ rfl hK'
    intro fuel an w19 hf hI
    obtain ⟨vr18_0, hvr18_0, rfl⟩ := hI.hq 0 _ 59 _ rfl rfl rfl rfl
    obtain ⟨vr18_1, hvr18_1, rfl⟩ := hI.hq 1 _ 60 _ rfl rfl rfl rfl
    obtain ⟨vr18_2, hvr18_2, ar18_2, rfl, hCr18_2⟩ := hI.hq 2 _ 61 _ rfl rfl rfl rfl
    obtain ⟨vr18_3, hvr18_3, ar18_3, rfl, hCr18_3⟩ := hI.hq 3 _ 62 _ rfl rfl rfl rfl
    have hupd := hI.upd
    have ha := hI.act [(59, .agg (numsA .u64 (canL (rrootF ((((ofKey (k.set 31 ((k.getD 31 0) % 128))) * (ofKey (k.set 31 ((k.getD 31 0) % 128)))) - (fv 1)) * (finv ((dC * ((ofKey (k.set 31 ((k.getD 31 0) % 128))) * (ofKey (k.set 31 ((k.getD 31 0) % 128))))) + (fv 1)))))))), (60, .agg ar3_1), (61, .agg ar18_2), (62, .agg ar18_3)] (by simp [hvr18_0, hvr18_1, hvr18_2, hvr18_3]) (by kernel_rfl)
    clear hI hvr18_0 hvr18_1 hvr18_2 hvr18_3
    subst ha
    simp only [List.foldl_cons, List.foldl_nil, List.setIfInBounds_toArray, List.set_cons_zero, List.set_cons_succ]
    have Bxr0y0_18 := hupd.keepD Bxr0y0_15
    have Bxr0y1_18 := hupd.keepD Bxr0y1_15
    have Bxr3y2_18 := hupd.keepD Bxr3y2_15
    have Bxr6y3_18 := hupd.keepD Bxr6y3_15
    have Bxr7y14_18 := hupd.keepD Bxr7y14_15
    have HU18 := hh (HU15.out.drew.trans hupd)
    clear hupd
    have hf0 : left #[true, true, true, true, false, false] 6 = 2 := by kernel_rfl
    have hf1 : left #[true, true, true, true, false, false] 6 ≤ fuel := hf
    obtain ⟨fu, rfl⟩ : ∃ fu, fuel = fu + 2 := ⟨fuel - 2, by omega⟩
    clear hf hf0 hf1
    refine wpAny_storeQ 4 rfl (by kernel_rfl) rfl rfl 47 (.tmp 2) (.tmp 62) rfl br0_1 0 48 rfl ar18_3 rfl 47 zr0_1 Bxr0y1_18.out szR6 hCr18_3.size (by rw [hzr0_1.size]; exact Nat.le_of_ble_eq_true rfl) hCr18_3.one' ?_
    intro ws18_0 hs18_0 hus18_0
    rw [splice_all _ _ 48 hzr0_1.size hCr18_3.size] at hs18_0
    have Bxr0y0_s18_0 := hus18_0.keepS Bxr0y0_18 (fun e => hner0_0_r0_1.out e)
    have Bxr3y2_s18_0 := hus18_0.keepS Bxr3y2_18 (fun e => hner3_2_Bxr0y1_s2_0.out e)
    have Bxr6y3_s18_0 := hus18_0.keepS Bxr6y3_18 (fun e => hner6_3_Bxr0y1_4.out e)
    have Bxr7y14_s18_0 := hus18_0.keepS Bxr7y14_18 (fun e => hner7_14_Bxr0y1_s6_0.out e)
    have Bxr0y1_s18_0 := hh hs18_0
    have HU18_0 := hh (HU18.out.step hus18_0 (fun i hi h => absurd hi (Nat.not_lt.2 (h.symm ▸ hger0_1.out))))
    clear hs18_0 hus18_0
    refine wpAny_pureQ 5 rfl (by kernel_rfl) rfl 3 rfl (.int .i64 0) (run_moveQ (x := .const (.int .i64 0)) (v := .int .i64 0) (.inr rfl) rfl _) ?_
    simp only [List.setIfInBounds_toArray, List.set_cons_zero, List.set_cons_succ]
    refine wpAny_done (by kernel_rfl) ?_ _
    refine hK29 _ _ ?_
    clear hK29
    refine wp_ret ?_
    try dsimp only [Exit.then]
    try dsimp only [Exit.inBlock]
    exact bodyPost_ret (v := .tuple #[.agg ar18_3, .int .i64 0]) (results_cell_tmpQ (fn := Tryd.f25) (p := 2) (q := 3) (ty := 47) rfl _ _ br0_1 ar18_3 (.int .i64 0) rfl rfl Bxr0y1_s18_0.out Tryd.underlying47 rfl (by rw [hCr18_3.size]; exact szR6)) rfl ⟨_, .inr ⟨_, rfl, hCr18_3, qF hl hd Hcd8.out Hsp13.out (zF Hsp14.out) Hcd28.out⟩, HU18_0.out⟩
  have Hsp13 := hh hsp13
  rw [hsp13]
  clear hsp13
  refine wp_region_qSD 10 #[true, true, true, true, true, true, true, true, true, true] [] ([.val (.bool false), .val (.bool true), .val (.bool true), .val undef, .val undef, .val undef, .val undef, .val undef, .val undef, .val (.bool true)] : List SQ) (by kernel_rfl) (by kernel_rfl) (by kernel_rfl) (by kernel_rfl) ?_ ?_
  · intro i o listed an wn ho hls hst hun hdep hI hD hpre K' hK'
    rcases slot_cases (l := [0, 1, 2, 3, 4, 5, 6, 7, 8, 9]) rfl ho hst with rfl | rfl | rfl | rfl | rfl | rfl | rfl | rfl | rfl | rfl | ⟨⟨⟩⟩
    · obtain rfl := Option.some.inj ho
      have hvp : an.eval (.tmp 8) = .bool false := hI.oq (by kernel_rfl) rfl
      exact hI.pq hD hls rfl rfl rfl _ (run_moveQ (.inl rfl) hvp wn) (.val (.bool false)) rfl rfl rfl hK'
    · obtain rfl := Option.some.inj ho
      obtain ⟨vp, hvp, rfl⟩ := hI.hq 0 _ 40 _ rfl rfl rfl (dp hdep 0 rfl rfl)
      exact hI.pq hD hls rfl rfl rfl _ (run_not rfl (eval_of hvp) wn) (.val (.bool true)) rfl rfl rfl hK'
    · obtain rfl := Option.some.inj ho
      obtain ⟨vp, hvp, rfl⟩ := hI.hq 1 _ 41 _ rfl rfl rfl (dp hdep 0 rfl rfl)
      exact hI.pq hD hls rfl rfl rfl _ (run_moveQ (.inl rfl) (eval_of hvp) wn) (.val (.bool true)) rfl rfl rfl hK'
    · obtain rfl := Option.some.inj ho
      obtain ⟨vg, hvg, rfl⟩ := hI.hq 2 _ 42 _ rfl rfl rfl (dp hdep 0 rfl rfl)
      exact hI.skipQ hD hls rfl (wanted_notQ rfl rfl rfl hvg rfl) rfl rfl rfl hK'
    · obtain rfl := Option.some.inj ho
      obtain ⟨vg, hvg, rfl⟩ := hI.hq 2 _ 42 _ rfl rfl rfl (dp hdep 0 rfl rfl)
      exact hI.skipQ hD hls rfl (wanted_notQ rfl rfl rfl hvg rfl) rfl rfl rfl hK'
    · obtain rfl := Option.some.inj ho
      obtain ⟨vg, hvg, rfl⟩ := hI.hq 2 _ 42 _ rfl rfl rfl (dp hdep 2 rfl rfl)
      exact hI.skipQ hD hls rfl (wanted_notQ rfl rfl rfl hvg rfl) rfl rfl rfl hK'
    · obtain rfl := Option.some.inj ho
      obtain ⟨vg, hvg, rfl⟩ := hI.hq 2 _ 42 _ rfl rfl rfl (dp hdep 2 rfl rfl)
      exact hI.skipQ hD hls rfl (wanted_notQ rfl rfl rfl hvg rfl) rfl rfl rfl hK'
    · obtain rfl := Option.some.inj ho
      obtain ⟨vg, hvg, rfl⟩ := hI.hq 6 _ 46 _ rfl rfl rfl (dp hdep 0 rfl rfl)
      exact hI.skipQ hD hls rfl (wanted_undef rfl rfl rfl hvg) rfl rfl rfl hK'
    · obtain rfl := Option.some.inj ho
      obtain ⟨vg, hvg, rfl⟩ := hI.hq 2 _ 42 _ rfl rfl rfl (dp hdep 2 rfl rfl)
      exact hI.skipQ hD hls rfl (wanted_notQ rfl rfl rfl hvg rfl) rfl rfl rfl hK'
    · obtain rfl := Option.some.inj ho
      obtain ⟨vp, hvp, rfl⟩ := hI.hq 2 _ 42 _ rfl rfl rfl (dp hdep 0 rfl rfl)
      exact hI.pq hD hls rfl rfl rfl _ (run_pickT rfl (eval_of hvp) (show an.eval (.const (.bool true)) = .bool true from rfl) wn) (.val (.bool true)) rfl rfl rfl hK'
  intro an w20 hI
  obtain ⟨vr19_0, hvr19_0, rfl⟩ := hI.hq 0 _ 40 _ rfl rfl rfl rfl
  obtain ⟨vr19_1, hvr19_1, rfl⟩ := hI.hq 1 _ 41 _ rfl rfl rfl rfl
  obtain ⟨vr19_2, hvr19_2, rfl⟩ := hI.hq 2 _ 42 _ rfl rfl rfl rfl
  obtain ⟨vr19_3, hvr19_3, rfl⟩ := hI.hq 3 _ 43 _ rfl rfl rfl rfl
  obtain ⟨vr19_4, hvr19_4, rfl⟩ := hI.hq 4 _ 44 _ rfl rfl rfl rfl
  obtain ⟨vr19_5, hvr19_5, rfl⟩ := hI.hq 5 _ 45 _ rfl rfl rfl rfl
  obtain ⟨vr19_6, hvr19_6, rfl⟩ := hI.hq 6 _ 46 _ rfl rfl rfl rfl
  obtain ⟨vr19_7, hvr19_7, rfl⟩ := hI.hq 7 _ 47 _ rfl rfl rfl rfl
  obtain ⟨vr19_8, hvr19_8, rfl⟩ := hI.hq 8 _ 48 _ rfl rfl rfl rfl
  obtain ⟨vr19_9, hvr19_9, rfl⟩ := hI.hq 9 _ 49 _ rfl rfl rfl rfl
  have hupd := hI.upd
  have ha := hI.act [(40, .bool false), (41, .bool true), (42, .bool true), (43, undef), (44, undef), (45, undef), (46, undef), (47, undef), (48, undef), (49, .bool true)] (by simp [hvr19_0, hvr19_1, hvr19_2, hvr19_3, hvr19_4, hvr19_5, hvr19_6, hvr19_7, hvr19_8, hvr19_9]) (by kernel_rfl)
  clear hI hvr19_0 hvr19_1 hvr19_2 hvr19_3 hvr19_4 hvr19_5 hvr19_6 hvr19_7 hvr19_8 hvr19_9
  subst ha
  simp only [List.foldl_cons, List.foldl_nil, List.setIfInBounds_toArray, List.set_cons_zero, List.set_cons_succ]
  have Bxr0y0_19 := hupd.keep Bxr0y0_7
  have Bxr0y1_19 := hupd.keep Bxr0y1_7
  have Bxr3y2_19 := hupd.keep Bxr3y2_7
  have Bxr6y3_19 := hupd.keep Bxr6y3_7
  have Bxr7y14_19 := hupd.keep Bxr7y14
  have HU19 := hh (HU7.out.trans hupd)
  clear hupd
  refine wpOps_nil ?_
  refine hK12 _ _ ?_
  clear hK12
  refine wp_cond_true rfl ?_
  refine wp_seq_k fun K30 hK30 => ?_
  refine wp_region_qSD 1 #[true, false, false] [1, 2] ([.val (.agg zR6), .val undef, .val undef] : List SQ) (by kernel_rfl) (by kernel_rfl) (by kernel_rfl) (by kernel_rfl) ?_ ?_
  · intro i o listed an wn ho hls hst hun hdep hI hD hpre K' hK'
    rcases slot_cases (l := [0]) rfl ho hst with rfl | ⟨⟨⟩⟩
    · obtain rfl := Option.some.inj ho
      exact hI.pq hD hls rfl rfl rfl _ (run_buildR60 rfl wn) (.val (.agg zR6)) rfl rfl rfl hK'
  intro an w21 hI
  obtain ⟨vr20_0, hvr20_0, rfl⟩ := hI.hq 0 _ 50 _ rfl rfl rfl rfl
  have hupd := hI.upd
  have ha := hI.act [(50, .agg zR6)] (by simp [hvr20_0]) (by kernel_rfl)
  clear hI hvr20_0
  subst ha
  simp only [List.foldl_cons, List.foldl_nil, List.setIfInBounds_toArray, List.set_cons_zero, List.set_cons_succ]
  have Bxr0y0_20 := hupd.keep Bxr0y0_19
  have Bxr0y1_20 := hupd.keep Bxr0y1_19
  have Bxr3y2_20 := hupd.keep Bxr3y2_19
  have Bxr6y3_20 := hupd.keep Bxr6y3_19
  have Bxr7y14_20 := hupd.keep Bxr7y14_19
  have HU20 := hh (HU19.out.trans hupd)
  clear hupd
  refine wpOps_storeQ 1 rfl rfl rfl 47 (.tmp 2) (.tmp 50) rfl br0_1 0 48 rfl zR6 rfl 47 zr0_1 Bxr0y1_20.out szR6 zR6_ch.size (by rw [hzr0_1.size]; exact Nat.le_of_ble_eq_true rfl) zR6_ch.one' ?_
  intro ws20_0 hs20_0 hus20_0
  rw [splice_all _ _ 48 hzr0_1.size zR6_ch.size] at hs20_0
  have Bxr0y0_s20_0 := hus20_0.keepS Bxr0y0_20 (fun e => hner0_0_r0_1.out e)
  have Bxr3y2_s20_0 := hus20_0.keepS Bxr3y2_20 (fun e => hner3_2_Bxr0y1_s2_0.out e)
  have Bxr6y3_s20_0 := hus20_0.keepS Bxr6y3_20 (fun e => hner6_3_Bxr0y1_4.out e)
  have Bxr7y14_s20_0 := hus20_0.keepS Bxr7y14_20 (fun e => hner7_14_Bxr0y1_s6_0.out e)
  have Bxr0y1_s20_0 := hh hs20_0
  have HU20_0 := hh (HU20.out.step hus20_0 (fun i hi h => absurd hi (Nat.not_lt.2 (h.symm ▸ hger0_1.out))))
  clear hs20_0 hus20_0
  refine wpOps_pureQ 2 rfl rfl 3 rfl (.int .i64 60) (run_moveQ (x := .const (.int .i64 60)) (v := .int .i64 60) (.inr rfl) rfl _) ?_
  simp only [List.setIfInBounds_toArray, List.set_cons_zero, List.set_cons_succ]
  refine wpOps_nil ?_
  refine hK30 _ _ ?_
  clear hK30
  refine wp_ret ?_
  try dsimp only [Exit.then]
  try dsimp only [Exit.inBlock]
  exact bodyPost_ret (v := .tuple #[.agg zR6, .int .i64 60]) (results_cell_tmpQ (fn := Tryd.f25) (p := 2) (q := 3) (ty := 47) rfl _ _ br0_1 zR6 (.int .i64 60) rfl rfl Bxr0y1_s20_0.out Tryd.underlying47 rfl (by rw [zR6_ch.size]; exact szR6)) rfl ⟨_, .inl ⟨rfl, zR6_ch, qB Hsp13.out⟩, HU20_0.out⟩
end Go.Proofs.YtdpafemcpbhlfaaDoor
