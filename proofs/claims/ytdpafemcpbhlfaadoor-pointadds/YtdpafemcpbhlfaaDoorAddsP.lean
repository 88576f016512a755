/-
  The walk of PointAdds.
-/
import Derived.Test.YtdpafemcpbhlfaaDoorPt5
import Derived.Test.YtdpafemcpbhlfaaDoorPtD
import Derived.Test.YtdpafemcpbhlfaaDoorR6R
namespace Go.Proofs.YtdpafemcpbhlfaaDoor
set_option maxRecDepth 100000
open Go.RowKit

set_option maxHeartbeats 4000000 in
theorem paddsT {a b : List Int} {eP fP : EP} (w : World) (hT : Tw w) (ha : a.length = 32) (da : Digs 256 a) (hb : b.length = 32) (db : Digs 256 b) (hk : encP eP = a) (hj : encP fP = b) :
    Calls Tryd.prog 9 #[.agg (numsA .u8 a), .agg (numsA .u8 b)] w fun e w' => e = .returned (.bool true) ∧ Upd (fun _ => False) w w' := by
  have HT := hh hT
  clear hT
  have HU := hh (Upd.refl (fun _ => False) w)
  go_enter Tryd.func9, Tryd.ntmps9
  refine wp_seq_k fun K0 hK0 => ?_
  refine wp_region_qSD 3 #[true, true, true] [] ([.blk ptrTo 23 (fun z => z = numsA .u8 a), .blk ptrTo 23 (fun z => z = numsA .u8 b), .val (.bool false)] : List SQ) (by kernel_rfl) (by kernel_rfl) (by kernel_rfl) (by kernel_rfl) ?_ ?_
  · intro i o listed an wn ho hls hst hun hdep hI hD hpre K' hK'
    rcases slot_cases (l := [0, 1, 2]) rfl ho hst with rfl | rfl | rfl | ⟨⟨⟩⟩
    · obtain rfl := Option.some.inj ho
      have hvp : an.eval (.tmp 0) = .agg (numsA .u8 a) := hI.oq (by kernel_rfl) rfl
      exact hI.newQ hD hls (Nat.le_refl _) (newsQ_spec (l := [0, 1]) (by kernel_rfl) ⟨⟨_, _, rfl⟩, ⟨_, _, rfl⟩, trivial⟩) rfl rfl rfl 23 _ (fun z => z = numsA .u8 a) (run_boxQ rfl hvp wn) rfl rfl hK'
    · obtain rfl := Option.some.inj ho
      have hvp : an.eval (.tmp 1) = .agg (numsA .u8 b) := hI.oq (by kernel_rfl) rfl
      exact hI.newQ hD hls (Nat.le_refl _) (newsQ_spec (l := [0, 1]) (by kernel_rfl) ⟨⟨_, _, rfl⟩, ⟨_, _, rfl⟩, trivial⟩) rfl rfl rfl 23 _ (fun z => z = numsA .u8 b) (run_boxQ rfl hvp wn) rfl rfl hK'
    · obtain rfl := Option.some.inj ho
      exact hI.pq hD hls rfl rfl rfl _ (run_moveQ (.inr rfl) (show an.eval (.const (.bool false)) = .bool false from rfl) wn) (.val (.bool false)) rfl rfl rfl hK'
  intro an w1 hI
  obtain ⟨vr0_0, hvr0_0, br0_0, zr0_0, rfl, hnr0_0, hbr0_0, hzr0_0⟩ := hI.hq 0 _ 2 _ rfl rfl rfl rfl
  rw [hzr0_0] at hbr0_0
  clear hzr0_0
  obtain ⟨vr0_1, hvr0_1, br0_1, zr0_1, rfl, hnr0_1, hbr0_1, hzr0_1⟩ := hI.hq 1 _ 3 _ rfl rfl rfl rfl
  rw [hzr0_1] at hbr0_1
  clear hzr0_1
  obtain ⟨vr0_2, hvr0_2, rfl⟩ := hI.hq 2 _ 4 _ rfl rfl rfl rfl
  have hupd := hI.upd
  have hner0_0_r0_1 := hh (show br0_0 ≠ br0_1 from fun e => hI.apart 0 1 _ _ 2 3 (by omega) rfl rfl rfl rfl rfl rfl rfl rfl (by rw [hvr0_0, hvr0_1, e]))
  have ha := hI.act [(2, ptrTo br0_0), (3, ptrTo br0_1), (4, .bool false)] (by simp [hvr0_0, hvr0_1, hvr0_2]) (by kernel_rfl)
  clear hI hvr0_0 hvr0_1 hvr0_2
  subst ha
  simp only [List.foldl_cons, List.foldl_nil, List.setIfInBounds_toArray, List.set_cons_zero, List.set_cons_succ]
  have hger0_0 := geB HU hnr0_0
  have hger0_1 := geB HU hnr0_1
  have Bxr0y0 := hh hbr0_0
  have Bxr0y1 := hh hbr0_1
  have HU0 := hh (HU.out.trans hupd)
  clear hupd
  refine wpOps_nil ?_
  refine hK0 _ _ ?_
  clear hK0
  refine wp_seq_k fun K1 hK1 => ?_
  refine wp_seq_k fun K2 hK2 => ?_
  refine wp_region_qSD 2 #[true, true] [] ([.val (.bool true), .val (.bool false)] : List SQ) (by kernel_rfl) (by kernel_rfl) (by kernel_rfl) (by kernel_rfl) ?_ ?_
  · intro i o listed an wn ho hls hst hun hdep hI hD hpre K' hK'
    rcases slot_cases (l := [0, 1]) rfl ho hst with rfl | rfl | ⟨⟨⟩⟩
    · obtain rfl := Option.some.inj ho
      exact hI.cq hD hls rfl rfl rfl 23 #[] _ rfl #[] (by simp) (run_enter Tryd.func23 (by kernel_rfl) (by kernel_rfl)) (.val (.bool true)) rfl rfl ((basedL _ (HT.out.upd (HU0.out.trans hI.upd))).mono fun _ _ h => ret_val h) hK'
    · obtain rfl := Option.some.inj ho
      obtain ⟨vp, hvp, rfl⟩ := hI.hq 0 _ 13 _ rfl rfl rfl (dp hdep 0 rfl rfl)
      exact hI.pq hD hls rfl rfl rfl _ (run_not rfl (eval_of hvp) wn) (.val (.bool false)) rfl rfl rfl hK'
  intro an w2 hI
  obtain ⟨vr1_0, hvr1_0, rfl⟩ := hI.hq 0 _ 13 _ rfl rfl rfl rfl
  obtain ⟨vr1_1, hvr1_1, rfl⟩ := hI.hq 1 _ 14 _ rfl rfl rfl rfl
  have hupd := hI.upd
  have ha := hI.act [(13, .bool true), (14, .bool false)] (by simp [hvr1_0, hvr1_1]) (by kernel_rfl)
  clear hI hvr1_0 hvr1_1
  subst ha
  simp only [List.foldl_cons, List.foldl_nil, List.setIfInBounds_toArray, List.set_cons_zero, List.set_cons_succ]
  have Bxr0y0_1 := hupd.keep Bxr0y0
  have Bxr0y1_1 := hupd.keep Bxr0y1
  have HU1 := hh (HU0.out.trans hupd)
  clear hupd
  refine wpOps_nil ?_
  refine hK2 _ _ ?_
  clear hK2
  refine wp_cond_false rfl ?_
  refine wp_skip ?_
  refine hK1 _ _ ?_
  clear hK1
  refine wp_seq_k fun K3 hK3 => ?_
  refine wp_region_qSD 6 #[true, true, true, true, true, true, false, false] [6, 7] ([.val (.agg (numsA .u8 a)), .like (IsCV 20 RP [some eP] (.int .i64 0)), .like (IsCV 20 RP [some eP] (.int .i64 0)), .like (IsC 20 RP [some eP]), .val (.int .i64 0), .blk ptrTo 41 (Ch 20 RP [none]), .val undef, .val undef] : List SQ) (by kernel_rfl) (by kernel_rfl) (by kernel_rfl) (by kernel_rfl) ?_ ?_
  · intro i o listed an wn ho hls hst hun hdep hI hD hpre K' hK'
    rcases slot_cases (l := [0, 1, 2, 3, 4, 5]) rfl ho hst with rfl | rfl | rfl | rfl | rfl | rfl | ⟨⟨⟩⟩
    · obtain rfl := Option.some.inj ho
      have hvp : an.eval (.tmp 2) = ptrTo br0_0 := hI.oq (by kernel_rfl) rfl
      exact hI.pq hD hls rfl rfl rfl _ (run_loadQ rfl hvp wn (hI.upd.keep Bxr0y0_1).out Tryd.underlying23 rfl sizeKey (by rw [numsA_size, ha]; omega)) (.val (.agg (numsA .u8 a))) rfl (congrArg Value.agg (extract_all _ 32 (by rw [numsA_size]; exact ha))) rfl hK'
    · obtain rfl := Option.some.inj ho
      obtain ⟨vp, hvp, rfl⟩ := hI.hq 0 _ 16 _ rfl rfl rfl (dp hdep 0 rfl rfl)
      exact hI.cq hD hls rfl rfl rfl 24 #[.tmp 16] _ rfl #[.agg (numsA .u8 a)] (by simp [eval_of hvp]) (run_enter Tryd.func24 (by kernel_rfl) (by kernel_rfl)) (.like (IsCV 20 RP [some eP] (.int .i64 0))) rfl rfl ((decodeT _ (HT.out.upd (HU1.out.trans hI.upd)) ha da hk).mono fun _ _ h => h.sq) hK'
    · obtain rfl := Option.some.inj ho
      obtain ⟨vp, hvp, ap, rfl, hCp⟩ := hI.hq 1 _ 17 _ rfl rfl rfl (dp hdep 0 rfl rfl)
      exact hI.pq hD hls rfl rfl rfl _ (run_moveQ (.inl rfl) (eval_of hvp) wn) (.like (IsCV 20 RP [some eP] (.int .i64 0))) rfl ⟨_, rfl, hCp⟩ rfl hK'
    · obtain rfl := Option.some.inj ho
      obtain ⟨vp, hvp, ap, rfl, hCp⟩ := hI.hq 2 _ 15 _ rfl rfl rfl (dp hdep 0 rfl rfl)
      exact hI.pq hD hls rfl rfl rfl _ (run_extractQ rfl (eval_of hvp) rfl wn) (.like (IsC 20 RP [some eP])) rfl ⟨_, rfl, hCp⟩ rfl hK'
    · obtain rfl := Option.some.inj ho
      obtain ⟨vp, hvp, ap, rfl, hCp⟩ := hI.hq 2 _ 15 _ rfl rfl rfl (dp hdep 0 rfl rfl)
      exact hI.pq hD hls rfl rfl rfl _ (run_extractQ rfl (eval_of hvp) rfl wn) (.val (.int .i64 0)) rfl rfl rfl hK'
    · obtain rfl := Option.some.inj ho
      exact hI.newQ hD hls (Nat.le_refl _) (newsQ_spec (l := [5]) (by kernel_rfl) ⟨⟨_, _, rfl⟩, trivial⟩) rfl rfl rfl 41 zPt _ (run_allocQ rfl zPt_run wn) rfl zPt_p hK'
  intro an w3 hI
  obtain ⟨vr2_0, hvr2_0, rfl⟩ := hI.hq 0 _ 16 _ rfl rfl rfl rfl
  obtain ⟨vr2_1, hvr2_1, ar2_1, rfl, hCr2_1⟩ := hI.hq 1 _ 17 _ rfl rfl rfl rfl
  obtain ⟨vr2_2, hvr2_2, ar2_2, rfl, hCr2_2⟩ := hI.hq 2 _ 15 _ rfl rfl rfl rfl
  obtain ⟨vr2_3, hvr2_3, ar2_3, rfl, hCr2_3⟩ := hI.hq 3 _ 18 _ rfl rfl rfl rfl
  obtain ⟨vr2_4, hvr2_4, rfl⟩ := hI.hq 4 _ 19 _ rfl rfl rfl rfl
  obtain ⟨vr2_5, hvr2_5, br2_5, zr2_5, rfl, hnr2_5, hbr2_5, hzr2_5⟩ := hI.hq 5 _ 5 _ rfl rfl rfl rfl
  have hupd := hI.upd
  have ha := hI.act [(16, .agg (numsA .u8 a)), (17, .tuple #[.agg ar2_1, .int .i64 0]), (15, .tuple #[.agg ar2_2, .int .i64 0]), (18, .agg ar2_3), (19, .int .i64 0), (5, ptrTo br2_5)] (by simp [hvr2_0, hvr2_1, hvr2_2, hvr2_3, hvr2_4, hvr2_5]) (by kernel_rfl)
  clear hI hvr2_0 hvr2_1 hvr2_2 hvr2_3 hvr2_4 hvr2_5
  subst ha
  simp only [List.foldl_cons, List.foldl_nil, List.setIfInBounds_toArray, List.set_cons_zero, List.set_cons_succ]
  have hner2_5_Bxr0y0_1 := apartB Bxr0y0_1 hnr2_5
  have hner2_5_Bxr0y1_1 := apartB Bxr0y1_1 hnr2_5
  have hger2_5 := geB HU1 hnr2_5
  have Bxr0y0_2 := hupd.keep Bxr0y0_1
  have Bxr0y1_2 := hupd.keep Bxr0y1_1
  have Bxr2y5 := hh hbr2_5
  have HU2 := hh (HU1.out.trans hupd)
  clear hupd
  refine wpOps_storeQ 6 rfl rfl rfl 41 (.tmp 5) (.tmp 18) rfl br2_5 0 20 rfl ar2_3 rfl 41 zr2_5 Bxr2y5.out szPt hCr2_3.size (by rw [hzr2_5.size]; exact Nat.le_of_ble_eq_true rfl) hCr2_3.one' ?_
  intro ws2_0 hs2_0 hus2_0
  rw [splice_all _ _ 20 hzr2_5.size hCr2_3.size] at hs2_0
  have Bxr0y0_s2_0 := hus2_0.keepS Bxr0y0_2 (fun e => hner2_5_Bxr0y0_1.out e.symm)
  have Bxr0y1_s2_0 := hus2_0.keepS Bxr0y1_2 (fun e => hner2_5_Bxr0y1_1.out e.symm)
  have Bxr2y5_s2_0 := hh hs2_0
  have HU2_0 := hh (HU2.out.step hus2_0 (fun i hi h => absurd hi (Nat.not_lt.2 (h.symm ▸ hger2_5.out))))
  clear hs2_0 hus2_0
  refine wpOps_pureQ 7 rfl rfl 6 rfl (.int .i64 0) (run_moveQ (x := .tmp 19) (v := .int .i64 0) (.inr rfl) rfl _) ?_
  simp only [List.setIfInBounds_toArray, List.set_cons_zero, List.set_cons_succ]
  refine wpOps_nil ?_
  refine hK3 _ _ ?_
  clear hK3
  refine wp_seq_k fun K4 hK4 => ?_
  refine wp_region_qSD 6 #[true, true, true, true, true, true, false, false] [6, 7] ([.val (.agg (numsA .u8 b)), .like (IsCV 20 RP [some fP] (.int .i64 0)), .like (IsCV 20 RP [some fP] (.int .i64 0)), .like (IsC 20 RP [some fP]), .val (.int .i64 0), .blk ptrTo 41 (Ch 20 RP [none]), .val undef, .val undef] : List SQ) (by kernel_rfl) (by kernel_rfl) (by kernel_rfl) (by kernel_rfl) ?_ ?_
  · intro i o listed an wn ho hls hst hun hdep hI hD hpre K' hK'
    rcases slot_cases (l := [0, 1, 2, 3, 4, 5]) rfl ho hst with rfl | rfl | rfl | rfl | rfl | rfl | ⟨⟨⟩⟩
    · obtain rfl := Option.some.inj ho
      have hvp : an.eval (.tmp 3) = ptrTo br0_1 := hI.oq (by kernel_rfl) rfl
      exact hI.pq hD hls rfl rfl rfl _ (run_loadQ rfl hvp wn (hI.upd.keep Bxr0y1_s2_0).out Tryd.underlying23 rfl sizeKey (by rw [numsA_size, hb]; omega)) (.val (.agg (numsA .u8 b))) rfl (congrArg Value.agg (extract_all _ 32 (by rw [numsA_size]; exact hb))) rfl hK'
    · obtain rfl := Option.some.inj ho
      obtain ⟨vp, hvp, rfl⟩ := hI.hq 0 _ 21 _ rfl rfl rfl (dp hdep 0 rfl rfl)
      exact hI.cq hD hls rfl rfl rfl 24 #[.tmp 21] _ rfl #[.agg (numsA .u8 b)] (by simp [eval_of hvp]) (run_enter Tryd.func24 (by kernel_rfl) (by kernel_rfl)) (.like (IsCV 20 RP [some fP] (.int .i64 0))) rfl rfl ((decodeT _ (HT.out.upd (HU2_0.out.trans hI.upd)) hb db hj).mono fun _ _ h => h.sq) hK'
    · obtain rfl := Option.some.inj ho
      obtain ⟨vp, hvp, ap, rfl, hCp⟩ := hI.hq 1 _ 22 _ rfl rfl rfl (dp hdep 0 rfl rfl)
      exact hI.pq hD hls rfl rfl rfl _ (run_moveQ (.inl rfl) (eval_of hvp) wn) (.like (IsCV 20 RP [some fP] (.int .i64 0))) rfl ⟨_, rfl, hCp⟩ rfl hK'
    · obtain rfl := Option.some.inj ho
      obtain ⟨vp, hvp, ap, rfl, hCp⟩ := hI.hq 2 _ 20 _ rfl rfl rfl (dp hdep 0 rfl rfl)
      exact hI.pq hD hls rfl rfl rfl _ (run_extractQ rfl (eval_of hvp) rfl wn) (.like (IsC 20 RP [some fP])) rfl ⟨_, rfl, hCp⟩ rfl hK'
    · obtain rfl := Option.some.inj ho
      obtain ⟨vp, hvp, ap, rfl, hCp⟩ := hI.hq 2 _ 20 _ rfl rfl rfl (dp hdep 0 rfl rfl)
      exact hI.pq hD hls rfl rfl rfl _ (run_extractQ rfl (eval_of hvp) rfl wn) (.val (.int .i64 0)) rfl rfl rfl hK'
    · obtain rfl := Option.some.inj ho
      exact hI.newQ hD hls (Nat.le_refl _) (newsQ_spec (l := [5]) (by kernel_rfl) ⟨⟨_, _, rfl⟩, trivial⟩) rfl rfl rfl 41 zPt _ (run_allocQ rfl zPt_run wn) rfl zPt_p hK'
  intro an w4 hI
  obtain ⟨vr3_0, hvr3_0, rfl⟩ := hI.hq 0 _ 21 _ rfl rfl rfl rfl
  obtain ⟨vr3_1, hvr3_1, ar3_1, rfl, hCr3_1⟩ := hI.hq 1 _ 22 _ rfl rfl rfl rfl
  obtain ⟨vr3_2, hvr3_2, ar3_2, rfl, hCr3_2⟩ := hI.hq 2 _ 20 _ rfl rfl rfl rfl
  obtain ⟨vr3_3, hvr3_3, ar3_3, rfl, hCr3_3⟩ := hI.hq 3 _ 23 _ rfl rfl rfl rfl
  obtain ⟨vr3_4, hvr3_4, rfl⟩ := hI.hq 4 _ 24 _ rfl rfl rfl rfl
  obtain ⟨vr3_5, hvr3_5, br3_5, zr3_5, rfl, hnr3_5, hbr3_5, hzr3_5⟩ := hI.hq 5 _ 7 _ rfl rfl rfl rfl
  have hupd := hI.upd
  have ha := hI.act [(21, .agg (numsA .u8 b)), (22, .tuple #[.agg ar3_1, .int .i64 0]), (20, .tuple #[.agg ar3_2, .int .i64 0]), (23, .agg ar3_3), (24, .int .i64 0), (7, ptrTo br3_5)] (by simp [hvr3_0, hvr3_1, hvr3_2, hvr3_3, hvr3_4, hvr3_5]) (by kernel_rfl)
  clear hI hvr3_0 hvr3_1 hvr3_2 hvr3_3 hvr3_4 hvr3_5
  subst ha
  simp only [List.foldl_cons, List.foldl_nil, List.setIfInBounds_toArray, List.set_cons_zero, List.set_cons_succ]
  have hner3_5_Bxr0y0_s2_0 := apartB Bxr0y0_s2_0 hnr3_5
  have hner3_5_Bxr0y1_s2_0 := apartB Bxr0y1_s2_0 hnr3_5
  have hner3_5_Bxr2y5_s2_0 := apartB Bxr2y5_s2_0 hnr3_5
  have hger3_5 := geB HU2_0 hnr3_5
  have Bxr0y0_3 := hupd.keep Bxr0y0_s2_0
  have Bxr0y1_3 := hupd.keep Bxr0y1_s2_0
  have Bxr2y5_3 := hupd.keep Bxr2y5_s2_0
  have Bxr3y5 := hh hbr3_5
  have HU3 := hh (HU2_0.out.trans hupd)
  clear hupd
  refine wpOps_storeQ 6 rfl rfl rfl 41 (.tmp 7) (.tmp 23) rfl br3_5 0 20 rfl ar3_3 rfl 41 zr3_5 Bxr3y5.out szPt hCr3_3.size (by rw [hzr3_5.size]; exact Nat.le_of_ble_eq_true rfl) hCr3_3.one' ?_
  intro ws3_0 hs3_0 hus3_0
  rw [splice_all _ _ 20 hzr3_5.size hCr3_3.size] at hs3_0
  have Bxr0y0_s3_0 := hus3_0.keepS Bxr0y0_3 (fun e => hner3_5_Bxr0y0_s2_0.out e.symm)
  have Bxr0y1_s3_0 := hus3_0.keepS Bxr0y1_3 (fun e => hner3_5_Bxr0y1_s2_0.out e.symm)
  have Bxr2y5_s3_0 := hus3_0.keepS Bxr2y5_3 (fun e => hner3_5_Bxr2y5_s2_0.out e.symm)
  have Bxr3y5_s3_0 := hh hs3_0
  have HU3_0 := hh (HU3.out.step hus3_0 (fun i hi h => absurd hi (Nat.not_lt.2 (h.symm ▸ hger3_5.out))))
  clear hs3_0 hus3_0
  refine wpOps_pureQ 7 rfl rfl 8 rfl (.int .i64 0) (run_moveQ (x := .tmp 24) (v := .int .i64 0) (.inr rfl) rfl _) ?_
  simp only [List.setIfInBounds_toArray, List.set_cons_zero, List.set_cons_succ]
  refine wpOps_nil ?_
  refine hK4 _ _ ?_
  clear hK4
  refine wp_seq_k fun K5 hK5 => ?_
  refine wp_seq_k fun K6 hK6 => ?_
  refine wp_region_qSD 6 #[true, true, true, true, true, true] [] ([.val (.int .i64 0), .val (.bool false), .val (.bool false), .val (.int .i64 0), .val (.bool false), .val (.bool false)] : List SQ) (by kernel_rfl) (by kernel_rfl) (by kernel_rfl) (by kernel_rfl) ?_ ?_
  · intro i o listed an wn ho hls hst hun hdep hI hD hpre K' hK'
    rcases slot_cases (l := [0, 1, 2, 3, 4, 5]) rfl ho hst with rfl | rfl | rfl | rfl | rfl | rfl | ⟨⟨⟩⟩
    · obtain rfl := Option.some.inj ho
      have hvp : an.eval (.tmp 6) = .int .i64 0 := hI.oq (by kernel_rfl) rfl
      exact hI.pq hD hls rfl rfl rfl _ (run_moveQ (.inl rfl) hvp wn) (.val (.int .i64 0)) rfl rfl rfl hK'
    · obtain rfl := Option.some.inj ho
      obtain ⟨vp, hvp, rfl⟩ := hI.hq 0 _ 25 _ rfl rfl rfl (dp hdep 0 rfl rfl)
      exact hI.pq hD hls rfl rfl rfl _ (run_neq rfl (eval_of hvp) rfl (ne_of_eqB (show decide ((0 : Int) = 0) = true by decide)) wn) (.val (.bool false)) rfl rfl rfl hK'
    · obtain rfl := Option.some.inj ho
      obtain ⟨vp, hvp, rfl⟩ := hI.hq 1 _ 26 _ rfl rfl rfl (dp hdep 0 rfl rfl)
      exact hI.pq hD hls rfl rfl rfl _ (run_moveQ (.inl rfl) (eval_of hvp) wn) (.val (.bool false)) rfl rfl rfl hK'
    · obtain rfl := Option.some.inj ho
      obtain ⟨vg, hvg, rfl⟩ := hI.hq 2 _ 27 _ rfl rfl rfl (dp hdep 0 rfl rfl)
      have hvp : an.eval (.tmp 8) = .int .i64 0 := hI.oq (by kernel_rfl) rfl
      exact hI.pq hD hls rfl (wanted_of rfl rfl rfl hvg) rfl _ (run_moveQ (.inl rfl) hvp wn) (.val (.int .i64 0)) rfl rfl rfl hK'
    · obtain rfl := Option.some.inj ho
      obtain ⟨vg, hvg, rfl⟩ := hI.hq 2 _ 27 _ rfl rfl rfl (dp hdep 1 rfl rfl)
      obtain ⟨vp, hvp, rfl⟩ := hI.hq 3 _ 28 _ rfl rfl rfl (dp hdep 0 rfl rfl)
      exact hI.pq hD hls rfl (wanted_of rfl rfl rfl hvg) rfl _ (run_neq rfl (eval_of hvp) rfl (ne_of_eqB (show decide ((0 : Int) = 0) = true by decide)) wn) (.val (.bool false)) rfl rfl rfl hK'
    · obtain rfl := Option.some.inj ho
      obtain ⟨vp, hvp, rfl⟩ := hI.hq 2 _ 27 _ rfl rfl rfl (dp hdep 0 rfl rfl)
      obtain ⟨vq, hvq, rfl⟩ := hI.hq 4 _ 29 _ rfl rfl rfl (dp hdep 1 rfl rfl)
      exact hI.pq hD hls rfl rfl rfl _ (run_pickF rfl (eval_of hvp) (eval_of hvq) wn) (.val (.bool false)) rfl rfl rfl hK'
  intro an w5 hI
  obtain ⟨vr4_0, hvr4_0, rfl⟩ := hI.hq 0 _ 25 _ rfl rfl rfl rfl
  obtain ⟨vr4_1, hvr4_1, rfl⟩ := hI.hq 1 _ 26 _ rfl rfl rfl rfl
  obtain ⟨vr4_2, hvr4_2, rfl⟩ := hI.hq 2 _ 27 _ rfl rfl rfl rfl
  obtain ⟨vr4_3, hvr4_3, rfl⟩ := hI.hq 3 _ 28 _ rfl rfl rfl rfl
  obtain ⟨vr4_4, hvr4_4, rfl⟩ := hI.hq 4 _ 29 _ rfl rfl rfl rfl
  obtain ⟨vr4_5, hvr4_5, rfl⟩ := hI.hq 5 _ 30 _ rfl rfl rfl rfl
  have hupd := hI.upd
  have ha := hI.act [(25, .int .i64 0), (26, .bool false), (27, .bool false), (28, .int .i64 0), (29, .bool false), (30, .bool false)] (by simp [hvr4_0, hvr4_1, hvr4_2, hvr4_3, hvr4_4, hvr4_5]) (by kernel_rfl)
  clear hI hvr4_0 hvr4_1 hvr4_2 hvr4_3 hvr4_4 hvr4_5
  subst ha
  simp only [List.foldl_cons, List.foldl_nil, List.setIfInBounds_toArray, List.set_cons_zero, List.set_cons_succ]
  have Bxr0y0_4 := hupd.keep Bxr0y0_s3_0
  have Bxr0y1_4 := hupd.keep Bxr0y1_s3_0
  have Bxr2y5_4 := hupd.keep Bxr2y5_s3_0
  have Bxr3y5_4 := hupd.keep Bxr3y5_s3_0
  have HU4 := hh (HU3_0.out.trans hupd)
  clear hupd
  refine wpOps_nil ?_
  refine hK6 _ _ ?_
  clear hK6
  refine wp_cond_false rfl ?_
  refine wp_skip ?_
  refine hK5 _ _ ?_
  clear hK5
  refine wp_seq_k fun K7 hK7 => ?_
  refine wp_region_qSD 6 #[true, true, true, true, true, true, false, false] [6, 7] ([.val (.agg (numsA .u8 a)), .like (IsCV 48 RQ [some eP] (.int .i64 0)), .like (IsCV 48 RQ [some eP] (.int .i64 0)), .like (IsC 48 RQ [some eP]), .val (.int .i64 0), .blk ptrTo 47 (Ch 48 RQ [none]), .val undef, .val undef] : List SQ) (by kernel_rfl) (by kernel_rfl) (by kernel_rfl) (by kernel_rfl) ?_ ?_
  · intro i o listed an wn ho hls hst hun hdep hI hD hpre K' hK'
    rcases slot_cases (l := [0, 1, 2, 3, 4, 5]) rfl ho hst with rfl | rfl | rfl | rfl | rfl | rfl | ⟨⟨⟩⟩
    · obtain rfl := Option.some.inj ho
      have hvp : an.eval (.tmp 2) = ptrTo br0_0 := hI.oq (by kernel_rfl) rfl
      exact hI.pq hD hls rfl rfl rfl _ (run_loadQ rfl hvp wn (hI.upd.keep Bxr0y0_4).out Tryd.underlying23 rfl sizeKey (by rw [numsA_size, ha]; omega)) (.val (.agg (numsA .u8 a))) rfl (congrArg Value.agg (extract_all _ 32 (by rw [numsA_size]; exact ha))) rfl hK'
    · obtain rfl := Option.some.inj ho
      obtain ⟨vp, hvp, rfl⟩ := hI.hq 0 _ 32 _ rfl rfl rfl (dp hdep 0 rfl rfl)
      exact hI.cq hD hls rfl rfl rfl 25 #[.tmp 32] _ rfl #[.agg (numsA .u8 a)] (by simp [eval_of hvp]) (run_enter Tryd.func25 (by kernel_rfl) (by kernel_rfl)) (.like (IsCV 48 RQ [some eP] (.int .i64 0))) rfl rfl ((rdecodeT _ ha da hk).mono fun _ _ h => h.sq) hK'
    · obtain rfl := Option.some.inj ho
      obtain ⟨vp, hvp, ap, rfl, hCp⟩ := hI.hq 1 _ 33 _ rfl rfl rfl (dp hdep 0 rfl rfl)
      exact hI.pq hD hls rfl rfl rfl _ (run_moveQ (.inl rfl) (eval_of hvp) wn) (.like (IsCV 48 RQ [some eP] (.int .i64 0))) rfl ⟨_, rfl, hCp⟩ rfl hK'
    · obtain rfl := Option.some.inj ho
      obtain ⟨vp, hvp, ap, rfl, hCp⟩ := hI.hq 2 _ 31 _ rfl rfl rfl (dp hdep 0 rfl rfl)
      exact hI.pq hD hls rfl rfl rfl _ (run_extractQ rfl (eval_of hvp) rfl wn) (.like (IsC 48 RQ [some eP])) rfl ⟨_, rfl, hCp⟩ rfl hK'
    · obtain rfl := Option.some.inj ho
      obtain ⟨vp, hvp, ap, rfl, hCp⟩ := hI.hq 2 _ 31 _ rfl rfl rfl (dp hdep 0 rfl rfl)
      exact hI.pq hD hls rfl rfl rfl _ (run_extractQ rfl (eval_of hvp) rfl wn) (.val (.int .i64 0)) rfl rfl rfl hK'
    · obtain rfl := Option.some.inj ho
      exact hI.newQ hD hls (Nat.le_refl _) (newsQ_spec (l := [5]) (by kernel_rfl) ⟨⟨_, _, rfl⟩, trivial⟩) rfl rfl rfl 47 zR6 _ (run_allocQ rfl zR6_run wn) rfl zR6_q hK'
  intro an w6 hI
  obtain ⟨vr5_0, hvr5_0, rfl⟩ := hI.hq 0 _ 32 _ rfl rfl rfl rfl
  obtain ⟨vr5_1, hvr5_1, ar5_1, rfl, hCr5_1⟩ := hI.hq 1 _ 33 _ rfl rfl rfl rfl
  obtain ⟨vr5_2, hvr5_2, ar5_2, rfl, hCr5_2⟩ := hI.hq 2 _ 31 _ rfl rfl rfl rfl
  obtain ⟨vr5_3, hvr5_3, ar5_3, rfl, hCr5_3⟩ := hI.hq 3 _ 34 _ rfl rfl rfl rfl
  obtain ⟨vr5_4, hvr5_4, rfl⟩ := hI.hq 4 _ 35 _ rfl rfl rfl rfl
  obtain ⟨vr5_5, hvr5_5, br5_5, zr5_5, rfl, hnr5_5, hbr5_5, hzr5_5⟩ := hI.hq 5 _ 9 _ rfl rfl rfl rfl
  have hupd := hI.upd
  have ha := hI.act [(32, .agg (numsA .u8 a)), (33, .tuple #[.agg ar5_1, .int .i64 0]), (31, .tuple #[.agg ar5_2, .int .i64 0]), (34, .agg ar5_3), (35, .int .i64 0), (9, ptrTo br5_5)] (by simp [hvr5_0, hvr5_1, hvr5_2, hvr5_3, hvr5_4, hvr5_5]) (by kernel_rfl)
  clear hI hvr5_0 hvr5_1 hvr5_2 hvr5_3 hvr5_4 hvr5_5
  subst ha
  simp only [List.foldl_cons, List.foldl_nil, List.setIfInBounds_toArray, List.set_cons_zero, List.set_cons_succ]
  have hner5_5_Bxr0y0_4 := apartB Bxr0y0_4 hnr5_5
  have hner5_5_Bxr0y1_4 := apartB Bxr0y1_4 hnr5_5
  have hner5_5_Bxr2y5_4 := apartB Bxr2y5_4 hnr5_5
  have hner5_5_Bxr3y5_4 := apartB Bxr3y5_4 hnr5_5
  have hger5_5 := geB HU4 hnr5_5
  have Bxr0y0_5 := hupd.keep Bxr0y0_4
  have Bxr0y1_5 := hupd.keep Bxr0y1_4
  have Bxr2y5_5 := hupd.keep Bxr2y5_4
  have Bxr3y5_5 := hupd.keep Bxr3y5_4
  have Bxr5y5 := hh hbr5_5
  have HU5 := hh (HU4.out.trans hupd)
  clear hupd
  refine wpOps_storeQ 6 rfl rfl rfl 47 (.tmp 9) (.tmp 34) rfl br5_5 0 48 rfl ar5_3 rfl 47 zr5_5 Bxr5y5.out szR6 hCr5_3.size (by rw [hzr5_5.size]; exact Nat.le_of_ble_eq_true rfl) hCr5_3.one' ?_
  intro ws5_0 hs5_0 hus5_0
  rw [splice_all _ _ 48 hzr5_5.size hCr5_3.size] at hs5_0
  have Bxr0y0_s5_0 := hus5_0.keepS Bxr0y0_5 (fun e => hner5_5_Bxr0y0_4.out e.symm)
  have Bxr0y1_s5_0 := hus5_0.keepS Bxr0y1_5 (fun e => hner5_5_Bxr0y1_4.out e.symm)
  have Bxr2y5_s5_0 := hus5_0.keepS Bxr2y5_5 (fun e => hner5_5_Bxr2y5_4.out e.symm)
  have Bxr3y5_s5_0 := hus5_0.keepS Bxr3y5_5 (fun e => hner5_5_Bxr3y5_4.out e.symm)
  have Bxr5y5_s5_0 := hh hs5_0
  have HU5_0 := hh (HU5.out.step hus5_0 (fun i hi h => absurd hi (Nat.not_lt.2 (h.symm ▸ hger5_5.out))))
  clear hs5_0 hus5_0
  refine wpOps_pureQ 7 rfl rfl 10 rfl (.int .i64 0) (run_moveQ (x := .tmp 35) (v := .int .i64 0) (.inr rfl) rfl _) ?_
  simp only [List.setIfInBounds_toArray, List.set_cons_zero, List.set_cons_succ]
  refine wpOps_nil ?_
  refine hK7 _ _ ?_
  clear hK7
  refine wp_seq_k fun K8 hK8 => ?_
  refine wp_region_qSD 6 #[true, true, true, true, true, true, false, false] [6, 7] ([.val (.agg (numsA .u8 b)), .like (IsCV 48 RQ [some fP] (.int .i64 0)), .like (IsCV 48 RQ [some fP] (.int .i64 0)), .like (IsC 48 RQ [some fP]), .val (.int .i64 0), .blk ptrTo 47 (Ch 48 RQ [none]), .val undef, .val undef] : List SQ) (by kernel_rfl) (by kernel_rfl) (by kernel_rfl) (by kernel_rfl) ?_ ?_
  · intro i o listed an wn ho hls hst hun hdep hI hD hpre K' hK'
    rcases slot_cases (l := [0, 1, 2, 3, 4, 5]) rfl ho hst with rfl | rfl | rfl | rfl | rfl | rfl | ⟨⟨⟩⟩
    · obtain rfl := Option.some.inj ho
      have hvp : an.eval (.tmp 3) = ptrTo br0_1 := hI.oq (by kernel_rfl) rfl
      exact hI.pq hD hls rfl rfl rfl _ (run_loadQ rfl hvp wn (hI.upd.keep Bxr0y1_s5_0).out Tryd.underlying23 rfl sizeKey (by rw [numsA_size, hb]; omega)) (.val (.agg (numsA .u8 b))) rfl (congrArg Value.agg (extract_all _ 32 (by rw [numsA_size]; exact hb))) rfl hK'
    · obtain rfl := Option.some.inj ho
      obtain ⟨vp, hvp, rfl⟩ := hI.hq 0 _ 37 _ rfl rfl rfl (dp hdep 0 rfl rfl)
      exact hI.cq hD hls rfl rfl rfl 25 #[.tmp 37] _ rfl #[.agg (numsA .u8 b)] (by simp [eval_of hvp]) (run_enter Tryd.func25 (by kernel_rfl) (by kernel_rfl)) (.like (IsCV 48 RQ [some fP] (.int .i64 0))) rfl rfl ((rdecodeT _ hb db hj).mono fun _ _ h => h.sq) hK'
    · obtain rfl := Option.some.inj ho
      obtain ⟨vp, hvp, ap, rfl, hCp⟩ := hI.hq 1 _ 38 _ rfl rfl rfl (dp hdep 0 rfl rfl)
      exact hI.pq hD hls rfl rfl rfl _ (run_moveQ (.inl rfl) (eval_of hvp) wn) (.like (IsCV 48 RQ [some fP] (.int .i64 0))) rfl ⟨_, rfl, hCp⟩ rfl hK'
    · obtain rfl := Option.some.inj ho
      obtain ⟨vp, hvp, ap, rfl, hCp⟩ := hI.hq 2 _ 36 _ rfl rfl rfl (dp hdep 0 rfl rfl)
      exact hI.pq hD hls rfl rfl rfl _ (run_extractQ rfl (eval_of hvp) rfl wn) (.like (IsC 48 RQ [some fP])) rfl ⟨_, rfl, hCp⟩ rfl hK'
    · obtain rfl := Option.some.inj ho
      obtain ⟨vp, hvp, ap, rfl, hCp⟩ := hI.hq 2 _ 36 _ rfl rfl rfl (dp hdep 0 rfl rfl)
      exact hI.pq hD hls rfl rfl rfl _ (run_extractQ rfl (eval_of hvp) rfl wn) (.val (.int .i64 0)) rfl rfl rfl hK'
    · obtain rfl := Option.some.inj ho
      exact hI.newQ hD hls (Nat.le_refl _) (newsQ_spec (l := [5]) (by kernel_rfl) ⟨⟨_, _, rfl⟩, trivial⟩) rfl rfl rfl 47 zR6 _ (run_allocQ rfl zR6_run wn) rfl zR6_q hK'
  intro an w7 hI
  obtain ⟨vr6_0, hvr6_0, rfl⟩ := hI.hq 0 _ 37 _ rfl rfl rfl rfl
  obtain ⟨vr6_1, hvr6_1, ar6_1, rfl, hCr6_1⟩ := hI.hq 1 _ 38 _ rfl rfl rfl rfl
  obtain ⟨vr6_2, hvr6_2, ar6_2, rfl, hCr6_2⟩ := hI.hq 2 _ 36 _ rfl rfl rfl rfl
  obtain ⟨vr6_3, hvr6_3, ar6_3, rfl, hCr6_3⟩ := hI.hq 3 _ 39 _ rfl rfl rfl rfl
  obtain ⟨vr6_4, hvr6_4, rfl⟩ := hI.hq 4 _ 40 _ rfl rfl rfl rfl
  obtain ⟨vr6_5, hvr6_5, br6_5, zr6_5, rfl, hnr6_5, hbr6_5, hzr6_5⟩ := hI.hq 5 _ 11 _ rfl rfl rfl rfl
  have hupd := hI.upd
  have ha := hI.act [(37, .agg (numsA .u8 b)), (38, .tuple #[.agg ar6_1, .int .i64 0]), (36, .tuple #[.agg ar6_2, .int .i64 0]), (39, .agg ar6_3), (40, .int .i64 0), (11, ptrTo br6_5)] (by simp [hvr6_0, hvr6_1, hvr6_2, hvr6_3, hvr6_4, hvr6_5]) (by kernel_rfl)
  clear hI hvr6_0 hvr6_1 hvr6_2 hvr6_3 hvr6_4 hvr6_5
  subst ha
  simp only [List.foldl_cons, List.foldl_nil, List.setIfInBounds_toArray, List.set_cons_zero, List.set_cons_succ]
  have hner6_5_Bxr0y0_s5_0 := apartB Bxr0y0_s5_0 hnr6_5
  have hner6_5_Bxr0y1_s5_0 := apartB Bxr0y1_s5_0 hnr6_5
  have hner6_5_Bxr2y5_s5_0 := apartB Bxr2y5_s5_0 hnr6_5
  have hner6_5_Bxr3y5_s5_0 := apartB Bxr3y5_s5_0 hnr6_5
  have hner6_5_Bxr5y5_s5_0 := apartB Bxr5y5_s5_0 hnr6_5
  have hger6_5 := geB HU5_0 hnr6_5
  have Bxr0y0_6 := hupd.keep Bxr0y0_s5_0
  have Bxr0y1_6 := hupd.keep Bxr0y1_s5_0
  have Bxr2y5_6 := hupd.keep Bxr2y5_s5_0
  have Bxr3y5_6 := hupd.keep Bxr3y5_s5_0
  have Bxr5y5_6 := hupd.keep Bxr5y5_s5_0
  have Bxr6y5 := hh hbr6_5
  have HU6 := hh (HU5_0.out.trans hupd)
  clear hupd
  refine wpOps_storeQ 6 rfl rfl rfl 47 (.tmp 11) (.tmp 39) rfl br6_5 0 48 rfl ar6_3 rfl 47 zr6_5 Bxr6y5.out szR6 hCr6_3.size (by rw [hzr6_5.size]; exact Nat.le_of_ble_eq_true rfl) hCr6_3.one' ?_
  intro ws6_0 hs6_0 hus6_0
  rw [splice_all _ _ 48 hzr6_5.size hCr6_3.size] at hs6_0
  have Bxr0y0_s6_0 := hus6_0.keepS Bxr0y0_6 (fun e => hner6_5_Bxr0y0_s5_0.out e.symm)
  have Bxr0y1_s6_0 := hus6_0.keepS Bxr0y1_6 (fun e => hner6_5_Bxr0y1_s5_0.out e.symm)
  have Bxr2y5_s6_0 := hus6_0.keepS Bxr2y5_6 (fun e => hner6_5_Bxr2y5_s5_0.out e.symm)
  have Bxr3y5_s6_0 := hus6_0.keepS Bxr3y5_6 (fun e => hner6_5_Bxr3y5_s5_0.out e.symm)
  have Bxr5y5_s6_0 := hus6_0.keepS Bxr5y5_6 (fun e => hner6_5_Bxr5y5_s5_0.out e.symm)
  have Bxr6y5_s6_0 := hh hs6_0
  have HU6_0 := hh (HU6.out.step hus6_0 (fun i hi h => absurd hi (Nat.not_lt.2 (h.symm ▸ hger6_5.out))))
  clear hs6_0 hus6_0
  refine wpOps_pureQ 7 rfl rfl 12 rfl (.int .i64 0) (run_moveQ (x := .tmp 40) (v := .int .i64 0) (.inr rfl) rfl _) ?_
  simp only [List.setIfInBounds_toArray, List.set_cons_zero, List.set_cons_succ]
  refine wpOps_nil ?_
  refine hK8 _ _ ?_
  clear hK8
  refine wp_seq_k fun K9 hK9 => ?_
  refine wp_region_qD #[true, true, true, true, true, true, true, true, true, true, true, true, true, true, true, true, true, true, true, true, true, true, true, true, true, true, true, true, true, true, true, true, true, true, true, true] ([.val (.agg ar2_3), .val (.agg ar3_3), .blk (fun b => .slice (some ⟨b, 0, none⟩) 2 2) 41 (Ch 20 RP [some eP, some fP]), .like (IsC 20 RP [some (eP.plus fP)]), .val (.agg (numsA .u8 (encP (eP.plus fP)))), .val (.agg ar5_3), .val (.agg ar6_3), .like (IsC 16 RN [dC]), .like (IsC 48 RQ [some (eP.plus fP)]), .val (.agg (numsA .u8 (encP (eP.plus fP)))), .val (.bool true), .val (.bool true), .val (.agg ar2_3), .val (.agg ar3_3), .val (.agg ar3_3), .like (IsC 20 RP [some fP.back]), .blk (fun b => .slice (some ⟨b, 0, none⟩) 3 3) 41 (Ch 20 RP [some eP, some fP, some fP.back]), .like (IsC 20 RP [some ((eP.plus fP).plus fP.back)]), .val (.agg ar2_3), .val (.bool true), .val (.bool true), .val (.bool true), .val (.agg ar2_3), .val (.agg ar2_3), .like (IsC 20 RP [some eP.back]), .blk (fun b => .slice (some ⟨b, 0, none⟩) 2 2) 41 (Ch 20 RP [some eP, some eP.back]), .like (IsC 20 RP [some (eP.plus eP.back)]), .like (IsC 20 RP [some EP.nil]), .val (.bool true), .val (.bool true), .val (.bool true), .like (IsC 20 RP [some EP.nil]), .like (IsC 20 RP [some EP.nil]), .val (.bool true), .val (.bool true), .val (.bool true)] : List SQ) (by kernel_rfl) (by kernel_rfl) (by kernel_rfl) (by kernel_rfl) ?_ ?_
  · intro i o listed an wn ho hls hst hun hdep hI hD K' hK'
    rcases slot_cases (l := [0, 1, 2, 3, 4, 5, 6, 7, 8, 9, 10, 11, 12, 13, 14, 15, 16, 17, 18, 19, 20, 21, 22, 23, 24, 25, 26, 27, 28, 29, 30, 31, 32, 33, 34, 35]) rfl ho hst with rfl | rfl | rfl | rfl | rfl | rfl | rfl | rfl | rfl | rfl | rfl | rfl | rfl | rfl | rfl | rfl | rfl | rfl | rfl | rfl | rfl | rfl | rfl | rfl | rfl | rfl | rfl | rfl | rfl | rfl | rfl | rfl | rfl | rfl | rfl | rfl | ⟨⟨⟩⟩
    · obtain rfl := Option.some.inj ho
      have hvp : an.eval (.tmp 5) = ptrTo br2_5 := hI.oq (by kernel_rfl) rfl
      exact hI.pq hD hls rfl rfl rfl _ (run_loadQ rfl hvp wn (hI.upd.keepD Bxr2y5_s6_0).out Tryd.underlying41 rfl szPt (by rw [hCr2_3.size]; exact Nat.le_of_ble_eq_true rfl)) (.val (.agg ar2_3)) rfl (congrArg Value.agg (extract_all _ 20 hCr2_3.size)) rfl hK'
    · obtain rfl := Option.some.inj ho
      have hvp : an.eval (.tmp 7) = ptrTo br3_5 := hI.oq (by kernel_rfl) rfl
      exact hI.pq hD hls rfl rfl rfl _ (run_loadQ rfl hvp wn (hI.upd.keepD Bxr3y5_s6_0).out Tryd.underlying41 rfl szPt (by rw [hCr3_3.size]; exact Nat.le_of_ble_eq_true rfl)) (.val (.agg ar3_3)) rfl (congrArg Value.agg (extract_all _ 20 hCr3_3.size)) rfl hK'
    · obtain rfl := Option.some.inj ho
      obtain ⟨vp, hvp, rfl⟩ := hI.hq 0 _ 41 _ rfl rfl rfl (dp hdep 0 rfl rfl)
      obtain ⟨vq, hvq, rfl⟩ := hI.hq 1 _ 42 _ rfl rfl rfl (dp hdep 1 rfl rfl)
      exact hI.rowQ hD hls (Nat.le_refl _) rfl rfl rfl _ _ _ _ (run_pts2 rfl (eval_of hvp) (eval_of hvq) hCr2_3.size hCr3_3.size wn) rfl (hCr2_3.cat hCr3_3) rfl hK'
    · obtain rfl := Option.some.inj ho
      obtain ⟨vp, hvp, bp, zp, rfl, hnp, hbp, hzp⟩ := hI.hq 2 _ 43 _ rfl rfl rfl (dp hdep 0 rfl rfl)
      exact hI.cq hD hls rfl rfl rfl 28 #[.tmp 43] _ rfl #[.slice (some ⟨bp, 0, none⟩) 2 2] (by simp [eval_of hvp]) (run_enter Tryd.func28 (by kernel_rfl) (by kernel_rfl)) (.like (IsC 20 RP [some (eP.plus fP)])) rfl rfl ((addR2 _ (HT.out.upd (HU6_0.out.drew.trans hI.upd)) hbp hzp).mono fun _ _ h => h.sq) hK'
    · obtain rfl := Option.some.inj ho
      obtain ⟨vp, hvp, ap, rfl, hCp⟩ := hI.hq 3 _ 44 _ rfl rfl rfl (dp hdep 0 rfl rfl)
      exact hI.cq hD hls rfl rfl rfl 26 #[.tmp 44] _ rfl #[.agg ap] (by simp [eval_of hvp]) (run_enter Tryd.func26 (by kernel_rfl) (by kernel_rfl)) (.val (.agg (numsA .u8 (encP (eP.plus fP))))) rfl rfl ((encodeR _ hCp).mono fun _ _ h => ret_val h) hK'
    · obtain rfl := Option.some.inj ho
      have hvp : an.eval (.tmp 9) = ptrTo br5_5 := hI.oq (by kernel_rfl) rfl
      exact hI.pq hD hls rfl rfl rfl _ (run_loadQ rfl hvp wn (hI.upd.keepD Bxr5y5_s6_0).out Tryd.underlying47 rfl szR6 (by rw [hCr5_3.size]; exact Nat.le_of_ble_eq_true rfl)) (.val (.agg ar5_3)) rfl (congrArg Value.agg (extract_all _ 48 hCr5_3.size)) rfl hK'
    · obtain rfl := Option.some.inj ho
      have hvp : an.eval (.tmp 11) = ptrTo br6_5 := hI.oq (by kernel_rfl) rfl
      exact hI.pq hD hls rfl rfl rfl _ (run_loadQ rfl hvp wn (hI.upd.keepD Bxr6y5_s6_0).out Tryd.underlying47 rfl szR6 (by rw [hCr6_3.size]; exact Nat.le_of_ble_eq_true rfl)) (.val (.agg ar6_3)) rfl (congrArg Value.agg (extract_all _ 48 hCr6_3.size)) rfl hK'
    · obtain rfl := Option.some.inj ho
      exact hI.cq hD hls rfl rfl rfl 30 #[] _ rfl #[] (by simp) (run_enter Tryd.func30 (by kernel_rfl) (by kernel_rfl)) (.like (IsC 16 RN [dC])) rfl rfl ((rDR _).mono fun _ _ h => h.sq) hK'
    · obtain rfl := Option.some.inj ho
      obtain ⟨vp, hvp, rfl⟩ := hI.hq 5 _ 46 _ rfl rfl rfl (dp hdep 0 rfl rfl)
      obtain ⟨vq, hvq, rfl⟩ := hI.hq 6 _ 47 _ rfl rfl rfl (dp hdep 1 rfl rfl)
      obtain ⟨vr, hvr, ar, rfl, hCr⟩ := hI.hq 7 _ 48 _ rfl rfl rfl (dp hdep 2 rfl rfl)
      exact hI.cq hD hls rfl rfl rfl 29 #[.tmp 46, .tmp 47, .tmp 48] _ rfl #[.agg ar5_3, .agg ar6_3, .agg ar] (by simp [eval_of hvp, eval_of hvq, eval_of hvr]) (run_enter Tryd.func29 (by kernel_rfl) (by kernel_rfl)) (.like (IsC 48 RQ [some (eP.plus fP)])) rfl rfl ((raddR _ hCr5_3 hCr6_3 hCr).mono fun _ _ h => h.sq) hK'
    · obtain rfl := Option.some.inj ho
      obtain ⟨vp, hvp, ap, rfl, hCp⟩ := hI.hq 8 _ 49 _ rfl rfl rfl (dp hdep 0 rfl rfl)
      exact hI.cq hD hls rfl rfl rfl 27 #[.tmp 49] _ rfl #[.agg ap] (by simp [eval_of hvp]) (run_enter Tryd.func27 (by kernel_rfl) (by kernel_rfl)) (.val (.agg (numsA .u8 (encP (eP.plus fP))))) rfl rfl ((rencodeR _ hCp).mono fun _ _ h => ret_val h) hK'
    · obtain rfl := Option.some.inj ho
      obtain ⟨vp, hvp, rfl⟩ := hI.hq 4 _ 45 _ rfl rfl rfl (dp hdep 0 rfl rfl)
      obtain ⟨vq, hvq, rfl⟩ := hI.hq 9 _ 50 _ rfl rfl rfl (dp hdep 1 rfl rfl)
      exact hI.pq hD hls rfl rfl rfl _ (run_eqlK (b := true) rfl (eval_of hvp) (eval_of hvq) (encP_length _) (encP_length _) (decide_eq_true rfl) wn) (.val (.bool true)) rfl rfl rfl hK'
    · obtain rfl := Option.some.inj ho
      obtain ⟨vp, hvp, rfl⟩ := hI.hq 10 _ 51 _ rfl rfl rfl (dp hdep 0 rfl rfl)
      exact hI.pq hD hls rfl rfl rfl _ (run_moveQ (.inl rfl) (eval_of hvp) wn) (.val (.bool true)) rfl rfl rfl hK'
    · obtain rfl := Option.some.inj ho
      obtain ⟨vg, hvg, rfl⟩ := hI.hq 11 _ 52 _ rfl rfl rfl (dp hdep 0 rfl rfl)
      have hvp : an.eval (.tmp 5) = ptrTo br2_5 := hI.oq (by kernel_rfl) rfl
      exact hI.pq hD hls rfl (wanted_of rfl rfl rfl hvg) rfl _ (run_loadQ rfl hvp wn (hI.upd.keepD Bxr2y5_s6_0).out Tryd.underlying41 rfl szPt (by rw [hCr2_3.size]; exact Nat.le_of_ble_eq_true rfl)) (.val (.agg ar2_3)) rfl (congrArg Value.agg (extract_all _ 20 hCr2_3.size)) rfl hK'
    · obtain rfl := Option.some.inj ho
      obtain ⟨vg, hvg, rfl⟩ := hI.hq 11 _ 52 _ rfl rfl rfl (dp hdep 0 rfl rfl)
      have hvp : an.eval (.tmp 7) = ptrTo br3_5 := hI.oq (by kernel_rfl) rfl
      exact hI.pq hD hls rfl (wanted_of rfl rfl rfl hvg) rfl _ (run_loadQ rfl hvp wn (hI.upd.keepD Bxr3y5_s6_0).out Tryd.underlying41 rfl szPt (by rw [hCr3_3.size]; exact Nat.le_of_ble_eq_true rfl)) (.val (.agg ar3_3)) rfl (congrArg Value.agg (extract_all _ 20 hCr3_3.size)) rfl hK'
    · obtain rfl := Option.some.inj ho
      obtain ⟨vg, hvg, rfl⟩ := hI.hq 11 _ 52 _ rfl rfl rfl (dp hdep 0 rfl rfl)
      have hvp : an.eval (.tmp 7) = ptrTo br3_5 := hI.oq (by kernel_rfl) rfl
      exact hI.pq hD hls rfl (wanted_of rfl rfl rfl hvg) rfl _ (run_loadQ rfl hvp wn (hI.upd.keepD Bxr3y5_s6_0).out Tryd.underlying41 rfl szPt (by rw [hCr3_3.size]; exact Nat.le_of_ble_eq_true rfl)) (.val (.agg ar3_3)) rfl (congrArg Value.agg (extract_all _ 20 hCr3_3.size)) rfl hK'
    · obtain rfl := Option.some.inj ho
      obtain ⟨vg, hvg, rfl⟩ := hI.hq 11 _ 52 _ rfl rfl rfl (dp hdep 2 rfl rfl)
      obtain ⟨vp, hvp, rfl⟩ := hI.hq 14 _ 55 _ rfl rfl rfl (dp hdep 0 rfl rfl)
      exact hI.cq hD hls rfl (wanted_of rfl rfl rfl hvg) rfl 32 #[.tmp 55] _ rfl #[.agg ar3_3] (by simp [eval_of hvp]) (run_enter Tryd.func32 (by kernel_rfl) (by kernel_rfl)) (.like (IsC 20 RP [some fP.back])) rfl rfl ((negR _ (HT.out.upd (HU6_0.out.drew.trans hI.upd)) hCr3_3).mono fun _ _ h => h.sq) hK'
    · obtain rfl := Option.some.inj ho
      obtain ⟨vg, hvg, rfl⟩ := hI.hq 11 _ 52 _ rfl rfl rfl (dp hdep 3 rfl rfl)
      obtain ⟨vp, hvp, rfl⟩ := hI.hq 12 _ 53 _ rfl rfl rfl (dp hdep 0 rfl rfl)
      obtain ⟨vq, hvq, rfl⟩ := hI.hq 13 _ 54 _ rfl rfl rfl (dp hdep 1 rfl rfl)
      obtain ⟨vr, hvr, ar, rfl, hCr⟩ := hI.hq 15 _ 56 _ rfl rfl rfl (dp hdep 2 rfl rfl)
      exact hI.rowQ hD hls (Nat.le_refl _) rfl (wanted_of rfl rfl rfl hvg) rfl _ _ _ _ (run_pts3 rfl (eval_of hvp) (eval_of hvq) (eval_of hvr) hCr2_3.size hCr3_3.size hCr.size wn) rfl ((hCr2_3.cat hCr3_3).cat hCr) rfl hK'
    · obtain rfl := Option.some.inj ho
      obtain ⟨vg, hvg, rfl⟩ := hI.hq 11 _ 52 _ rfl rfl rfl (dp hdep 2 rfl rfl)
      obtain ⟨vp, hvp, bp, zp, rfl, hnp, hbp, hzp⟩ := hI.hq 16 _ 57 _ rfl rfl rfl (dp hdep 0 rfl rfl)
      exact hI.cq hD hls rfl (wanted_of rfl rfl rfl hvg) rfl 28 #[.tmp 57] _ rfl #[.slice (some ⟨bp, 0, none⟩) 3 3] (by simp [eval_of hvp]) (run_enter Tryd.func28 (by kernel_rfl) (by kernel_rfl)) (.like (IsC 20 RP [some ((eP.plus fP).plus fP.back)])) rfl rfl ((addR3 _ (HT.out.upd (HU6_0.out.drew.trans hI.upd)) hbp hzp).mono fun _ _ h => h.sq) hK'
    · obtain rfl := Option.some.inj ho
      obtain ⟨vg, hvg, rfl⟩ := hI.hq 11 _ 52 _ rfl rfl rfl (dp hdep 0 rfl rfl)
      have hvp : an.eval (.tmp 5) = ptrTo br2_5 := hI.oq (by kernel_rfl) rfl
      exact hI.pq hD hls rfl (wanted_of rfl rfl rfl hvg) rfl _ (run_loadQ rfl hvp wn (hI.upd.keepD Bxr2y5_s6_0).out Tryd.underlying41 rfl szPt (by rw [hCr2_3.size]; exact Nat.le_of_ble_eq_true rfl)) (.val (.agg ar2_3)) rfl (congrArg Value.agg (extract_all _ 20 hCr2_3.size)) rfl hK'
    · obtain rfl := Option.some.inj ho
      obtain ⟨vg, hvg, rfl⟩ := hI.hq 11 _ 52 _ rfl rfl rfl (dp hdep 3 rfl rfl)
      obtain ⟨vp, hvp, ap, rfl, hCp⟩ := hI.hq 17 _ 58 _ rfl rfl rfl (dp hdep 0 rfl rfl)
      obtain ⟨vq, hvq, rfl⟩ := hI.hq 18 _ 59 _ rfl rfl rfl (dp hdep 1 rfl rfl)
      exact hI.cq hD hls rfl (wanted_of rfl rfl rfl hvg) rfl 31 #[.tmp 58, .tmp 59] _ rfl #[.agg ap, .agg ar2_3] (by simp [eval_of hvp, eval_of hvq]) (run_enter Tryd.func31 (by kernel_rfl) (by kernel_rfl)) (.val (.bool true)) rfl rfl ((equalR _ hCp hCr2_3).mono fun _ _ h => ret_val (ret_b h (edEq_t (by rw [plus_assoc, plus_back, plus_nil])))) hK'
    · obtain rfl := Option.some.inj ho
      obtain ⟨vp, hvp, rfl⟩ := hI.hq 11 _ 52 _ rfl rfl rfl (dp hdep 0 rfl rfl)
      obtain ⟨vq, hvq, rfl⟩ := hI.hq 19 _ 60 _ rfl rfl rfl (dp hdep 1 rfl rfl)
      exact hI.pq hD hls rfl rfl rfl _ (run_pickT rfl (eval_of hvp) (eval_of hvq) wn) (.val (.bool true)) rfl rfl rfl hK'
    · obtain rfl := Option.some.inj ho
      obtain ⟨vp, hvp, rfl⟩ := hI.hq 20 _ 61 _ rfl rfl rfl (dp hdep 0 rfl rfl)
      exact hI.pq hD hls rfl rfl rfl _ (run_moveQ (.inl rfl) (eval_of hvp) wn) (.val (.bool true)) rfl rfl rfl hK'
    · obtain rfl := Option.some.inj ho
      obtain ⟨vg, hvg, rfl⟩ := hI.hq 21 _ 62 _ rfl rfl rfl (dp hdep 0 rfl rfl)
      have hvp : an.eval (.tmp 5) = ptrTo br2_5 := hI.oq (by kernel_rfl) rfl
      exact hI.pq hD hls rfl (wanted_of rfl rfl rfl hvg) rfl _ (run_loadQ rfl hvp wn (hI.upd.keepD Bxr2y5_s6_0).out Tryd.underlying41 rfl szPt (by rw [hCr2_3.size]; exact Nat.le_of_ble_eq_true rfl)) (.val (.agg ar2_3)) rfl (congrArg Value.agg (extract_all _ 20 hCr2_3.size)) rfl hK'
    · obtain rfl := Option.some.inj ho
      obtain ⟨vg, hvg, rfl⟩ := hI.hq 21 _ 62 _ rfl rfl rfl (dp hdep 0 rfl rfl)
      have hvp : an.eval (.tmp 5) = ptrTo br2_5 := hI.oq (by kernel_rfl) rfl
      exact hI.pq hD hls rfl (wanted_of rfl rfl rfl hvg) rfl _ (run_loadQ rfl hvp wn (hI.upd.keepD Bxr2y5_s6_0).out Tryd.underlying41 rfl szPt (by rw [hCr2_3.size]; exact Nat.le_of_ble_eq_true rfl)) (.val (.agg ar2_3)) rfl (congrArg Value.agg (extract_all _ 20 hCr2_3.size)) rfl hK'
    · obtain rfl := Option.some.inj ho
      obtain ⟨vg, hvg, rfl⟩ := hI.hq 21 _ 62 _ rfl rfl rfl (dp hdep 2 rfl rfl)
      obtain ⟨vp, hvp, rfl⟩ := hI.hq 23 _ 64 _ rfl rfl rfl (dp hdep 0 rfl rfl)
      exact hI.cq hD hls rfl (wanted_of rfl rfl rfl hvg) rfl 32 #[.tmp 64] _ rfl #[.agg ar2_3] (by simp [eval_of hvp]) (run_enter Tryd.func32 (by kernel_rfl) (by kernel_rfl)) (.like (IsC 20 RP [some eP.back])) rfl rfl ((negR _ (HT.out.upd (HU6_0.out.drew.trans hI.upd)) hCr2_3).mono fun _ _ h => h.sq) hK'
    · obtain rfl := Option.some.inj ho
      obtain ⟨vg, hvg, rfl⟩ := hI.hq 21 _ 62 _ rfl rfl rfl (dp hdep 2 rfl rfl)
      obtain ⟨vp, hvp, rfl⟩ := hI.hq 22 _ 63 _ rfl rfl rfl (dp hdep 0 rfl rfl)
      obtain ⟨vq, hvq, aq, rfl, hCq⟩ := hI.hq 24 _ 65 _ rfl rfl rfl (dp hdep 1 rfl rfl)
      exact hI.rowQ hD hls (Nat.le_refl _) rfl (wanted_of rfl rfl rfl hvg) rfl _ _ _ _ (run_pts2 rfl (eval_of hvp) (eval_of hvq) hCr2_3.size hCq.size wn) rfl (hCr2_3.cat hCq) rfl hK'
    · obtain rfl := Option.some.inj ho
      obtain ⟨vg, hvg, rfl⟩ := hI.hq 21 _ 62 _ rfl rfl rfl (dp hdep 2 rfl rfl)
      obtain ⟨vp, hvp, bp, zp, rfl, hnp, hbp, hzp⟩ := hI.hq 25 _ 66 _ rfl rfl rfl (dp hdep 0 rfl rfl)
      exact hI.cq hD hls rfl (wanted_of rfl rfl rfl hvg) rfl 28 #[.tmp 66] _ rfl #[.slice (some ⟨bp, 0, none⟩) 2 2] (by simp [eval_of hvp]) (run_enter Tryd.func28 (by kernel_rfl) (by kernel_rfl)) (.like (IsC 20 RP [some (eP.plus eP.back)])) rfl rfl ((addR2 _ (HT.out.upd (HU6_0.out.drew.trans hI.upd)) hbp hzp).mono fun _ _ h => h.sq) hK'
    · obtain rfl := Option.some.inj ho
      obtain ⟨vg, hvg, rfl⟩ := hI.hq 21 _ 62 _ rfl rfl rfl (dp hdep 1 rfl rfl)
      exact hI.cq hD hls rfl (wanted_of rfl rfl rfl hvg) rfl 33 #[] _ rfl #[] (by simp) (run_enter Tryd.func33 (by kernel_rfl) (by kernel_rfl)) (.like (IsC 20 RP [some EP.nil])) rfl rfl ((zeroR _ ).mono fun _ _ h => h.sq) hK'
    · obtain rfl := Option.some.inj ho
      obtain ⟨vg, hvg, rfl⟩ := hI.hq 21 _ 62 _ rfl rfl rfl (dp hdep 3 rfl rfl)
      obtain ⟨vp, hvp, ap, rfl, hCp⟩ := hI.hq 26 _ 67 _ rfl rfl rfl (dp hdep 0 rfl rfl)
      obtain ⟨vq, hvq, aq, rfl, hCq⟩ := hI.hq 27 _ 68 _ rfl rfl rfl (dp hdep 1 rfl rfl)
      exact hI.cq hD hls rfl (wanted_of rfl rfl rfl hvg) rfl 31 #[.tmp 67, .tmp 68] _ rfl #[.agg ap, .agg aq] (by simp [eval_of hvp, eval_of hvq]) (run_enter Tryd.func31 (by kernel_rfl) (by kernel_rfl)) (.val (.bool true)) rfl rfl ((equalR _ hCp hCq).mono fun _ _ h => ret_val (ret_b h (edEq_t (plus_back _)))) hK'
    · obtain rfl := Option.some.inj ho
      obtain ⟨vp, hvp, rfl⟩ := hI.hq 21 _ 62 _ rfl rfl rfl (dp hdep 0 rfl rfl)
      obtain ⟨vq, hvq, rfl⟩ := hI.hq 28 _ 69 _ rfl rfl rfl (dp hdep 1 rfl rfl)
      exact hI.pq hD hls rfl rfl rfl _ (run_pickT rfl (eval_of hvp) (eval_of hvq) wn) (.val (.bool true)) rfl rfl rfl hK'
    · obtain rfl := Option.some.inj ho
      obtain ⟨vp, hvp, rfl⟩ := hI.hq 29 _ 70 _ rfl rfl rfl (dp hdep 0 rfl rfl)
      exact hI.pq hD hls rfl rfl rfl _ (run_moveQ (.inl rfl) (eval_of hvp) wn) (.val (.bool true)) rfl rfl rfl hK'
    · obtain rfl := Option.some.inj ho
      obtain ⟨vg, hvg, rfl⟩ := hI.hq 30 _ 71 _ rfl rfl rfl (dp hdep 1 rfl rfl)
      exact hI.cq hD hls rfl (wanted_of rfl rfl rfl hvg) rfl 28 #[.const (.slice none 0 0)] _ rfl #[.slice none 0 0] (by simp [Act.eval]) (run_enter Tryd.func28 (by kernel_rfl) (by kernel_rfl)) (.like (IsC 20 RP [some EP.nil])) rfl rfl ((addP0 _ (HT.out.upd (HU6_0.out.drew.trans hI.upd))).mono fun _ _ h => h.sq) hK'
    · obtain rfl := Option.some.inj ho
      obtain ⟨vg, hvg, rfl⟩ := hI.hq 30 _ 71 _ rfl rfl rfl (dp hdep 1 rfl rfl)
      exact hI.cq hD hls rfl (wanted_of rfl rfl rfl hvg) rfl 33 #[] _ rfl #[] (by simp) (run_enter Tryd.func33 (by kernel_rfl) (by kernel_rfl)) (.like (IsC 20 RP [some EP.nil])) rfl rfl ((zeroR _ ).mono fun _ _ h => h.sq) hK'
    · obtain rfl := Option.some.inj ho
      obtain ⟨vg, hvg, rfl⟩ := hI.hq 30 _ 71 _ rfl rfl rfl (dp hdep 3 rfl rfl)
      obtain ⟨vp, hvp, ap, rfl, hCp⟩ := hI.hq 31 _ 72 _ rfl rfl rfl (dp hdep 0 rfl rfl)
      obtain ⟨vq, hvq, aq, rfl, hCq⟩ := hI.hq 32 _ 73 _ rfl rfl rfl (dp hdep 1 rfl rfl)
      exact hI.cq hD hls rfl (wanted_of rfl rfl rfl hvg) rfl 31 #[.tmp 72, .tmp 73] _ rfl #[.agg ap, .agg aq] (by simp [eval_of hvp, eval_of hvq]) (run_enter Tryd.func31 (by kernel_rfl) (by kernel_rfl)) (.val (.bool true)) rfl rfl ((equalR _ hCp hCq).mono fun _ _ h => ret_val (ret_b h (edEq_t rfl))) hK'
    · obtain rfl := Option.some.inj ho
      obtain ⟨vp, hvp, rfl⟩ := hI.hq 30 _ 71 _ rfl rfl rfl (dp hdep 0 rfl rfl)
      obtain ⟨vq, hvq, rfl⟩ := hI.hq 33 _ 74 _ rfl rfl rfl (dp hdep 1 rfl rfl)
      exact hI.pq hD hls rfl rfl rfl _ (run_pickT rfl (eval_of hvp) (eval_of hvq) wn) (.val (.bool true)) rfl rfl rfl hK'
    · obtain rfl := Option.some.inj ho
      obtain ⟨vp, hvp, rfl⟩ := hI.hq 34 _ 75 _ rfl rfl rfl (dp hdep 0 rfl rfl)
      exact hI.pq hD hls rfl rfl rfl _ (run_moveQ (.inr rfl) (eval_of hvp) wn) (.val (.bool true)) rfl rfl rfl hK'
  intro fuel an w8 hf hI
  obtain ⟨vr7_0, hvr7_0, rfl⟩ := hI.hq 0 _ 41 _ rfl rfl rfl rfl
  obtain ⟨vr7_1, hvr7_1, rfl⟩ := hI.hq 1 _ 42 _ rfl rfl rfl rfl
  obtain ⟨vr7_2, hvr7_2, br7_2, zr7_2, rfl, hnr7_2, hbr7_2, hzr7_2⟩ := hI.hq 2 _ 43 _ rfl rfl rfl rfl
  obtain ⟨vr7_3, hvr7_3, ar7_3, rfl, hCr7_3⟩ := hI.hq 3 _ 44 _ rfl rfl rfl rfl
  obtain ⟨vr7_4, hvr7_4, rfl⟩ := hI.hq 4 _ 45 _ rfl rfl rfl rfl
  obtain ⟨vr7_5, hvr7_5, rfl⟩ := hI.hq 5 _ 46 _ rfl rfl rfl rfl
  obtain ⟨vr7_6, hvr7_6, rfl⟩ := hI.hq 6 _ 47 _ rfl rfl rfl rfl
  obtain ⟨vr7_7, hvr7_7, ar7_7, rfl, hCr7_7⟩ := hI.hq 7 _ 48 _ rfl rfl rfl rfl
  obtain ⟨vr7_8, hvr7_8, ar7_8, rfl, hCr7_8⟩ := hI.hq 8 _ 49 _ rfl rfl rfl rfl
  obtain ⟨vr7_9, hvr7_9, rfl⟩ := hI.hq 9 _ 50 _ rfl rfl rfl rfl
  obtain ⟨vr7_10, hvr7_10, rfl⟩ := hI.hq 10 _ 51 _ rfl rfl rfl rfl
  obtain ⟨vr7_11, hvr7_11, rfl⟩ := hI.hq 11 _ 52 _ rfl rfl rfl rfl
  obtain ⟨vr7_12, hvr7_12, rfl⟩ := hI.hq 12 _ 53 _ rfl rfl rfl rfl
  obtain ⟨vr7_13, hvr7_13, rfl⟩ := hI.hq 13 _ 54 _ rfl rfl rfl rfl
  obtain ⟨vr7_14, hvr7_14, rfl⟩ := hI.hq 14 _ 55 _ rfl rfl rfl rfl
  obtain ⟨vr7_15, hvr7_15, ar7_15, rfl, hCr7_15⟩ := hI.hq 15 _ 56 _ rfl rfl rfl rfl
  obtain ⟨vr7_16, hvr7_16, br7_16, zr7_16, rfl, hnr7_16, hbr7_16, hzr7_16⟩ := hI.hq 16 _ 57 _ rfl rfl rfl rfl
  obtain ⟨vr7_17, hvr7_17, ar7_17, rfl, hCr7_17⟩ := hI.hq 17 _ 58 _ rfl rfl rfl rfl
  obtain ⟨vr7_18, hvr7_18, rfl⟩ := hI.hq 18 _ 59 _ rfl rfl rfl rfl
  obtain ⟨vr7_19, hvr7_19, rfl⟩ := hI.hq 19 _ 60 _ rfl rfl rfl rfl
  obtain ⟨vr7_20, hvr7_20, rfl⟩ := hI.hq 20 _ 61 _ rfl rfl rfl rfl
  obtain ⟨vr7_21, hvr7_21, rfl⟩ := hI.hq 21 _ 62 _ rfl rfl rfl rfl
  obtain ⟨vr7_22, hvr7_22, rfl⟩ := hI.hq 22 _ 63 _ rfl rfl rfl rfl
  obtain ⟨vr7_23, hvr7_23, rfl⟩ := hI.hq 23 _ 64 _ rfl rfl rfl rfl
  obtain ⟨vr7_24, hvr7_24, ar7_24, rfl, hCr7_24⟩ := hI.hq 24 _ 65 _ rfl rfl rfl rfl
  obtain ⟨vr7_25, hvr7_25, br7_25, zr7_25, rfl, hnr7_25, hbr7_25, hzr7_25⟩ := hI.hq 25 _ 66 _ rfl rfl rfl rfl
  obtain ⟨vr7_26, hvr7_26, ar7_26, rfl, hCr7_26⟩ := hI.hq 26 _ 67 _ rfl rfl rfl rfl
  obtain ⟨vr7_27, hvr7_27, ar7_27, rfl, hCr7_27⟩ := hI.hq 27 _ 68 _ rfl rfl rfl rfl
  obtain ⟨vr7_28, hvr7_28, rfl⟩ := hI.hq 28 _ 69 _ rfl rfl rfl rfl
  obtain ⟨vr7_29, hvr7_29, rfl⟩ := hI.hq 29 _ 70 _ rfl rfl rfl rfl
  obtain ⟨vr7_30, hvr7_30, rfl⟩ := hI.hq 30 _ 71 _ rfl rfl rfl rfl
  obtain ⟨vr7_31, hvr7_31, ar7_31, rfl, hCr7_31⟩ := hI.hq 31 _ 72 _ rfl rfl rfl rfl
  obtain ⟨vr7_32, hvr7_32, ar7_32, rfl, hCr7_32⟩ := hI.hq 32 _ 73 _ rfl rfl rfl rfl
  obtain ⟨vr7_33, hvr7_33, rfl⟩ := hI.hq 33 _ 74 _ rfl rfl rfl rfl
  obtain ⟨vr7_34, hvr7_34, rfl⟩ := hI.hq 34 _ 75 _ rfl rfl rfl rfl
  obtain ⟨vr7_35, hvr7_35, rfl⟩ := hI.hq 35 _ 4 _ rfl rfl rfl rfl
  have hupd := hI.upd
  have ha := hI.act [(41, .agg ar2_3), (42, .agg ar3_3), (43, .slice (some ⟨br7_2, 0, none⟩) 2 2), (44, .agg ar7_3), (45, .agg (numsA .u8 (encP (eP.plus fP)))), (46, .agg ar5_3), (47, .agg ar6_3), (48, .agg ar7_7), (49, .agg ar7_8), (50, .agg (numsA .u8 (encP (eP.plus fP)))), (51, .bool true), (52, .bool true), (53, .agg ar2_3), (54, .agg ar3_3), (55, .agg ar3_3), (56, .agg ar7_15), (57, .slice (some ⟨br7_16, 0, none⟩) 3 3), (58, .agg ar7_17), (59, .agg ar2_3), (60, .bool true), (61, .bool true), (62, .bool true), (63, .agg ar2_3), (64, .agg ar2_3), (65, .agg ar7_24), (66, .slice (some ⟨br7_25, 0, none⟩) 2 2), (67, .agg ar7_26), (68, .agg ar7_27), (69, .bool true), (70, .bool true), (71, .bool true), (72, .agg ar7_31), (73, .agg ar7_32), (74, .bool true), (75, .bool true), (4, .bool true)] (by simp [hvr7_0, hvr7_1, hvr7_2, hvr7_3, hvr7_4, hvr7_5, hvr7_6, hvr7_7, hvr7_8, hvr7_9, hvr7_10, hvr7_11, hvr7_12, hvr7_13, hvr7_14, hvr7_15, hvr7_16, hvr7_17, hvr7_18, hvr7_19, hvr7_20, hvr7_21, hvr7_22, hvr7_23, hvr7_24, hvr7_25, hvr7_26, hvr7_27, hvr7_28, hvr7_29, hvr7_30, hvr7_31, hvr7_32, hvr7_33, hvr7_34, hvr7_35]) (by kernel_rfl)
  clear hI hvr7_0 hvr7_1 hvr7_2 hvr7_3 hvr7_4 hvr7_5 hvr7_6 hvr7_7 hvr7_8 hvr7_9 hvr7_10 hvr7_11 hvr7_12 hvr7_13 hvr7_14 hvr7_15 hvr7_16 hvr7_17 hvr7_18 hvr7_19 hvr7_20 hvr7_21 hvr7_22 hvr7_23 hvr7_24 hvr7_25 hvr7_26 hvr7_27 hvr7_28 hvr7_29 hvr7_30 hvr7_31 hvr7_32 hvr7_33 hvr7_34 hvr7_35
  subst ha
  simp only [List.foldl_cons, List.foldl_nil, List.setIfInBounds_toArray, List.set_cons_zero, List.set_cons_succ]
  have Bxr0y0_7 := hupd.keepD Bxr0y0_s6_0
  have Bxr0y1_7 := hupd.keepD Bxr0y1_s6_0
  have Bxr2y5_7 := hupd.keepD Bxr2y5_s6_0
  have Bxr3y5_7 := hupd.keepD Bxr3y5_s6_0
  have Bxr5y5_7 := hupd.keepD Bxr5y5_s6_0
  have Bxr6y5_7 := hupd.keepD Bxr6y5_s6_0
  have HU7 := hh (HU6_0.out.drew.trans hupd)
  clear hupd
  refine wpAny_done (by kernel_rfl) ?_ _
  refine hK9 _ _ ?_
  clear hK9
  refine wp_ret ?_
  try dsimp only [Exit.then]
  try dsimp only [Exit.inBlock]
  exact bodyPost_ret (v := .bool true) (results_tmpQ (fn := Tryd.f9) (t := 4) rfl _ _ (.bool true) rfl) rfl ⟨rfl, HU7.out⟩
set_option maxHeartbeats 4000000 in
theorem paddsF {a b : List Int} {eP : EP} (w : World) (hT : Tw w) (ha : a.length = 32) (da : Digs 256 a) (hb : b.length = 32) (db : Digs 256 b) (hk : encP eP = a) (hj : ∀ e : EP, encP e ≠ b) :
    Calls Tryd.prog 9 #[.agg (numsA .u8 a), .agg (numsA .u8 b)] w fun e w' => e = .returned (.bool true) ∧ Upd (fun _ => False) w w' := by
  have HT := hh hT
  clear hT
  have HU := hh (Upd.refl (fun _ => False) w)
  go_enter Tryd.func9, Tryd.ntmps9
  refine wp_seq_k fun K0 hK0 => ?_
  refine wp_region_qSD 3 #[true, true, true] [] ([.blk ptrTo 23 (fun z => z = numsA .u8 a), .blk ptrTo 23 (fun z => z = numsA .u8 b), .val (.bool false)] : List SQ) (by kernel_rfl) (by kernel_rfl) (by kernel_rfl) (by kernel_rfl) ?_ ?_
  · intro i o listed an wn ho hls hst hun hdep hI hD hpre K' hK'
    rcases slot_cases (l := [0, 1, 2]) rfl ho hst with rfl | rfl | rfl | ⟨⟨⟩⟩
    · obtain rfl := Option.some.inj ho
      have hvp : an.eval (.tmp 0) = .agg (numsA .u8 a) := hI.oq (by kernel_rfl) rfl
      exact hI.newQ hD hls (Nat.le_refl _) (newsQ_spec (l := [0, 1]) (by kernel_rfl) ⟨⟨_, _, rfl⟩, ⟨_, _, rfl⟩, trivial⟩) rfl rfl rfl 23 _ (fun z => z = numsA .u8 a) (run_boxQ rfl hvp wn) rfl rfl hK'
    · obtain rfl := Option.some.inj ho
      have hvp : an.eval (.tmp 1) = .agg (numsA .u8 b) := hI.oq (by kernel_rfl) rfl
      exact hI.newQ hD hls (Nat.le_refl _) (newsQ_spec (l := [0, 1]) (by kernel_rfl) ⟨⟨_, _, rfl⟩, ⟨_, _, rfl⟩, trivial⟩) rfl rfl rfl 23 _ (fun z => z = numsA .u8 b) (run_boxQ rfl hvp wn) rfl rfl hK'
    · obtain rfl := Option.some.inj ho
      exact hI.pq hD hls rfl rfl rfl _ (run_moveQ (.inr rfl) (show an.eval (.const (.bool false)) = .bool false from rfl) wn) (.val (.bool false)) rfl rfl rfl hK'
  intro an w1 hI
  obtain ⟨vr0_0, hvr0_0, br0_0, zr0_0, rfl, hnr0_0, hbr0_0, hzr0_0⟩ := hI.hq 0 _ 2 _ rfl rfl rfl rfl
  rw [hzr0_0] at hbr0_0
  clear hzr0_0
  obtain ⟨vr0_1, hvr0_1, br0_1, zr0_1, rfl, hnr0_1, hbr0_1, hzr0_1⟩ := hI.hq 1 _ 3 _ rfl rfl rfl rfl
  rw [hzr0_1] at hbr0_1
  clear hzr0_1
  obtain ⟨vr0_2, hvr0_2, rfl⟩ := hI.hq 2 _ 4 _ rfl rfl rfl rfl
  have hupd := hI.upd
  have hner0_0_r0_1 := hh (show br0_0 ≠ br0_1 from fun e => hI.apart 0 1 _ _ 2 3 (by omega) rfl rfl rfl rfl rfl rfl rfl rfl (by rw [hvr0_0, hvr0_1, e]))
  have ha := hI.act [(2, ptrTo br0_0), (3, ptrTo br0_1), (4, .bool false)] (by simp [hvr0_0, hvr0_1, hvr0_2]) (by kernel_rfl)
  clear hI hvr0_0 hvr0_1 hvr0_2
  subst ha
  simp only [List.foldl_cons, List.foldl_nil, List.setIfInBounds_toArray, List.set_cons_zero, List.set_cons_succ]
  have hger0_0 := geB HU hnr0_0
  have hger0_1 := geB HU hnr0_1
  have Bxr0y0 := hh hbr0_0
  have Bxr0y1 := hh hbr0_1
  have HU0 := hh (HU.out.trans hupd)
  clear hupd
  refine wpOps_nil ?_
  refine hK0 _ _ ?_
  clear hK0
  refine wp_seq_k fun K1 hK1 => ?_
  refine wp_seq_k fun K2 hK2 => ?_
  refine wp_region_qSD 2 #[true, true] [] ([.val (.bool true), .val (.bool false)] : List SQ) (by kernel_rfl) (by kernel_rfl) (by kernel_rfl) (by kernel_rfl) ?_ ?_
  · intro i o listed an wn ho hls hst hun hdep hI hD hpre K' hK'
    rcases slot_cases (l := [0, 1]) rfl ho hst with rfl | rfl | ⟨⟨⟩⟩
    · obtain rfl := Option.some.inj ho
      exact hI.cq hD hls rfl rfl rfl 23 #[] _ rfl #[] (by simp) (run_enter Tryd.func23 (by kernel_rfl) (by kernel_rfl)) (.val (.bool true)) rfl rfl ((basedL _ (HT.out.upd (HU0.out.trans hI.upd))).mono fun _ _ h => ret_val h) hK'
    · obtain rfl := Option.some.inj ho
      obtain ⟨vp, hvp, rfl⟩ := hI.hq 0 _ 13 _ rfl rfl rfl (dp hdep 0 rfl rfl)
      exact hI.pq hD hls rfl rfl rfl _ (run_not rfl (eval_of hvp) wn) (.val (.bool false)) rfl rfl rfl hK'
  intro an w2 hI
  obtain ⟨vr1_0, hvr1_0, rfl⟩ := hI.hq 0 _ 13 _ rfl rfl rfl rfl
  obtain ⟨vr1_1, hvr1_1, rfl⟩ := hI.hq 1 _ 14 _ rfl rfl rfl rfl
  have hupd := hI.upd
  have ha := hI.act [(13, .bool true), (14, .bool false)] (by simp [hvr1_0, hvr1_1]) (by kernel_rfl)
  clear hI hvr1_0 hvr1_1
  subst ha
  simp only [List.foldl_cons, List.foldl_nil, List.setIfInBounds_toArray, List.set_cons_zero, List.set_cons_succ]
  have Bxr0y0_1 := hupd.keep Bxr0y0
  have Bxr0y1_1 := hupd.keep Bxr0y1
  have HU1 := hh (HU0.out.trans hupd)
  clear hupd
  refine wpOps_nil ?_
  refine hK2 _ _ ?_
  clear hK2
  refine wp_cond_false rfl ?_
  refine wp_skip ?_
  refine hK1 _ _ ?_
  clear hK1
  refine wp_seq_k fun K3 hK3 => ?_
  refine wp_region_qSD 6 #[true, true, true, true, true, true, false, false] [6, 7] ([.val (.agg (numsA .u8 a)), .like (IsCV 20 RP [some eP] (.int .i64 0)), .like (IsCV 20 RP [some eP] (.int .i64 0)), .like (IsC 20 RP [some eP]), .val (.int .i64 0), .blk ptrTo 41 (Ch 20 RP [none]), .val undef, .val undef] : List SQ) (by kernel_rfl) (by kernel_rfl) (by kernel_rfl) (by kernel_rfl) ?_ ?_
  · intro i o listed an wn ho hls hst hun hdep hI hD hpre K' hK'
    rcases slot_cases (l := [0, 1, 2, 3, 4, 5]) rfl ho hst with rfl | rfl | rfl | rfl | rfl | rfl | ⟨⟨⟩⟩
    · obtain rfl := Option.some.inj ho
      have hvp : an.eval (.tmp 2) = ptrTo br0_0 := hI.oq (by kernel_rfl) rfl
      exact hI.pq hD hls rfl rfl rfl _ (run_loadQ rfl hvp wn (hI.upd.keep Bxr0y0_1).out Tryd.underlying23 rfl sizeKey (by rw [numsA_size, ha]; omega)) (.val (.agg (numsA .u8 a))) rfl (congrArg Value.agg (extract_all _ 32 (by rw [numsA_size]; exact ha))) rfl hK'
    · obtain rfl := Option.some.inj ho
      obtain ⟨vp, hvp, rfl⟩ := hI.hq 0 _ 16 _ rfl rfl rfl (dp hdep 0 rfl rfl)
      exact hI.cq hD hls rfl rfl rfl 24 #[.tmp 16] _ rfl #[.agg (numsA .u8 a)] (by simp [eval_of hvp]) (run_enter Tryd.func24 (by kernel_rfl) (by kernel_rfl)) (.like (IsCV 20 RP [some eP] (.int .i64 0))) rfl rfl ((decodeT _ (HT.out.upd (HU1.out.trans hI.upd)) ha da hk).mono fun _ _ h => h.sq) hK'
    · obtain rfl := Option.some.inj ho
      obtain ⟨vp, hvp, ap, rfl, hCp⟩ := hI.hq 1 _ 17 _ rfl rfl rfl (dp hdep 0 rfl rfl)
      exact hI.pq hD hls rfl rfl rfl _ (run_moveQ (.inl rfl) (eval_of hvp) wn) (.like (IsCV 20 RP [some eP] (.int .i64 0))) rfl ⟨_, rfl, hCp⟩ rfl hK'
    · obtain rfl := Option.some.inj ho
      obtain ⟨vp, hvp, ap, rfl, hCp⟩ := hI.hq 2 _ 15 _ rfl rfl rfl (dp hdep 0 rfl rfl)
      exact hI.pq hD hls rfl rfl rfl _ (run_extractQ rfl (eval_of hvp) rfl wn) (.like (IsC 20 RP [some eP])) rfl ⟨_, rfl, hCp⟩ rfl hK'
    · obtain rfl := Option.some.inj ho
      obtain ⟨vp, hvp, ap, rfl, hCp⟩ := hI.hq 2 _ 15 _ rfl rfl rfl (dp hdep 0 rfl rfl)
      exact hI.pq hD hls rfl rfl rfl _ (run_extractQ rfl (eval_of hvp) rfl wn) (.val (.int .i64 0)) rfl rfl rfl hK'
    · obtain rfl := Option.some.inj ho
      exact hI.newQ hD hls (Nat.le_refl _) (newsQ_spec (l := [5]) (by kernel_rfl) ⟨⟨_, _, rfl⟩, trivial⟩) rfl rfl rfl 41 zPt _ (run_allocQ rfl zPt_run wn) rfl zPt_p hK'
  intro an w3 hI
  obtain ⟨vr2_0, hvr2_0, rfl⟩ := hI.hq 0 _ 16 _ rfl rfl rfl rfl
  obtain ⟨vr2_1, hvr2_1, ar2_1, rfl, hCr2_1⟩ := hI.hq 1 _ 17 _ rfl rfl rfl rfl
  obtain ⟨vr2_2, hvr2_2, ar2_2, rfl, hCr2_2⟩ := hI.hq 2 _ 15 _ rfl rfl rfl rfl
  obtain ⟨vr2_3, hvr2_3, ar2_3, rfl, hCr2_3⟩ := hI.hq 3 _ 18 _ rfl rfl rfl rfl
  obtain ⟨vr2_4, hvr2_4, rfl⟩ := hI.hq 4 _ 19 _ rfl rfl rfl rfl
  obtain ⟨vr2_5, hvr2_5, br2_5, zr2_5, rfl, hnr2_5, hbr2_5, hzr2_5⟩ := hI.hq 5 _ 5 _ rfl rfl rfl rfl
  have hupd := hI.upd
  have ha := hI.act [(16, .agg (numsA .u8 a)), (17, .tuple #[.agg ar2_1, .int .i64 0]), (15, .tuple #[.agg ar2_2, .int .i64 0]), (18, .agg ar2_3), (19, .int .i64 0), (5, ptrTo br2_5)] (by simp [hvr2_0, hvr2_1, hvr2_2, hvr2_3, hvr2_4, hvr2_5]) (by kernel_rfl)
  clear hI hvr2_0 hvr2_1 hvr2_2 hvr2_3 hvr2_4 hvr2_5
  subst ha
  simp only [List.foldl_cons, List.foldl_nil, List.setIfInBounds_toArray, List.set_cons_zero, List.set_cons_succ]
  have hner2_5_Bxr0y0_1 := apartB Bxr0y0_1 hnr2_5
  have hner2_5_Bxr0y1_1 := apartB Bxr0y1_1 hnr2_5
  have hger2_5 := geB HU1 hnr2_5
  have Bxr0y0_2 := hupd.keep Bxr0y0_1
  have Bxr0y1_2 := hupd.keep Bxr0y1_1
  have Bxr2y5 := hh hbr2_5
  have HU2 := hh (HU1.out.trans hupd)
  clear hupd
  refine wpOps_storeQ 6 rfl rfl rfl 41 (.tmp 5) (.tmp 18) rfl br2_5 0 20 rfl ar2_3 rfl 41 zr2_5 Bxr2y5.out szPt hCr2_3.size (by rw [hzr2_5.size]; exact Nat.le_of_ble_eq_true rfl) hCr2_3.one' ?_
  intro ws2_0 hs2_0 hus2_0
  rw [splice_all _ _ 20 hzr2_5.size hCr2_3.size] at hs2_0
  have Bxr0y0_s2_0 := hus2_0.keepS Bxr0y0_2 (fun e => hner2_5_Bxr0y0_1.out e.symm)
  have Bxr0y1_s2_0 := hus2_0.keepS Bxr0y1_2 (fun e => hner2_5_Bxr0y1_1.out e.symm)
  have Bxr2y5_s2_0 := hh hs2_0
  have HU2_0 := hh (HU2.out.step hus2_0 (fun i hi h => absurd hi (Nat.not_lt.2 (h.symm ▸ hger2_5.out))))
  clear hs2_0 hus2_0
  refine wpOps_pureQ 7 rfl rfl 6 rfl (.int .i64 0) (run_moveQ (x := .tmp 19) (v := .int .i64 0) (.inr rfl) rfl _) ?_
  simp only [List.setIfInBounds_toArray, List.set_cons_zero, List.set_cons_succ]
  refine wpOps_nil ?_
  refine hK3 _ _ ?_
  clear hK3
  refine wp_seq_k fun K4 hK4 => ?_
  refine wp_region_qSD 6 #[true, true, true, true, true, true, false, false] [6, 7] ([.val (.agg (numsA .u8 b)), .like (IsCV 20 RP [none] (.int .i64 60)), .like (IsCV 20 RP [none] (.int .i64 60)), .like (IsC 20 RP [none]), .val (.int .i64 60), .blk ptrTo 41 (Ch 20 RP [none]), .val undef, .val undef] : List SQ) (by kernel_rfl) (by kernel_rfl) (by kernel_rfl) (by kernel_rfl) ?_ ?_
  · intro i o listed an wn ho hls hst hun hdep hI hD hpre K' hK'
    rcases slot_cases (l := [0, 1, 2, 3, 4, 5]) rfl ho hst with rfl | rfl | rfl | rfl | rfl | rfl | ⟨⟨⟩⟩
    · obtain rfl := Option.some.inj ho
      have hvp : an.eval (.tmp 3) = ptrTo br0_1 := hI.oq (by kernel_rfl) rfl
      exact hI.pq hD hls rfl rfl rfl _ (run_loadQ rfl hvp wn (hI.upd.keep Bxr0y1_s2_0).out Tryd.underlying23 rfl sizeKey (by rw [numsA_size, hb]; omega)) (.val (.agg (numsA .u8 b))) rfl (congrArg Value.agg (extract_all _ 32 (by rw [numsA_size]; exact hb))) rfl hK'
    · obtain rfl := Option.some.inj ho
      obtain ⟨vp, hvp, rfl⟩ := hI.hq 0 _ 21 _ rfl rfl rfl (dp hdep 0 rfl rfl)
      exact hI.cq hD hls rfl rfl rfl 24 #[.tmp 21] _ rfl #[.agg (numsA .u8 b)] (by simp [eval_of hvp]) (run_enter Tryd.func24 (by kernel_rfl) (by kernel_rfl)) (.like (IsCV 20 RP [none] (.int .i64 60))) rfl rfl ((decodeF _ (HT.out.upd (HU2_0.out.trans hI.upd)) hb db hj).mono fun _ _ h => h.sq) hK'
    · obtain rfl := Option.some.inj ho
      obtain ⟨vp, hvp, ap, rfl, hCp⟩ := hI.hq 1 _ 22 _ rfl rfl rfl (dp hdep 0 rfl rfl)
      exact hI.pq hD hls rfl rfl rfl _ (run_moveQ (.inl rfl) (eval_of hvp) wn) (.like (IsCV 20 RP [none] (.int .i64 60))) rfl ⟨_, rfl, hCp⟩ rfl hK'
    · obtain rfl := Option.some.inj ho
      obtain ⟨vp, hvp, ap, rfl, hCp⟩ := hI.hq 2 _ 20 _ rfl rfl rfl (dp hdep 0 rfl rfl)
      exact hI.pq hD hls rfl rfl rfl _ (run_extractQ rfl (eval_of hvp) rfl wn) (.like (IsC 20 RP [none])) rfl ⟨_, rfl, hCp⟩ rfl hK'
    · obtain rfl := Option.some.inj ho
      obtain ⟨vp, hvp, ap, rfl, hCp⟩ := hI.hq 2 _ 20 _ rfl rfl rfl (dp hdep 0 rfl rfl)
      exact hI.pq hD hls rfl rfl rfl _ (run_extractQ rfl (eval_of hvp) rfl wn) (.val (.int .i64 60)) rfl rfl rfl hK'
    · obtain rfl := Option.some.inj ho
      exact hI.newQ hD hls (Nat.le_refl _) (newsQ_spec (l := [5]) (by kernel_rfl) ⟨⟨_, _, rfl⟩, trivial⟩) rfl rfl rfl 41 zPt _ (run_allocQ rfl zPt_run wn) rfl zPt_p hK'
  intro an w4 hI
  obtain ⟨vr3_0, hvr3_0, rfl⟩ := hI.hq 0 _ 21 _ rfl rfl rfl rfl
  obtain ⟨vr3_1, hvr3_1, ar3_1, rfl, hCr3_1⟩ := hI.hq 1 _ 22 _ rfl rfl rfl rfl
  obtain ⟨vr3_2, hvr3_2, ar3_2, rfl, hCr3_2⟩ := hI.hq 2 _ 20 _ rfl rfl rfl rfl
  obtain ⟨vr3_3, hvr3_3, ar3_3, rfl, hCr3_3⟩ := hI.hq 3 _ 23 _ rfl rfl rfl rfl
  obtain ⟨vr3_4, hvr3_4, rfl⟩ := hI.hq 4 _ 24 _ rfl rfl rfl rfl
  obtain ⟨vr3_5, hvr3_5, br3_5, zr3_5, rfl, hnr3_5, hbr3_5, hzr3_5⟩ := hI.hq 5 _ 7 _ rfl rfl rfl rfl
  have hupd := hI.upd
  have ha := hI.act [(21, .agg (numsA .u8 b)), (22, .tuple #[.agg ar3_1, .int .i64 60]), (20, .tuple #[.agg ar3_2, .int .i64 60]), (23, .agg ar3_3), (24, .int .i64 60), (7, ptrTo br3_5)] (by simp [hvr3_0, hvr3_1, hvr3_2, hvr3_3, hvr3_4, hvr3_5]) (by kernel_rfl)
  clear hI hvr3_0 hvr3_1 hvr3_2 hvr3_3 hvr3_4 hvr3_5
  subst ha
  simp only [List.foldl_cons, List.foldl_nil, List.setIfInBounds_toArray, List.set_cons_zero, List.set_cons_succ]
  have hner3_5_Bxr0y0_s2_0 := apartB Bxr0y0_s2_0 hnr3_5
  have hner3_5_Bxr0y1_s2_0 := apartB Bxr0y1_s2_0 hnr3_5
  have hner3_5_Bxr2y5_s2_0 := apartB Bxr2y5_s2_0 hnr3_5
  have hger3_5 := geB HU2_0 hnr3_5
  have Bxr0y0_3 := hupd.keep Bxr0y0_s2_0
  have Bxr0y1_3 := hupd.keep Bxr0y1_s2_0
  have Bxr2y5_3 := hupd.keep Bxr2y5_s2_0
  have Bxr3y5 := hh hbr3_5
  have HU3 := hh (HU2_0.out.trans hupd)
  clear hupd
  refine wpOps_storeQ 6 rfl rfl rfl 41 (.tmp 7) (.tmp 23) rfl br3_5 0 20 rfl ar3_3 rfl 41 zr3_5 Bxr3y5.out szPt hCr3_3.size (by rw [hzr3_5.size]; exact Nat.le_of_ble_eq_true rfl) hCr3_3.one' ?_
  intro ws3_0 hs3_0 hus3_0
  rw [splice_all _ _ 20 hzr3_5.size hCr3_3.size] at hs3_0
  have Bxr0y0_s3_0 := hus3_0.keepS Bxr0y0_3 (fun e => hner3_5_Bxr0y0_s2_0.out e.symm)
  have Bxr0y1_s3_0 := hus3_0.keepS Bxr0y1_3 (fun e => hner3_5_Bxr0y1_s2_0.out e.symm)
  have Bxr2y5_s3_0 := hus3_0.keepS Bxr2y5_3 (fun e => hner3_5_Bxr2y5_s2_0.out e.symm)
  have Bxr3y5_s3_0 := hh hs3_0
  have HU3_0 := hh (HU3.out.step hus3_0 (fun i hi h => absurd hi (Nat.not_lt.2 (h.symm ▸ hger3_5.out))))
  clear hs3_0 hus3_0
  refine wpOps_pureQ 7 rfl rfl 8 rfl (.int .i64 60) (run_moveQ (x := .tmp 24) (v := .int .i64 60) (.inr rfl) rfl _) ?_
  simp only [List.setIfInBounds_toArray, List.set_cons_zero, List.set_cons_succ]
  refine wpOps_nil ?_
  refine hK4 _ _ ?_
  clear hK4
  refine wp_seq_k fun K5 hK5 => ?_
  refine wp_seq_k fun K6 hK6 => ?_
  refine wp_region_qSD 6 #[true, true, true, true, true, true] [] ([.val (.int .i64 0), .val (.bool false), .val (.bool false), .val (.int .i64 60), .val (.bool true), .val (.bool true)] : List SQ) (by kernel_rfl) (by kernel_rfl) (by kernel_rfl) (by kernel_rfl) ?_ ?_
  · intro i o listed an wn ho hls hst hun hdep hI hD hpre K' hK'
    rcases slot_cases (l := [0, 1, 2, 3, 4, 5]) rfl ho hst with rfl | rfl | rfl | rfl | rfl | rfl | ⟨⟨⟩⟩
    · obtain rfl := Option.some.inj ho
      have hvp : an.eval (.tmp 6) = .int .i64 0 := hI.oq (by kernel_rfl) rfl
      exact hI.pq hD hls rfl rfl rfl _ (run_moveQ (.inl rfl) hvp wn) (.val (.int .i64 0)) rfl rfl rfl hK'
    · obtain rfl := Option.some.inj ho
      obtain ⟨vp, hvp, rfl⟩ := hI.hq 0 _ 25 _ rfl rfl rfl (dp hdep 0 rfl rfl)
      exact hI.pq hD hls rfl rfl rfl _ (run_neq rfl (eval_of hvp) rfl (ne_of_eqB (show decide ((0 : Int) = 0) = true by decide)) wn) (.val (.bool false)) rfl rfl rfl hK'
    · obtain rfl := Option.some.inj ho
      obtain ⟨vp, hvp, rfl⟩ := hI.hq 1 _ 26 _ rfl rfl rfl (dp hdep 0 rfl rfl)
      exact hI.pq hD hls rfl rfl rfl _ (run_moveQ (.inl rfl) (eval_of hvp) wn) (.val (.bool false)) rfl rfl rfl hK'
    · obtain rfl := Option.some.inj ho
      obtain ⟨vg, hvg, rfl⟩ := hI.hq 2 _ 27 _ rfl rfl rfl (dp hdep 0 rfl rfl)
      have hvp : an.eval (.tmp 8) = .int .i64 60 := hI.oq (by kernel_rfl) rfl
      exact hI.pq hD hls rfl (wanted_of rfl rfl rfl hvg) rfl _ (run_moveQ (.inl rfl) hvp wn) (.val (.int .i64 60)) rfl rfl rfl hK'
    · obtain rfl := Option.some.inj ho
      obtain ⟨vg, hvg, rfl⟩ := hI.hq 2 _ 27 _ rfl rfl rfl (dp hdep 1 rfl rfl)
      obtain ⟨vp, hvp, rfl⟩ := hI.hq 3 _ 28 _ rfl rfl rfl (dp hdep 0 rfl rfl)
      exact hI.pq hD hls rfl (wanted_of rfl rfl rfl hvg) rfl _ (run_neq rfl (eval_of hvp) rfl (ne_of_eqB (show decide ((60 : Int) = 0) = false by decide)) wn) (.val (.bool true)) rfl rfl rfl hK'
    · obtain rfl := Option.some.inj ho
      obtain ⟨vp, hvp, rfl⟩ := hI.hq 2 _ 27 _ rfl rfl rfl (dp hdep 0 rfl rfl)
      obtain ⟨vq, hvq, rfl⟩ := hI.hq 4 _ 29 _ rfl rfl rfl (dp hdep 1 rfl rfl)
      exact hI.pq hD hls rfl rfl rfl _ (run_pickF rfl (eval_of hvp) (eval_of hvq) wn) (.val (.bool true)) rfl rfl rfl hK'
  intro an w5 hI
  obtain ⟨vr4_0, hvr4_0, rfl⟩ := hI.hq 0 _ 25 _ rfl rfl rfl rfl
  obtain ⟨vr4_1, hvr4_1, rfl⟩ := hI.hq 1 _ 26 _ rfl rfl rfl rfl
  obtain ⟨vr4_2, hvr4_2, rfl⟩ := hI.hq 2 _ 27 _ rfl rfl rfl rfl
  obtain ⟨vr4_3, hvr4_3, rfl⟩ := hI.hq 3 _ 28 _ rfl rfl rfl rfl
  obtain ⟨vr4_4, hvr4_4, rfl⟩ := hI.hq 4 _ 29 _ rfl rfl rfl rfl
  obtain ⟨vr4_5, hvr4_5, rfl⟩ := hI.hq 5 _ 30 _ rfl rfl rfl rfl
  have hupd := hI.upd
  have ha := hI.act [(25, .int .i64 0), (26, .bool false), (27, .bool false), (28, .int .i64 60), (29, .bool true), (30, .bool true)] (by simp [hvr4_0, hvr4_1, hvr4_2, hvr4_3, hvr4_4, hvr4_5]) (by kernel_rfl)
  clear hI hvr4_0 hvr4_1 hvr4_2 hvr4_3 hvr4_4 hvr4_5
  subst ha
  simp only [List.foldl_cons, List.foldl_nil, List.setIfInBounds_toArray, List.set_cons_zero, List.set_cons_succ]
  have Bxr0y0_4 := hupd.keep Bxr0y0_s3_0
  have Bxr0y1_4 := hupd.keep Bxr0y1_s3_0
  have Bxr2y5_4 := hupd.keep Bxr2y5_s3_0
  have Bxr3y5_4 := hupd.keep Bxr3y5_s3_0
  have HU4 := hh (HU3_0.out.trans hupd)
  clear hupd
  refine wpOps_nil ?_
  refine hK6 _ _ ?_
  clear hK6
  refine wp_cond_true rfl ?_
  refine wp_seq_k fun K7 hK7 => ?_
  refine wp_region_qSD 1 #[true] [] ([.val (.bool true)] : List SQ) (by kernel_rfl) (by kernel_rfl) (by kernel_rfl) (by kernel_rfl) ?_ ?_
  · intro i o listed an wn ho hls hst hun hdep hI hD hpre K' hK'
    rcases slot_cases (l := [0]) rfl ho hst with rfl | ⟨⟨⟩⟩
    · obtain rfl := Option.some.inj ho
      exact hI.pq hD hls rfl rfl rfl _ (run_moveQ (.inr rfl) (show an.eval (.const (.bool true)) = .bool true from rfl) wn) (.val (.bool true)) rfl rfl rfl hK'
  intro an w6 hI
  obtain ⟨vr5_0, hvr5_0, rfl⟩ := hI.hq 0 _ 4 _ rfl rfl rfl rfl
  have hupd := hI.upd
  have ha := hI.act [(4, .bool true)] (by simp [hvr5_0]) (by kernel_rfl)
  clear hI hvr5_0
  subst ha
  simp only [List.foldl_cons, List.foldl_nil, List.setIfInBounds_toArray, List.set_cons_zero, List.set_cons_succ]
  have Bxr0y0_5 := hupd.keep Bxr0y0_4
  have Bxr0y1_5 := hupd.keep Bxr0y1_4
  have Bxr2y5_5 := hupd.keep Bxr2y5_4
  have Bxr3y5_5 := hupd.keep Bxr3y5_4
  have HU5 := hh (HU4.out.trans hupd)
  clear hupd
  refine wpOps_nil ?_
  refine hK7 _ _ ?_
  clear hK7
  refine wp_ret ?_
  try dsimp only [Exit.then]
  try dsimp only [Exit.inBlock]
  exact bodyPost_ret (v := .bool true) (results_tmpQ (fn := Tryd.f9) (t := 4) rfl _ _ (.bool true) rfl) rfl ⟨rfl, HU5.out⟩
set_option maxHeartbeats 4000000 in
theorem paddsN {a b : List Int} (w : World) (hT : Tw w) (ha : a.length = 32) (da : Digs 256 a) (hb : b.length = 32) (db : Digs 256 b) (hk : ∀ e : EP, encP e ≠ a) :
    Calls Tryd.prog 9 #[.agg (numsA .u8 a), .agg (numsA .u8 b)] w fun e w' => e = .returned (.bool true) ∧ Upd (fun _ => False) w w' := by
  have HT := hh hT
  clear hT
  have HU := hh (Upd.refl (fun _ => False) w)
  go_enter Tryd.func9, Tryd.ntmps9
  refine wp_seq_k fun K0 hK0 => ?_
  refine wp_region_qSD 3 #[true, true, true] [] ([.blk ptrTo 23 (fun z => z = numsA .u8 a), .blk ptrTo 23 (fun z => z = numsA .u8 b), .val (.bool false)] : List SQ) (by kernel_rfl) (by kernel_rfl) (by kernel_rfl) (by kernel_rfl) ?_ ?_
  · intro i o listed an wn ho hls hst hun hdep hI hD hpre K' hK'
    rcases slot_cases (l := [0, 1, 2]) rfl ho hst with rfl | rfl | rfl | ⟨⟨⟩⟩
    · obtain rfl := Option.some.inj ho
      have hvp : an.eval (.tmp 0) = .agg (numsA .u8 a) := hI.oq (by kernel_rfl) rfl
      exact hI.newQ hD hls (Nat.le_refl _) (newsQ_spec (l := [0, 1]) (by kernel_rfl) ⟨⟨_, _, rfl⟩, ⟨_, _, rfl⟩, trivial⟩) rfl rfl rfl 23 _ (fun z => z = numsA .u8 a) (run_boxQ rfl hvp wn) rfl rfl hK'
    · obtain rfl := Option.some.inj ho
      have hvp : an.eval (.tmp 1) = .agg (numsA .u8 b) := hI.oq (by kernel_rfl) rfl
      exact hI.newQ hD hls (Nat.le_refl _) (newsQ_spec (l := [0, 1]) (by kernel_rfl) ⟨⟨_, _, rfl⟩, ⟨_, _, rfl⟩, trivial⟩) rfl rfl rfl 23 _ (fun z => z = numsA .u8 b) (run_boxQ rfl hvp wn) rfl rfl hK'
    · obtain rfl := Option.some.inj ho
      exact hI.pq hD hls rfl rfl rfl _ (run_moveQ (.inr rfl) (show an.eval (.const (.bool false)) = .bool false from rfl) wn) (.val (.bool false)) rfl rfl rfl hK'
  intro an w1 hI
  obtain ⟨vr0_0, hvr0_0, br0_0, zr0_0, rfl, hnr0_0, hbr0_0, hzr0_0⟩ := hI.hq 0 _ 2 _ rfl rfl rfl rfl
  rw [hzr0_0] at hbr0_0
  clear hzr0_0
  obtain ⟨vr0_1, hvr0_1, br0_1, zr0_1, rfl, hnr0_1, hbr0_1, hzr0_1⟩ := hI.hq 1 _ 3 _ rfl rfl rfl rfl
  rw [hzr0_1] at hbr0_1
  clear hzr0_1
  obtain ⟨vr0_2, hvr0_2, rfl⟩ := hI.hq 2 _ 4 _ rfl rfl rfl rfl
  have hupd := hI.upd
  have hner0_0_r0_1 := hh (show br0_0 ≠ br0_1 from fun e => hI.apart 0 1 _ _ 2 3 (by omega) rfl rfl rfl rfl rfl rfl rfl rfl (by rw [hvr0_0, hvr0_1, e]))
  have ha := hI.act [(2, ptrTo br0_0), (3, ptrTo br0_1), (4, .bool false)] (by simp [hvr0_0, hvr0_1, hvr0_2]) (by kernel_rfl)
  clear hI hvr0_0 hvr0_1 hvr0_2
  subst ha
  simp only [List.foldl_cons, List.foldl_nil, List.setIfInBounds_toArray, List.set_cons_zero, List.set_cons_succ]
  have hger0_0 := geB HU hnr0_0
  have hger0_1 := geB HU hnr0_1
  have Bxr0y0 := hh hbr0_0
  have Bxr0y1 := hh hbr0_1
  have HU0 := hh (HU.out.trans hupd)
  clear hupd
  refine wpOps_nil ?_
  refine hK0 _ _ ?_
  clear hK0
  refine wp_seq_k fun K1 hK1 => ?_
  refine wp_seq_k fun K2 hK2 => ?_
  refine wp_region_qSD 2 #[true, true] [] ([.val (.bool true), .val (.bool false)] : List SQ) (by kernel_rfl) (by kernel_rfl) (by kernel_rfl) (by kernel_rfl) ?_ ?_
  · intro i o listed an wn ho hls hst hun hdep hI hD hpre K' hK'
    rcases slot_cases (l := [0, 1]) rfl ho hst with rfl | rfl | ⟨⟨⟩⟩
    · obtain rfl := Option.some.inj ho
      exact hI.cq hD hls rfl rfl rfl 23 #[] _ rfl #[] (by simp) (run_enter Tryd.func23 (by kernel_rfl) (by kernel_rfl)) (.val (.bool true)) rfl rfl ((basedL _ (HT.out.upd (HU0.out.trans hI.upd))).mono fun _ _ h => ret_val h) hK'
    · obtain rfl := Option.some.inj ho
      obtain ⟨vp, hvp, rfl⟩ := hI.hq 0 _ 13 _ rfl rfl rfl (dp hdep 0 rfl rfl)
      exact hI.pq hD hls rfl rfl rfl _ (run_not rfl (eval_of hvp) wn) (.val (.bool false)) rfl rfl rfl hK'
  intro an w2 hI
  obtain ⟨vr1_0, hvr1_0, rfl⟩ := hI.hq 0 _ 13 _ rfl rfl rfl rfl
  obtain ⟨vr1_1, hvr1_1, rfl⟩ := hI.hq 1 _ 14 _ rfl rfl rfl rfl
  have hupd := hI.upd
  have ha := hI.act [(13, .bool true), (14, .bool false)] (by simp [hvr1_0, hvr1_1]) (by kernel_rfl)
  clear hI hvr1_0 hvr1_1
  subst ha
  simp only [List.foldl_cons, List.foldl_nil, List.setIfInBounds_toArray, List.set_cons_zero, List.set_cons_succ]
  have Bxr0y0_1 := hupd.keep Bxr0y0
  have Bxr0y1_1 := hupd.keep Bxr0y1
  have HU1 := hh (HU0.out.trans hupd)
  clear hupd
  refine wpOps_nil ?_
  refine hK2 _ _ ?_
  clear hK2
  refine wp_cond_false rfl ?_
  refine wp_skip ?_
  refine hK1 _ _ ?_
  clear hK1
  refine wp_seq_k fun K3 hK3 => ?_
  refine wp_region_qSD 6 #[true, true, true, true, true, true, false, false] [6, 7] ([.val (.agg (numsA .u8 a)), .like (IsCV 20 RP [none] (.int .i64 60)), .like (IsCV 20 RP [none] (.int .i64 60)), .like (IsC 20 RP [none]), .val (.int .i64 60), .blk ptrTo 41 (Ch 20 RP [none]), .val undef, .val undef] : List SQ) (by kernel_rfl) (by kernel_rfl) (by kernel_rfl) (by kernel_rfl) ?_ ?_
  · intro i o listed an wn ho hls hst hun hdep hI hD hpre K' hK'
    rcases slot_cases (l := [0, 1, 2, 3, 4, 5]) rfl ho hst with rfl | rfl | rfl | rfl | rfl | rfl | ⟨⟨⟩⟩
    · obtain rfl := Option.some.inj ho
      have hvp : an.eval (.tmp 2) = ptrTo br0_0 := hI.oq (by kernel_rfl) rfl
      exact hI.pq hD hls rfl rfl rfl _ (run_loadQ rfl hvp wn (hI.upd.keep Bxr0y0_1).out Tryd.underlying23 rfl sizeKey (by rw [numsA_size, ha]; omega)) (.val (.agg (numsA .u8 a))) rfl (congrArg Value.agg (extract_all _ 32 (by rw [numsA_size]; exact ha))) rfl hK'
    · obtain rfl := Option.some.inj ho
      obtain ⟨vp, hvp, rfl⟩ := hI.hq 0 _ 16 _ rfl rfl rfl (dp hdep 0 rfl rfl)
      exact hI.cq hD hls rfl rfl rfl 24 #[.tmp 16] _ rfl #[.agg (numsA .u8 a)] (by simp [eval_of hvp]) (run_enter Tryd.func24 (by kernel_rfl) (by kernel_rfl)) (.like (IsCV 20 RP [none] (.int .i64 60))) rfl rfl ((decodeF _ (HT.out.upd (HU1.out.trans hI.upd)) ha da hk).mono fun _ _ h => h.sq) hK'
    · obtain rfl := Option.some.inj ho
      obtain ⟨vp, hvp, ap, rfl, hCp⟩ := hI.hq 1 _ 17 _ rfl rfl rfl (dp hdep 0 rfl rfl)
      exact hI.pq hD hls rfl rfl rfl _ (run_moveQ (.inl rfl) (eval_of hvp) wn) (.like (IsCV 20 RP [none] (.int .i64 60))) rfl ⟨_, rfl, hCp⟩ rfl hK'
    · obtain rfl := Option.some.inj ho
      obtain ⟨vp, hvp, ap, rfl, hCp⟩ := hI.hq 2 _ 15 _ rfl rfl rfl (dp hdep 0 rfl rfl)
      exact hI.pq hD hls rfl rfl rfl _ (run_extractQ rfl (eval_of hvp) rfl wn) (.like (IsC 20 RP [none])) rfl ⟨_, rfl, hCp⟩ rfl hK'
    · obtain rfl := Option.some.inj ho
      obtain ⟨vp, hvp, ap, rfl, hCp⟩ := hI.hq 2 _ 15 _ rfl rfl rfl (dp hdep 0 rfl rfl)
      exact hI.pq hD hls rfl rfl rfl _ (run_extractQ rfl (eval_of hvp) rfl wn) (.val (.int .i64 60)) rfl rfl rfl hK'
    · obtain rfl := Option.some.inj ho
      exact hI.newQ hD hls (Nat.le_refl _) (newsQ_spec (l := [5]) (by kernel_rfl) ⟨⟨_, _, rfl⟩, trivial⟩) rfl rfl rfl 41 zPt _ (run_allocQ rfl zPt_run wn) rfl zPt_p hK'
  intro an w3 hI
  obtain ⟨vr2_0, hvr2_0, rfl⟩ := hI.hq 0 _ 16 _ rfl rfl rfl rfl
  obtain ⟨vr2_1, hvr2_1, ar2_1, rfl, hCr2_1⟩ := hI.hq 1 _ 17 _ rfl rfl rfl rfl
  obtain ⟨vr2_2, hvr2_2, ar2_2, rfl, hCr2_2⟩ := hI.hq 2 _ 15 _ rfl rfl rfl rfl
  obtain ⟨vr2_3, hvr2_3, ar2_3, rfl, hCr2_3⟩ := hI.hq 3 _ 18 _ rfl rfl rfl rfl
  obtain ⟨vr2_4, hvr2_4, rfl⟩ := hI.hq 4 _ 19 _ rfl rfl rfl rfl
  obtain ⟨vr2_5, hvr2_5, br2_5, zr2_5, rfl, hnr2_5, hbr2_5, hzr2_5⟩ := hI.hq 5 _ 5 _ rfl rfl rfl rfl
  have hupd := hI.upd
  have ha := hI.act [(16, .agg (numsA .u8 a)), (17, .tuple #[.agg ar2_1, .int .i64 60]), (15, .tuple #[.agg ar2_2, .int .i64 60]), (18, .agg ar2_3), (19, .int .i64 60), (5, ptrTo br2_5)] (by simp [hvr2_0, hvr2_1, hvr2_2, hvr2_3, hvr2_4, hvr2_5]) (by kernel_rfl)
  clear hI hvr2_0 hvr2_1 hvr2_2 hvr2_3 hvr2_4 hvr2_5
  subst ha
  simp only [List.foldl_cons, List.foldl_nil, List.setIfInBounds_toArray, List.set_cons_zero, List.set_cons_succ]
  have hner2_5_Bxr0y0_1 := apartB Bxr0y0_1 hnr2_5
  have hner2_5_Bxr0y1_1 := apartB Bxr0y1_1 hnr2_5
  have hger2_5 := geB HU1 hnr2_5
  have Bxr0y0_2 := hupd.keep Bxr0y0_1
  have Bxr0y1_2 := hupd.keep Bxr0y1_1
  have Bxr2y5 := hh hbr2_5
  have HU2 := hh (HU1.out.trans hupd)
  clear hupd
  refine wpOps_storeQ 6 rfl rfl rfl 41 (.tmp 5) (.tmp 18) rfl br2_5 0 20 rfl ar2_3 rfl 41 zr2_5 Bxr2y5.out szPt hCr2_3.size (by rw [hzr2_5.size]; exact Nat.le_of_ble_eq_true rfl) hCr2_3.one' ?_
  intro ws2_0 hs2_0 hus2_0
  rw [splice_all _ _ 20 hzr2_5.size hCr2_3.size] at hs2_0
  have Bxr0y0_s2_0 := hus2_0.keepS Bxr0y0_2 (fun e => hner2_5_Bxr0y0_1.out e.symm)
  have Bxr0y1_s2_0 := hus2_0.keepS Bxr0y1_2 (fun e => hner2_5_Bxr0y1_1.out e.symm)
  have Bxr2y5_s2_0 := hh hs2_0
  have HU2_0 := hh (HU2.out.step hus2_0 (fun i hi h => absurd hi (Nat.not_lt.2 (h.symm ▸ hger2_5.out))))
  clear hs2_0 hus2_0
  refine wpOps_pureQ 7 rfl rfl 6 rfl (.int .i64 60) (run_moveQ (x := .tmp 19) (v := .int .i64 60) (.inr rfl) rfl _) ?_
  simp only [List.setIfInBounds_toArray, List.set_cons_zero, List.set_cons_succ]
  refine wpOps_nil ?_
  refine hK3 _ _ ?_
  clear hK3
  refine wp_seq_k fun K4 hK4 => ?_
  refine wp_region_qSD 6 #[true, true, true, true, true, true, false, false] [6, 7] ([.val (.agg (numsA .u8 b)), .like (IsCV 20 RP [none] (.int .i64 (errOf b))), .like (IsCV 20 RP [none] (.int .i64 (errOf b))), .like (IsC 20 RP [none]), .val (.int .i64 (errOf b)), .blk ptrTo 41 (Ch 20 RP [none]), .val undef, .val undef] : List SQ) (by kernel_rfl) (by kernel_rfl) (by kernel_rfl) (by kernel_rfl) ?_ ?_
  · intro i o listed an wn ho hls hst hun hdep hI hD hpre K' hK'
    rcases slot_cases (l := [0, 1, 2, 3, 4, 5]) rfl ho hst with rfl | rfl | rfl | rfl | rfl | rfl | ⟨⟨⟩⟩
    · obtain rfl := Option.some.inj ho
      have hvp : an.eval (.tmp 3) = ptrTo br0_1 := hI.oq (by kernel_rfl) rfl
      exact hI.pq hD hls rfl rfl rfl _ (run_loadQ rfl hvp wn (hI.upd.keep Bxr0y1_s2_0).out Tryd.underlying23 rfl sizeKey (by rw [numsA_size, hb]; omega)) (.val (.agg (numsA .u8 b))) rfl (congrArg Value.agg (extract_all _ 32 (by rw [numsA_size]; exact hb))) rfl hK'
    · obtain rfl := Option.some.inj ho
      obtain ⟨vp, hvp, rfl⟩ := hI.hq 0 _ 21 _ rfl rfl rfl (dp hdep 0 rfl rfl)
      exact hI.cq hD hls rfl rfl rfl 24 #[.tmp 21] _ rfl #[.agg (numsA .u8 b)] (by simp [eval_of hvp]) (run_enter Tryd.func24 (by kernel_rfl) (by kernel_rfl)) (.like (IsCV 20 RP [none] (.int .i64 (errOf b)))) rfl rfl ((decodeN _ (HT.out.upd (HU2_0.out.trans hI.upd)) hb db).mono fun _ _ h => h.sq) hK'
    · obtain rfl := Option.some.inj ho
      obtain ⟨vp, hvp, ap, rfl, hCp⟩ := hI.hq 1 _ 22 _ rfl rfl rfl (dp hdep 0 rfl rfl)
      exact hI.pq hD hls rfl rfl rfl _ (run_moveQ (.inl rfl) (eval_of hvp) wn) (.like (IsCV 20 RP [none] (.int .i64 (errOf b)))) rfl ⟨_, rfl, hCp⟩ rfl hK'
    · obtain rfl := Option.some.inj ho
      obtain ⟨vp, hvp, ap, rfl, hCp⟩ := hI.hq 2 _ 20 _ rfl rfl rfl (dp hdep 0 rfl rfl)
      exact hI.pq hD hls rfl rfl rfl _ (run_extractQ rfl (eval_of hvp) rfl wn) (.like (IsC 20 RP [none])) rfl ⟨_, rfl, hCp⟩ rfl hK'
    · obtain rfl := Option.some.inj ho
      obtain ⟨vp, hvp, ap, rfl, hCp⟩ := hI.hq 2 _ 20 _ rfl rfl rfl (dp hdep 0 rfl rfl)
      exact hI.pq hD hls rfl rfl rfl _ (run_extractQ rfl (eval_of hvp) rfl wn) (.val (.int .i64 (errOf b))) rfl rfl rfl hK'
    · obtain rfl := Option.some.inj ho
      exact hI.newQ hD hls (Nat.le_refl _) (newsQ_spec (l := [5]) (by kernel_rfl) ⟨⟨_, _, rfl⟩, trivial⟩) rfl rfl rfl 41 zPt _ (run_allocQ rfl zPt_run wn) rfl zPt_p hK'
  intro an w4 hI
  obtain ⟨vr3_0, hvr3_0, rfl⟩ := hI.hq 0 _ 21 _ rfl rfl rfl rfl
  obtain ⟨vr3_1, hvr3_1, ar3_1, rfl, hCr3_1⟩ := hI.hq 1 _ 22 _ rfl rfl rfl rfl
  obtain ⟨vr3_2, hvr3_2, ar3_2, rfl, hCr3_2⟩ := hI.hq 2 _ 20 _ rfl rfl rfl rfl
  obtain ⟨vr3_3, hvr3_3, ar3_3, rfl, hCr3_3⟩ := hI.hq 3 _ 23 _ rfl rfl rfl rfl
  obtain ⟨vr3_4, hvr3_4, rfl⟩ := hI.hq 4 _ 24 _ rfl rfl rfl rfl
  obtain ⟨vr3_5, hvr3_5, br3_5, zr3_5, rfl, hnr3_5, hbr3_5, hzr3_5⟩ := hI.hq 5 _ 7 _ rfl rfl rfl rfl
  have hupd := hI.upd
  have ha := hI.act [(21, .agg (numsA .u8 b)), (22, .tuple #[.agg ar3_1, .int .i64 (errOf b)]), (20, .tuple #[.agg ar3_2, .int .i64 (errOf b)]), (23, .agg ar3_3), (24, .int .i64 (errOf b)), (7, ptrTo br3_5)] (by simp [hvr3_0, hvr3_1, hvr3_2, hvr3_3, hvr3_4, hvr3_5]) (by kernel_rfl)
  clear hI hvr3_0 hvr3_1 hvr3_2 hvr3_3 hvr3_4 hvr3_5
  subst ha
  simp only [List.foldl_cons, List.foldl_nil, List.setIfInBounds_toArray, List.set_cons_zero, List.set_cons_succ]
  have hner3_5_Bxr0y0_s2_0 := apartB Bxr0y0_s2_0 hnr3_5
  have hner3_5_Bxr0y1_s2_0 := apartB Bxr0y1_s2_0 hnr3_5
  have hner3_5_Bxr2y5_s2_0 := apartB Bxr2y5_s2_0 hnr3_5
  have hger3_5 := geB HU2_0 hnr3_5
  have Bxr0y0_3 := hupd.keep Bxr0y0_s2_0
  have Bxr0y1_3 := hupd.keep Bxr0y1_s2_0
  have Bxr2y5_3 := hupd.keep Bxr2y5_s2_0
  have Bxr3y5 := hh hbr3_5
  have HU3 := hh (HU2_0.out.trans hupd)
  clear hupd
  refine wpOps_storeQ 6 rfl rfl rfl 41 (.tmp 7) (.tmp 23) rfl br3_5 0 20 rfl ar3_3 rfl 41 zr3_5 Bxr3y5.out szPt hCr3_3.size (by rw [hzr3_5.size]; exact Nat.le_of_ble_eq_true rfl) hCr3_3.one' ?_
  intro ws3_0 hs3_0 hus3_0
  rw [splice_all _ _ 20 hzr3_5.size hCr3_3.size] at hs3_0
  have Bxr0y0_s3_0 := hus3_0.keepS Bxr0y0_3 (fun e => hner3_5_Bxr0y0_s2_0.out e.symm)
  have Bxr0y1_s3_0 := hus3_0.keepS Bxr0y1_3 (fun e => hner3_5_Bxr0y1_s2_0.out e.symm)
  have Bxr2y5_s3_0 := hus3_0.keepS Bxr2y5_3 (fun e => hner3_5_Bxr2y5_s2_0.out e.symm)
  have Bxr3y5_s3_0 := hh hs3_0
  have HU3_0 := hh (HU3.out.step hus3_0 (fun i hi h => absurd hi (Nat.not_lt.2 (h.symm ▸ hger3_5.out))))
  clear hs3_0 hus3_0
  refine wpOps_pureQ 7 rfl rfl 8 rfl (.int .i64 (errOf b)) (run_moveQ (x := .tmp 24) (v := .int .i64 (errOf b)) (.inr rfl) rfl _) ?_
  simp only [List.setIfInBounds_toArray, List.set_cons_zero, List.set_cons_succ]
  refine wpOps_nil ?_
  refine hK4 _ _ ?_
  clear hK4
  refine wp_seq_k fun K5 hK5 => ?_
  refine wp_seq_k fun K6 hK6 => ?_
  refine wp_region_qSD 6 #[true, true, true, true, true, true] [] ([.val (.int .i64 60), .val (.bool true), .val (.bool true), .val undef, .val undef, .val (.bool true)] : List SQ) (by kernel_rfl) (by kernel_rfl) (by kernel_rfl) (by kernel_rfl) ?_ ?_
  · intro i o listed an wn ho hls hst hun hdep hI hD hpre K' hK'
    rcases slot_cases (l := [0, 1, 2, 3, 4, 5]) rfl ho hst with rfl | rfl | rfl | rfl | rfl | rfl | ⟨⟨⟩⟩
    · obtain rfl := Option.some.inj ho
      have hvp : an.eval (.tmp 6) = .int .i64 60 := hI.oq (by kernel_rfl) rfl
      exact hI.pq hD hls rfl rfl rfl _ (run_moveQ (.inl rfl) hvp wn) (.val (.int .i64 60)) rfl rfl rfl hK'
    · obtain rfl := Option.some.inj ho
      obtain ⟨vp, hvp, rfl⟩ := hI.hq 0 _ 25 _ rfl rfl rfl (dp hdep 0 rfl rfl)
      exact hI.pq hD hls rfl rfl rfl _ (run_neq rfl (eval_of hvp) rfl (ne_of_eqB (show decide ((60 : Int) = 0) = false by decide)) wn) (.val (.bool true)) rfl rfl rfl hK'
    · obtain rfl := Option.some.inj ho
      obtain ⟨vp, hvp, rfl⟩ := hI.hq 1 _ 26 _ rfl rfl rfl (dp hdep 0 rfl rfl)
      exact hI.pq hD hls rfl rfl rfl _ (run_moveQ (.inl rfl) (eval_of hvp) wn) (.val (.bool true)) rfl rfl rfl hK'
    · obtain rfl := Option.some.inj ho
      obtain ⟨vg, hvg, rfl⟩ := hI.hq 2 _ 27 _ rfl rfl rfl (dp hdep 0 rfl rfl)
      exact hI.skipQ hD hls rfl (wanted_notQ rfl rfl rfl hvg rfl) rfl rfl rfl hK'
    · obtain rfl := Option.some.inj ho
      obtain ⟨vg, hvg, rfl⟩ := hI.hq 2 _ 27 _ rfl rfl rfl (dp hdep 1 rfl rfl)
      exact hI.skipQ hD hls rfl (wanted_notQ rfl rfl rfl hvg rfl) rfl rfl rfl hK'
    · obtain rfl := Option.some.inj ho
      obtain ⟨vp, hvp, rfl⟩ := hI.hq 2 _ 27 _ rfl rfl rfl (dp hdep 0 rfl rfl)
      exact hI.pq hD hls rfl rfl rfl _ (run_pickT rfl (eval_of hvp) (show an.eval (.const (.bool true)) = .bool true from rfl) wn) (.val (.bool true)) rfl rfl rfl hK'
  intro an w5 hI
  obtain ⟨vr4_0, hvr4_0, rfl⟩ := hI.hq 0 _ 25 _ rfl rfl rfl rfl
  obtain ⟨vr4_1, hvr4_1, rfl⟩ := hI.hq 1 _ 26 _ rfl rfl rfl rfl
  obtain ⟨vr4_2, hvr4_2, rfl⟩ := hI.hq 2 _ 27 _ rfl rfl rfl rfl
  obtain ⟨vr4_3, hvr4_3, rfl⟩ := hI.hq 3 _ 28 _ rfl rfl rfl rfl
  obtain ⟨vr4_4, hvr4_4, rfl⟩ := hI.hq 4 _ 29 _ rfl rfl rfl rfl
  obtain ⟨vr4_5, hvr4_5, rfl⟩ := hI.hq 5 _ 30 _ rfl rfl rfl rfl
  have hupd := hI.upd
  have ha := hI.act [(25, .int .i64 60), (26, .bool true), (27, .bool true), (28, undef), (29, undef), (30, .bool true)] (by simp [hvr4_0, hvr4_1, hvr4_2, hvr4_3, hvr4_4, hvr4_5]) (by kernel_rfl)
  clear hI hvr4_0 hvr4_1 hvr4_2 hvr4_3 hvr4_4 hvr4_5
  subst ha
  simp only [List.foldl_cons, List.foldl_nil, List.setIfInBounds_toArray, List.set_cons_zero, List.set_cons_succ]
  have Bxr0y0_4 := hupd.keep Bxr0y0_s3_0
  have Bxr0y1_4 := hupd.keep Bxr0y1_s3_0
  have Bxr2y5_4 := hupd.keep Bxr2y5_s3_0
  have Bxr3y5_4 := hupd.keep Bxr3y5_s3_0
  have HU4 := hh (HU3_0.out.trans hupd)
  clear hupd
  refine wpOps_nil ?_
  refine hK6 _ _ ?_
  clear hK6
  refine wp_cond_true rfl ?_
  refine wp_seq_k fun K7 hK7 => ?_
  refine wp_region_qSD 1 #[true] [] ([.val (.bool true)] : List SQ) (by kernel_rfl) (by kernel_rfl) (by kernel_rfl) (by kernel_rfl) ?_ ?_
  · intro i o listed an wn ho hls hst hun hdep hI hD hpre K' hK'
    rcases slot_cases (l := [0]) rfl ho hst with rfl | ⟨⟨⟩⟩
    · obtain rfl := Option.some.inj ho
      exact hI.pq hD hls rfl rfl rfl _ (run_moveQ (.inr rfl) (show an.eval (.const (.bool true)) = .bool true from rfl) wn) (.val (.bool true)) rfl rfl rfl hK'
  intro an w6 hI
  obtain ⟨vr5_0, hvr5_0, rfl⟩ := hI.hq 0 _ 4 _ rfl rfl rfl rfl
  have hupd := hI.upd
  have ha := hI.act [(4, .bool true)] (by simp [hvr5_0]) (by kernel_rfl)
  clear hI hvr5_0
  subst ha
  simp only [List.foldl_cons, List.foldl_nil, List.setIfInBounds_toArray, List.set_cons_zero, List.set_cons_succ]
  have Bxr0y0_5 := hupd.keep Bxr0y0_4
  have Bxr0y1_5 := hupd.keep Bxr0y1_4
  have Bxr2y5_5 := hupd.keep Bxr2y5_4
  have Bxr3y5_5 := hupd.keep Bxr3y5_4
  have HU5 := hh (HU4.out.trans hupd)
  clear hupd
  refine wpOps_nil ?_
  refine hK7 _ _ ?_
  clear hK7
  refine wp_ret ?_
  try dsimp only [Exit.then]
  try dsimp only [Exit.inBlock]
  exact bodyPost_ret (v := .bool true) (results_tmpQ (fn := Tryd.f9) (t := 4) rfl _ _ (.bool true) rfl) rfl ⟨rfl, HU5.out⟩
theorem pointAdds_any {a b : List Int} (w : World) (hT : Tw w) (ha : a.length = 32) (da : Digs 256 a) (hb : b.length = 32) (db : Digs 256 b) : Calls Tryd.prog 9 #[.agg (numsA .u8 a), .agg (numsA .u8 b)] w fun e w' => e = .returned (.bool true) ∧ Upd (fun _ => False) w w' := by
  by_cases h : ∃ e : EP, encP e = a
  · obtain ⟨e, he⟩ := h
    by_cases g : ∃ e : EP, encP e = b
    · obtain ⟨f, hf⟩ := g
      exact paddsT w hT ha da hb db he hf
    · exact paddsF w hT ha da hb db he (fun e he => g ⟨e, he⟩)
  · exact paddsN w hT ha da hb db (fun e he => h ⟨e, he⟩)
end Go.Proofs.YtdpafemcpbhlfaaDoor
