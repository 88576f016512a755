/-
  Walks of the reference of layer 6: Base, Multiply.
-/
import Derived.Test.YtdpafemcpbhlfaaDoorR6R
namespace Go.Proofs.YtdpafemcpbhlfaaDoor
set_option maxRecDepth 100000
open Go.RowKit

set_option maxHeartbeats 4000000 in
theorem rbaseR (w : World) :
    Calls Tryd.prog 35 #[] w (RetC 48 RQ [some eB] w) := by
  have HU := hh (Upd.refl (fun _ => False) w)
  go_enter Tryd.func35, Tryd.ntmps35
  refine wp_seq_k fun K0 hK0 => ?_
  refine wp_region_qSD 1 #[true] [] ([.blk ptrTo 47 (Ch 48 RQ [none])] : List SQ) (by kernel_rfl) (by kernel_rfl) (by kernel_rfl) (by kernel_rfl) ?_ ?_
  · intro i o listed an wn ho hls hst hun hdep hI hD hpre K' hK'
    rcases slot_cases (l := [0]) rfl ho hst with rfl | ⟨⟨⟩⟩
    · obtain rfl := Option.some.inj ho
      exact hI.newQ hD hls (Nat.le_refl _) (newsQ_spec (l := [0]) (by kernel_rfl) ⟨⟨_, _, rfl⟩, trivial⟩) rfl rfl rfl 47 zR6 _ (run_allocQ rfl zR6_run wn) rfl zR6_q hK'
  intro an w1 hI
  obtain ⟨vr0_0, hvr0_0, br0_0, zr0_0, rfl, hnr0_0, hbr0_0, hzr0_0⟩ := hI.hq 0 _ 0 _ rfl rfl rfl rfl
  have hupd := hI.upd
  have ha := hI.act [(0, ptrTo br0_0)] (by simp [hvr0_0]) (by kernel_rfl)
  clear hI hvr0_0
  subst ha
  simp only [List.foldl_cons, List.foldl_nil, List.setIfInBounds_toArray, List.set_cons_zero]
  have hger0_0 := geB HU hnr0_0
  have Bxr0y0 := hh hbr0_0
  have HU0 := hh (HU.out.trans hupd)
  clear hupd
  refine wpOps_nil ?_
  refine hK0 _ _ ?_
  clear hK0
  refine wp_seq_k fun K1 hK1 => ?_
  refine wp_region_qSD 10 #[true, true, true, true, true, true, true, true, true, true, false, false] [10, 11] ([.like (IsC 16 RN [fv 4]), .like (IsC 16 RN [fv 5]), .like (IsC 16 RN [finv (fv 5)]), .like (IsC 16 RN [(fv 4) * (finv (fv 5))]), .val (.agg (numsA .u8 (keyOf ((fv 4) * (finv (fv 5)))))), .like (IsCV 48 RQ [some eB] (.int .i64 0)), .like (IsCV 48 RQ [some eB] (.int .i64 0)), .like (IsC 48 RQ [some eB]), .val (.int .i64 0), .blk ptrTo 47 (Ch 48 RQ [none]), .val undef, .val undef] : List SQ) (by kernel_rfl) (by kernel_rfl) (by kernel_rfl) (by kernel_rfl) ?_ ?_
  · intro i o listed an wn ho hls hst hun hdep hI hD hpre K' hK'
    rcases slot_cases (l := [0, 1, 2, 3, 4, 5, 6, 7, 8, 9]) rfl ho hst with rfl | rfl | rfl | rfl | rfl | rfl | rfl | rfl | rfl | rfl | ⟨⟨⟩⟩
    · obtain rfl := Option.some.inj ho
      exact hI.cq hD hls rfl rfl rfl 54 #[.const (.int .u64 4)] _ rfl #[.int .u64 4] (by simp [Act.eval]) (run_enter Tryd.func54 (by kernel_rfl) (by kernel_rfl)) (.like (IsC 16 RN [fv 4])) rfl rfl ((rSmallE 4 (by decide) (by decide)).mono fun _ _ h => h.sq) hK'
    · obtain rfl := Option.some.inj ho
      exact hI.cq hD hls rfl rfl rfl 54 #[.const (.int .u64 5)] _ rfl #[.int .u64 5] (by simp [Act.eval]) (run_enter Tryd.func54 (by kernel_rfl) (by kernel_rfl)) (.like (IsC 16 RN [fv 5])) rfl rfl ((rSmallE 5 (by decide) (by decide)).mono fun _ _ h => h.sq) hK'
    · obtain rfl := Option.some.inj ho
      obtain ⟨vp, hvp, ap, rfl, hCp⟩ := hI.hq 1 _ 5 _ rfl rfl rfl (dp hdep 0 rfl rfl)
      exact hI.cq hD hls rfl rfl rfl 59 #[.tmp 5] _ rfl #[.agg ap] (by simp [eval_of hvp]) (run_enter Tryd.func59 (by kernel_rfl) (by kernel_rfl)) (.like (IsC 16 RN [finv (fv 5)])) rfl rfl ((rInvE hCp).mono fun _ _ h => h.sq) hK'
    · obtain rfl := Option.some.inj ho
      obtain ⟨vp, hvp, ap, rfl, hCp⟩ := hI.hq 0 _ 4 _ rfl rfl rfl (dp hdep 0 rfl rfl)
      obtain ⟨vq, hvq, aq, rfl, hCq⟩ := hI.hq 2 _ 6 _ rfl rfl rfl (dp hdep 1 rfl rfl)
      exact hI.cq hD hls rfl rfl rfl 58 #[.tmp 4, .tmp 6] _ rfl #[.agg ap, .agg aq] (by simp [eval_of hvp, eval_of hvq]) (run_enter Tryd.func58 (by kernel_rfl) (by kernel_rfl)) (.like (IsC 16 RN [(fv 4) * (finv (fv 5))])) rfl rfl ((rMulE hCp hCq).mono fun _ _ h => h.sq) hK'
    · obtain rfl := Option.some.inj ho
      obtain ⟨vp, hvp, ap, rfl, hCp⟩ := hI.hq 3 _ 7 _ rfl rfl rfl (dp hdep 0 rfl rfl)
      exact hI.cq hD hls rfl rfl rfl 57 #[.tmp 7] _ rfl #[.agg ap] (by simp [eval_of hvp]) (run_enter Tryd.func57 (by kernel_rfl) (by kernel_rfl)) (.val (.agg (numsA .u8 (keyOf ((fv 4) * (finv (fv 5))))))) rfl rfl ((rBytesE hCp).mono fun _ _ h => ret_val h) hK'
    · obtain rfl := Option.some.inj ho
      obtain ⟨vp, hvp, rfl⟩ := hI.hq 4 _ 8 _ rfl rfl rfl (dp hdep 0 rfl rfl)
      exact hI.cq hD hls rfl rfl rfl 25 #[.tmp 8] _ rfl #[.agg (numsA .u8 (keyOf ((fv 4) * (finv (fv 5)))))] (by simp [eval_of hvp]) (run_enter Tryd.func25 (by kernel_rfl) (by kernel_rfl)) (.like (IsCV 48 RQ [some eB] (.int .i64 0))) rfl rfl ((rdecodeT _ (keyOf_length _) (keyOf_digs _) base_key).mono fun _ _ h => h.sq) hK'
    · obtain rfl := Option.some.inj ho
      obtain ⟨vp, hvp, ap, rfl, hCp⟩ := hI.hq 5 _ 9 _ rfl rfl rfl (dp hdep 0 rfl rfl)
      exact hI.pq hD hls rfl rfl rfl _ (run_moveQ (.inl rfl) (eval_of hvp) wn) (.like (IsCV 48 RQ [some eB] (.int .i64 0))) rfl ⟨_, rfl, hCp⟩ rfl hK'
    · obtain rfl := Option.some.inj ho
      obtain ⟨vp, hvp, ap, rfl, hCp⟩ := hI.hq 6 _ 3 _ rfl rfl rfl (dp hdep 0 rfl rfl)
      exact hI.pq hD hls rfl rfl rfl _ (run_extractQ rfl (eval_of hvp) rfl wn) (.like (IsC 48 RQ [some eB])) rfl ⟨_, rfl, hCp⟩ rfl hK'
    · obtain rfl := Option.some.inj ho
      obtain ⟨vp, hvp, ap, rfl, hCp⟩ := hI.hq 6 _ 3 _ rfl rfl rfl (dp hdep 0 rfl rfl)
      exact hI.pq hD hls rfl rfl rfl _ (run_extractQ rfl (eval_of hvp) rfl wn) (.val (.int .i64 0)) rfl rfl rfl hK'
    · obtain rfl := Option.some.inj ho
      exact hI.newQ hD hls (Nat.le_refl _) (newsQ_spec (l := [9]) (by kernel_rfl) ⟨⟨_, _, rfl⟩, trivial⟩) rfl rfl rfl 47 zR6 _ (run_allocQ rfl zR6_run wn) rfl zR6_q hK'
  intro an w2 hI
  obtain ⟨vr1_0, hvr1_0, ar1_0, rfl, hCr1_0⟩ := hI.hq 0 _ 4 _ rfl rfl rfl rfl
  obtain ⟨vr1_1, hvr1_1, ar1_1, rfl, hCr1_1⟩ := hI.hq 1 _ 5 _ rfl rfl rfl rfl
  obtain ⟨vr1_2, hvr1_2, ar1_2, rfl, hCr1_2⟩ := hI.hq 2 _ 6 _ rfl rfl rfl rfl
  obtain ⟨vr1_3, hvr1_3, ar1_3, rfl, hCr1_3⟩ := hI.hq 3 _ 7 _ rfl rfl rfl rfl
  obtain ⟨vr1_4, hvr1_4, rfl⟩ := hI.hq 4 _ 8 _ rfl rfl rfl rfl
  obtain ⟨vr1_5, hvr1_5, ar1_5, rfl, hCr1_5⟩ := hI.hq 5 _ 9 _ rfl rfl rfl rfl
  obtain ⟨vr1_6, hvr1_6, ar1_6, rfl, hCr1_6⟩ := hI.hq 6 _ 3 _ rfl rfl rfl rfl
  obtain ⟨vr1_7, hvr1_7, ar1_7, rfl, hCr1_7⟩ := hI.hq 7 _ 10 _ rfl rfl rfl rfl
  obtain ⟨vr1_8, hvr1_8, rfl⟩ := hI.hq 8 _ 11 _ rfl rfl rfl rfl
  obtain ⟨vr1_9, hvr1_9, br1_9, zr1_9, rfl, hnr1_9, hbr1_9, hzr1_9⟩ := hI.hq 9 _ 1 _ rfl rfl rfl rfl
  have hupd := hI.upd
  have ha := hI.act [(4, .agg ar1_0), (5, .agg ar1_1), (6, .agg ar1_2), (7, .agg ar1_3), (8, .agg (numsA .u8 (keyOf ((fv 4) * (finv (fv 5)))))), (9, .tuple #[.agg ar1_5, .int .i64 0]), (3, .tuple #[.agg ar1_6, .int .i64 0]), (10, .agg ar1_7), (11, .int .i64 0), (1, ptrTo br1_9)] (by simp [hvr1_0, hvr1_1, hvr1_2, hvr1_3, hvr1_4, hvr1_5, hvr1_6, hvr1_7, hvr1_8, hvr1_9]) (by kernel_rfl)
  clear hI hvr1_0 hvr1_1 hvr1_2 hvr1_3 hvr1_4 hvr1_5 hvr1_6 hvr1_7 hvr1_8 hvr1_9
  subst ha
  simp only [List.foldl_cons, List.foldl_nil, List.setIfInBounds_toArray, List.set_cons_zero, List.set_cons_succ]
  have hner1_9_Bxr0y0 := apartB Bxr0y0 hnr1_9
  have hger1_9 := geB HU0 hnr1_9
  have Bxr0y0_1 := hupd.keep Bxr0y0
  have Bxr1y9 := hh hbr1_9
  have HU1 := hh (HU0.out.trans hupd)
  clear hupd
  refine wpOps_storeQ 10 rfl rfl rfl 47 (.tmp 1) (.tmp 10) rfl br1_9 0 48 rfl ar1_7 rfl 47 zr1_9 Bxr1y9.out szR6 hCr1_7.size (by rw [hzr1_9.size]; exact Nat.le_of_ble_eq_true rfl) hCr1_7.one' ?_
  intro ws1_0 hs1_0 hus1_0
  rw [splice_all _ _ 48 hzr1_9.size hCr1_7.size] at hs1_0
  have Bxr0y0_s1_0 := hus1_0.keepS Bxr0y0_1 (fun e => hner1_9_Bxr0y0.out e.symm)
  have Bxr1y9_s1_0 := hh hs1_0
  have HU1_0 := hh (HU1.out.step hus1_0 (fun i hi h => absurd hi (Nat.not_lt.2 (h.symm ▸ hger1_9.out))))
  clear hs1_0 hus1_0
  refine wpOps_pureQ 11 rfl rfl 2 rfl (.int .i64 0) (run_moveQ (x := .tmp 11) (v := .int .i64 0) (.inr rfl) rfl _) ?_
  simp only [List.setIfInBounds_toArray, List.set_cons_zero, List.set_cons_succ]
  refine wpOps_nil ?_
  refine hK1 _ _ ?_
  clear hK1
  refine wp_seq_k fun K2 hK2 => ?_
  refine wp_region_qSD 1 #[true, false] [1] ([.val (.agg ar1_7), .val undef] : List SQ) (by kernel_rfl) (by kernel_rfl) (by kernel_rfl) (by kernel_rfl) ?_ ?_
  · intro i o listed an wn ho hls hst hun hdep hI hD hpre K' hK'
    rcases slot_cases (l := [0]) rfl ho hst with rfl | ⟨⟨⟩⟩
    · obtain rfl := Option.some.inj ho
      have hvp : an.eval (.tmp 1) = ptrTo br1_9 := hI.oq (by kernel_rfl) rfl
      exact hI.pq hD hls rfl rfl rfl _ (run_loadQ rfl hvp wn (hI.upd.keep Bxr1y9_s1_0).out Tryd.underlying47 rfl szR6 (by rw [hCr1_7.size]; exact Nat.le_of_ble_eq_true rfl)) (.val (.agg ar1_7)) rfl (congrArg Value.agg (extract_all _ 48 hCr1_7.size)) rfl hK'
  intro an w3 hI
  obtain ⟨vr2_0, hvr2_0, rfl⟩ := hI.hq 0 _ 12 _ rfl rfl rfl rfl
  have hupd := hI.upd
  have ha := hI.act [(12, .agg ar1_7)] (by simp [hvr2_0]) (by kernel_rfl)
  clear hI hvr2_0
  subst ha
  simp only [List.foldl_cons, List.foldl_nil, List.setIfInBounds_toArray, List.set_cons_zero, List.set_cons_succ]
  have Bxr0y0_2 := hupd.keep Bxr0y0_s1_0
  have Bxr1y9_2 := hupd.keep Bxr1y9_s1_0
  have HU2 := hh (HU1_0.out.trans hupd)
  clear hupd
  refine wpOps_storeQ 1 rfl rfl rfl 47 (.tmp 0) (.tmp 12) rfl br0_0 0 48 rfl ar1_7 rfl 47 zr0_0 Bxr0y0_2.out szR6 hCr1_7.size (by rw [hzr0_0.size]; exact Nat.le_of_ble_eq_true rfl) hCr1_7.one' ?_
  intro ws2_0 hs2_0 hus2_0
  rw [splice_all _ _ 48 hzr0_0.size hCr1_7.size] at hs2_0
  have Bxr1y9_s2_0 := hus2_0.keepS Bxr1y9_2 (fun e => hner1_9_Bxr0y0.out e)
  have Bxr0y0_s2_0 := hh hs2_0
  have HU2_0 := hh (HU2.out.step hus2_0 (fun i hi h => absurd hi (Nat.not_lt.2 (h.symm ▸ hger0_0.out))))
  clear hs2_0 hus2_0
  refine wpOps_nil ?_
  refine hK2 _ _ ?_
  clear hK2
  refine wp_ret ?_
  try dsimp only [Exit.then]
  try dsimp only [Exit.inBlock]
  exact bodyPost_ret (v := .agg ar1_7) (results_cell_row (fn := Tryd.f35) (p := 0) (ty := 47) rfl _ _ br0_0 47 _ (0, 0) _ rfl Bxr0y0_s2_0.out Tryd.underlying47 rfl (by rw [hCr1_7.size]; exact szR6)) rfl ⟨_, rfl, hCr1_7, HU2_0.out⟩
set_option maxHeartbeats 4000000 in
theorem rmultP {l : List Int} {eP : EP} {a : Array Value} (w : World) (hl : l.length = 32) (hd : Digs 256 l) (ha : Ch 48 RQ [some eP] a) :
    Calls Tryd.prog 37 #[.agg (numsA .u8 l), .agg a] w (RetC 48 RQ [some (eP.times (expo l % 2 ^ 256))] w) := by
  have HU := hh (Upd.refl (fun _ => False) w)
  go_enter Tryd.func37, Tryd.ntmps37
  refine wp_seq_k fun K0 hK0 => ?_
  refine wp_region_qSD 3 #[true, true, true] [] ([.blk ptrTo 23 (fun z => z = numsA .u8 l), .blk ptrTo 47 (Ch 48 RQ [some eP]), .blk ptrTo 47 (Ch 48 RQ [none])] : List SQ) (by kernel_rfl) (by kernel_rfl) (by kernel_rfl) (by kernel_rfl) ?_ ?_
  · intro i o listed an wn ho hls hst hun hdep hI hD hpre K' hK'
    rcases slot_cases (l := [0, 1, 2]) rfl ho hst with rfl | rfl | rfl | ⟨⟨⟩⟩
    · obtain rfl := Option.some.inj ho
      have hvp : an.eval (.tmp 0) = .agg (numsA .u8 l) := hI.oq (by kernel_rfl) rfl
      exact hI.newQ hD hls (Nat.le_refl _) (newsQ_spec (l := [0, 1, 2]) (by kernel_rfl) ⟨⟨_, _, rfl⟩, ⟨_, _, rfl⟩, ⟨_, _, rfl⟩, trivial⟩) rfl rfl rfl 23 _ (fun z => z = numsA .u8 l) (run_boxQ rfl hvp wn) rfl rfl hK'
    · obtain rfl := Option.some.inj ho
      have hvp : an.eval (.tmp 1) = .agg a := hI.oq (by kernel_rfl) rfl
      exact hI.newQ hD hls (Nat.le_refl _) (newsQ_spec (l := [0, 1, 2]) (by kernel_rfl) ⟨⟨_, _, rfl⟩, ⟨_, _, rfl⟩, ⟨_, _, rfl⟩, trivial⟩) rfl rfl rfl 47 a _ (run_boxQ rfl hvp wn) rfl ha hK'
    · obtain rfl := Option.some.inj ho
      exact hI.newQ hD hls (Nat.le_refl _) (newsQ_spec (l := [0, 1, 2]) (by kernel_rfl) ⟨⟨_, _, rfl⟩, ⟨_, _, rfl⟩, ⟨_, _, rfl⟩, trivial⟩) rfl rfl rfl 47 zR6 _ (run_allocQ rfl zR6_run wn) rfl zR6_q hK'
  intro an w1 hI
  obtain ⟨vr0_0, hvr0_0, br0_0, zr0_0, rfl, hnr0_0, hbr0_0, hzr0_0⟩ := hI.hq 0 _ 2 _ rfl rfl rfl rfl
  rw [hzr0_0] at hbr0_0
  clear hzr0_0
  obtain ⟨vr0_1, hvr0_1, br0_1, zr0_1, rfl, hnr0_1, hbr0_1, hzr0_1⟩ := hI.hq 1 _ 3 _ rfl rfl rfl rfl
  obtain ⟨vr0_2, hvr0_2, br0_2, zr0_2, rfl, hnr0_2, hbr0_2, hzr0_2⟩ := hI.hq 2 _ 4 _ rfl rfl rfl rfl
  have hupd := hI.upd
  have hner0_0_r0_1 := hh (show br0_0 ≠ br0_1 from fun e => hI.apart 0 1 _ _ 2 3 (by omega) rfl rfl rfl rfl rfl rfl rfl rfl (by rw [hvr0_0, hvr0_1, e]))
  have hner0_0_r0_2 := hh (show br0_0 ≠ br0_2 from fun e => hI.apart 0 2 _ _ 2 4 (by omega) rfl rfl rfl rfl rfl rfl rfl rfl (by rw [hvr0_0, hvr0_2, e]))
  have hner0_1_r0_2 := hh (show br0_1 ≠ br0_2 from fun e => hI.apart 1 2 _ _ 3 4 (by omega) rfl rfl rfl rfl rfl rfl rfl rfl (by rw [hvr0_1, hvr0_2, e]))
  have ha := hI.act [(2, ptrTo br0_0), (3, ptrTo br0_1), (4, ptrTo br0_2)] (by simp [hvr0_0, hvr0_1, hvr0_2]) (by kernel_rfl)
  clear hI hvr0_0 hvr0_1 hvr0_2
  subst ha
  simp only [List.foldl_cons, List.foldl_nil, List.setIfInBounds_toArray, List.set_cons_zero, List.set_cons_succ]
  have hger0_0 := geB HU hnr0_0
  have hger0_1 := geB HU hnr0_1
  have hger0_2 := geB HU hnr0_2
  have Bxr0y0 := hh hbr0_0
  have Bxr0y1 := hh hbr0_1
  have Bxr0y2 := hh hbr0_2
  have HU0 := hh (HU.out.trans hupd)
  clear hupd
  refine wpOps_nil ?_
  refine hK0 _ _ ?_
  clear hK0
  refine wp_seq_k fun K1 hK1 => ?_
  refine wp_region_qSD 2 #[true, true, false] [2] ([.like (IsC 48 RQ [some EP.nil]), .blk ptrTo 47 (Ch 48 RQ [none]), .val undef] : List SQ) (by kernel_rfl) (by kernel_rfl) (by kernel_rfl) (by kernel_rfl) ?_ ?_
  · intro i o listed an wn ho hls hst hun hdep hI hD hpre K' hK'
    rcases slot_cases (l := [0, 1]) rfl ho hst with rfl | rfl | ⟨⟨⟩⟩
    · obtain rfl := Option.some.inj ho
      exact hI.cq hD hls rfl rfl rfl 72 #[] _ rfl #[] (by simp) (run_enter Tryd.func72 (by kernel_rfl) (by kernel_rfl)) (.like (IsC 48 RQ [some EP.nil])) rfl rfl ((rZeroR _ ).mono fun _ _ h => h.sq) hK'
    · obtain rfl := Option.some.inj ho
      exact hI.newQ hD hls (Nat.le_refl _) (newsQ_spec (l := [1]) (by kernel_rfl) ⟨⟨_, _, rfl⟩, trivial⟩) rfl rfl rfl 47 zR6 _ (run_allocQ rfl zR6_run wn) rfl zR6_q hK'
  intro an w2 hI
  obtain ⟨vr1_0, hvr1_0, ar1_0, rfl, hCr1_0⟩ := hI.hq 0 _ 10 _ rfl rfl rfl rfl
  obtain ⟨vr1_1, hvr1_1, br1_1, zr1_1, rfl, hnr1_1, hbr1_1, hzr1_1⟩ := hI.hq 1 _ 5 _ rfl rfl rfl rfl
  have hupd := hI.upd
  have ha := hI.act [(10, .agg ar1_0), (5, ptrTo br1_1)] (by simp [hvr1_0, hvr1_1]) (by kernel_rfl)
  clear hI hvr1_0 hvr1_1
  subst ha
  simp only [List.foldl_cons, List.foldl_nil, List.setIfInBounds_toArray, List.set_cons_zero, List.set_cons_succ]
  have hner1_1_Bxr0y0 := apartB Bxr0y0 hnr1_1
  have hner1_1_Bxr0y1 := apartB Bxr0y1 hnr1_1
  have hner1_1_Bxr0y2 := apartB Bxr0y2 hnr1_1
  have hger1_1 := geB HU0 hnr1_1
  have Bxr0y0_1 := hupd.keep Bxr0y0
  have Bxr0y1_1 := hupd.keep Bxr0y1
  have Bxr0y2_1 := hupd.keep Bxr0y2
  have Bxr1y1 := hh hbr1_1
  have HU1 := hh (HU0.out.trans hupd)
  clear hupd
  refine wpOps_storeQ 2 rfl rfl rfl 47 (.tmp 5) (.tmp 10) rfl br1_1 0 48 rfl ar1_0 rfl 47 zr1_1 Bxr1y1.out szR6 hCr1_0.size (by rw [hzr1_1.size]; exact Nat.le_of_ble_eq_true rfl) hCr1_0.one' ?_
  intro ws1_0 hs1_0 hus1_0
  rw [splice_all _ _ 48 hzr1_1.size hCr1_0.size] at hs1_0
  have Bxr0y0_s1_0 := hus1_0.keepS Bxr0y0_1 (fun e => hner1_1_Bxr0y0.out e.symm)
  have Bxr0y1_s1_0 := hus1_0.keepS Bxr0y1_1 (fun e => hner1_1_Bxr0y1.out e.symm)
  have Bxr0y2_s1_0 := hus1_0.keepS Bxr0y2_1 (fun e => hner1_1_Bxr0y2.out e.symm)
  have Bxr1y1_s1_0 := hh hs1_0
  have HU1_0 := hh (HU1.out.step hus1_0 (fun i hi h => absurd hi (Nat.not_lt.2 (h.symm ▸ hger1_1.out))))
  clear hs1_0 hus1_0
  refine wpOps_nil ?_
  refine hK1 _ _ ?_
  clear hK1
  refine wp_seq_k fun K2 hK2 => ?_
  refine wp_region_qSD 2 #[true, true, false] [2] ([.like (IsC 16 RN [dC]), .blk ptrTo 45 (Ch 16 RN [0]), .val undef] : List SQ) (by kernel_rfl) (by kernel_rfl) (by kernel_rfl) (by kernel_rfl) ?_ ?_
  · intro i o listed an wn ho hls hst hun hdep hI hD hpre K' hK'
    rcases slot_cases (l := [0, 1]) rfl ho hst with rfl | rfl | ⟨⟨⟩⟩
    · obtain rfl := Option.some.inj ho
      exact hI.cq hD hls rfl rfl rfl 30 #[] _ rfl #[] (by simp) (run_enter Tryd.func30 (by kernel_rfl) (by kernel_rfl)) (.like (IsC 16 RN [dC])) rfl rfl ((rDR _).mono fun _ _ h => h.sq) hK'
    · obtain rfl := Option.some.inj ho
      exact hI.newQ hD hls (Nat.le_refl _) (newsQ_spec (l := [1]) (by kernel_rfl) ⟨⟨_, _, rfl⟩, trivial⟩) rfl rfl rfl 45 zeroN _ (run_allocQ rfl zN_run wn) rfl zN_ch hK'
  intro an w3 hI
  obtain ⟨vr2_0, hvr2_0, ar2_0, rfl, hCr2_0⟩ := hI.hq 0 _ 11 _ rfl rfl rfl rfl
  obtain ⟨vr2_1, hvr2_1, br2_1, zr2_1, rfl, hnr2_1, hbr2_1, hzr2_1⟩ := hI.hq 1 _ 6 _ rfl rfl rfl rfl
  have hupd := hI.upd
  have ha := hI.act [(11, .agg ar2_0), (6, ptrTo br2_1)] (by simp [hvr2_0, hvr2_1]) (by kernel_rfl)
  clear hI hvr2_0 hvr2_1
  subst ha
  simp only [List.foldl_cons, List.foldl_nil, List.setIfInBounds_toArray, List.set_cons_zero, List.set_cons_succ]
  have hner2_1_Bxr0y0_s1_0 := apartB Bxr0y0_s1_0 hnr2_1
  have hner2_1_Bxr0y1_s1_0 := apartB Bxr0y1_s1_0 hnr2_1
  have hner2_1_Bxr0y2_s1_0 := apartB Bxr0y2_s1_0 hnr2_1
  have hner2_1_Bxr1y1_s1_0 := apartB Bxr1y1_s1_0 hnr2_1
  have hger2_1 := geB HU1_0 hnr2_1
  have Bxr0y0_2 := hupd.keep Bxr0y0_s1_0
  have Bxr0y1_2 := hupd.keep Bxr0y1_s1_0
  have Bxr0y2_2 := hupd.keep Bxr0y2_s1_0
  have Bxr1y1_2 := hupd.keep Bxr1y1_s1_0
  have Bxr2y1 := hh hbr2_1
  have HU2 := hh (HU1_0.out.trans hupd)
  clear hupd
  refine wpOps_storeQ 2 rfl rfl rfl 45 (.tmp 6) (.tmp 11) rfl br2_1 0 16 rfl ar2_0 rfl 45 zr2_1 Bxr2y1.out szN hCr2_0.size (by rw [hzr2_1.size]; exact Nat.le_of_ble_eq_true rfl) hCr2_0.one' ?_
  intro ws2_0 hs2_0 hus2_0
  rw [splice_all _ _ 16 hzr2_1.size hCr2_0.size] at hs2_0
  have Bxr0y0_s2_0 := hus2_0.keepS Bxr0y0_2 (fun e => hner2_1_Bxr0y0_s1_0.out e.symm)
  have Bxr0y1_s2_0 := hus2_0.keepS Bxr0y1_2 (fun e => hner2_1_Bxr0y1_s1_0.out e.symm)
  have Bxr0y2_s2_0 := hus2_0.keepS Bxr0y2_2 (fun e => hner2_1_Bxr0y2_s1_0.out e.symm)
  have Bxr1y1_s2_0 := hus2_0.keepS Bxr1y1_2 (fun e => hner2_1_Bxr1y1_s1_0.out e.symm)
  have Bxr2y1_s2_0 := hh hs2_0
  have HU2_0 := hh (HU2.out.step hus2_0 (fun i hi h => absurd hi (Nat.not_lt.2 (h.symm ▸ hger2_1.out))))
  clear hs2_0 hus2_0
  refine wpOps_nil ?_
  refine hK2 _ _ ?_
  clear hK2
  refine wp_seq_k fun K3 hK3 => ?_
  refine wp_seq_k fun K4 hK4 => ?_
  refine wp_region_qSD 1 #[true] [] ([.val (.int .i64 0)] : List SQ) (by kernel_rfl) (by kernel_rfl) (by kernel_rfl) (by kernel_rfl) ?_ ?_
  · intro i o listed an wn ho hls hst hun hdep hI hD hpre K' hK'
    rcases slot_cases (l := [0]) rfl ho hst with rfl | ⟨⟨⟩⟩
    · obtain rfl := Option.some.inj ho
      exact hI.pq hD hls rfl rfl rfl _ (run_moveQ (.inr rfl) (show an.eval (.const (.int .i64 0)) = .int .i64 0 from rfl) wn) (.val (.int .i64 0)) rfl rfl rfl hK'
  intro an w4 hI
  obtain ⟨vr3_0, hvr3_0, rfl⟩ := hI.hq 0 _ 7 _ rfl rfl rfl rfl
  have hupd := hI.upd
  have ha := hI.act [(7, .int .i64 0)] (by simp [hvr3_0]) (by kernel_rfl)
  clear hI hvr3_0
  subst ha
  simp only [List.foldl_cons, List.foldl_nil, List.setIfInBounds_toArray, List.set_cons_zero, List.set_cons_succ]
  have Bxr0y0_3 := hupd.keep Bxr0y0_s2_0
  have Bxr0y1_3 := hupd.keep Bxr0y1_s2_0
  have Bxr0y2_3 := hupd.keep Bxr0y2_s2_0
  have Bxr1y1_3 := hupd.keep Bxr1y1_s2_0
  have Bxr2y1_3 := hupd.keep Bxr2y1_s2_0
  have HU3 := hh (HU2_0.out.trans hupd)
  clear hupd
  refine wpOps_nil ?_
  refine hK4 _ _ ?_
  clear hK4
  refine wp_block ?_
  refine wp_loop (fun a' w' => ∃ (k : Nat) (u5_8 u5_9 u5_12 u5_13 u5_14 u5_15 u5_16 u5_17 u5_18 u5_19 u5_20 u5_21 u5_22 u5_23 u5_24 u5_25 u5_26 u5_27 u5_28 u5_29 u5_30 u5_31 u5_32 u5_33 u5_34 u5_35 u5_36 u5_37 u5_38 u5_39 : Value) (A5_5 A5_3 : Array Value), k ≤ 256 ∧ a' = ⟨#[.agg (numsA .u8 l), .agg a, ptrTo br0_0, ptrTo br0_1, ptrTo br0_2, ptrTo br1_1, ptrTo br2_1, .int .i64 (k : Int), u5_8, u5_9, .agg ar1_0, .agg ar2_0, u5_12, u5_13, u5_14, u5_15, u5_16, u5_17, u5_18, u5_19, u5_20, u5_21, u5_22, u5_23, u5_24, u5_25, u5_26, u5_27, u5_28, u5_29, u5_30, u5_31, u5_32, u5_33, u5_34, u5_35, u5_36, u5_37, u5_38, u5_39, undef], []⟩ ∧ Upd (fun _ => False) w w' ∧ Blk w' br1_1 47 A5_5 ∧ Ch 48 RQ [some (eP.times (expo l % 2 ^ k))] A5_5 ∧ Blk w' br0_1 47 A5_3 ∧ Ch 48 RQ [some (eP.times (2 ^ k))] A5_3 ∧ Blk w' br0_0 23 (numsA .u8 l) ∧ Blk w' br0_2 47 zr0_2 ∧ Blk w' br2_1 45 ar2_0) (fun a' _ => (256) - (intOf (a'.tmps.getD 7 undef)).toNat) ?_ ?_
  · exact ⟨0, undef, undef, undef, undef, undef, undef, undef, undef, undef, undef, undef, undef, undef, undef, undef, undef, undef, undef, undef, undef, undef, undef, undef, undef, undef, undef, undef, undef, undef, undef, ar1_0, zr0_1, Nat.zero_le _, rfl, HU3.out, Bxr1y1_3.out, hCr1_0.to (by rw [Nat.pow_zero, Nat.mod_one]; rfl), Bxr0y1_3.out, hzr0_1.to (by rw [Nat.pow_zero, times_one]), Bxr0y0_3.out, Bxr0y2_3.out, Bxr2y1_3.out⟩
  rintro a' wl5 ⟨k, u5_8, u5_9, u5_12, u5_13, u5_14, u5_15, u5_16, u5_17, u5_18, u5_19, u5_20, u5_21, u5_22, u5_23, u5_24, u5_25, u5_26, u5_27, u5_28, u5_29, u5_30, u5_31, u5_32, u5_33, u5_34, u5_35, u5_36, u5_37, u5_38, u5_39, A5_5, A5_3, hk5, rfl, hul, hbl5, hcl5_5, hbl3, hcl5_3, hol0, hol1, hol2⟩
  have HUl5 := hh hul
  have Bxr1y1_l5 := hh hbl5
  have Bxr0y1_l5 := hh hbl3
  have Bxr0y0_l5 := hh hol0
  have Bxr0y2_l5 := hh hol1
  have Bxr2y1_l5 := hh hol2
  clear hul hbl5 hbl3 hol0 hol1 hol2
  by_cases hlt : k < 256
  · have Hlt5 := hh hlt
    refine wp_seq_k fun K6 hK6 => ?_
    refine wp_seq_k fun K7 hK7 => ?_
    have hq4_1 : decide ((((k : Int) : Int) < 256 : Prop)) = true := decide_eq_true (by omega)
    refine wp_region_qSD 2 #[true, true] [] ([.val (.int .i64 (k : Int)), .val (.bool true)] : List SQ) (by kernel_rfl) (by kernel_rfl) (by kernel_rfl) (by kernel_rfl) ?_ ?_
    · intro i o listed an wn ho hls hst hun hdep hI hD hpre K' hK'
      rcases slot_cases (l := [0, 1]) rfl ho hst with rfl | rfl | ⟨⟨⟩⟩
      · obtain rfl := Option.some.inj ho
        have hvp : an.eval (.tmp 7) = .int .i64 (k : Int) := hI.oq (by kernel_rfl) rfl
        exact hI.pq hD hls rfl rfl rfl _ (run_moveQ (.inl rfl) hvp wn) (.val (.int .i64 (k : Int))) rfl rfl rfl hK'
      · obtain rfl := Option.some.inj ho
        obtain ⟨vp, hvp, rfl⟩ := hI.hq 0 _ 12 _ rfl rfl rfl (dp hdep 0 rfl rfl)
        exact hI.pq hD hls rfl rfl rfl _ (run_lss rfl (eval_of hvp) rfl hq4_1 wn) (.val (.bool true)) rfl rfl rfl hK'
    intro an w5 hI
    obtain ⟨vr4_0, hvr4_0, rfl⟩ := hI.hq 0 _ 12 _ rfl rfl rfl rfl
    obtain ⟨vr4_1, hvr4_1, rfl⟩ := hI.hq 1 _ 13 _ rfl rfl rfl rfl
    have hupd := hI.upd
    have ha := hI.act [(12, .int .i64 (k : Int)), (13, .bool true)] (by simp [hvr4_0, hvr4_1]) (by kernel_rfl)
    clear hI hvr4_0 hvr4_1
    subst ha
    simp only [List.foldl_cons, List.foldl_nil, List.setIfInBounds_toArray, List.set_cons_zero, List.set_cons_succ]
    have Bxr0y0_4 := hupd.keep Bxr0y0_l5
    have Bxr0y1_4 := hupd.keep Bxr0y1_l5
    have Bxr0y2_4 := hupd.keep Bxr0y2_l5
    have Bxr1y1_4 := hupd.keep Bxr1y1_l5
    have Bxr2y1_4 := hupd.keep Bxr2y1_l5
    have HU4 := hh (HUl5.out.trans hupd)
    clear hupd
    refine wpOps_nil ?_
    refine hK7 _ _ ?_
    clear hK7
    refine wp_cond_true rfl ?_
    refine wp_skip ?_
    refine hK6 _ _ ?_
    clear hK6
    refine wp_seq_k fun K8 hK8 => ?_
    refine wp_block ?_
    refine wp_seq_k fun K9 hK9 => ?_
    refine wp_region_qSD 6 #[true, true, true, true, true, true] [] ([.val (.int .i64 (k : Int)), .val (.int .i64 ((k / 8 : Nat) : Int)), .val (.pointer (some ⟨br0_0, 0 + (k / 8), none⟩)), .val (.int .u8 (l.getD (k / 8) 0)), .val (.int .i64 (l.getD (k / 8) 0)), .val (.int .i64 (l.getD (k / 8) 0))] : List SQ) (by kernel_rfl) (by kernel_rfl) (by kernel_rfl) (by kernel_rfl) ?_ ?_
    · intro i o listed an wn ho hls hst hun hdep hI hD hpre K' hK'
      rcases slot_cases (l := [0, 1, 2, 3, 4, 5]) rfl ho hst with rfl | rfl | rfl | rfl | rfl | rfl | ⟨⟨⟩⟩
      · obtain rfl := Option.some.inj ho
        have hvp : an.eval (.tmp 7) = .int .i64 (k : Int) := hI.oq (by kernel_rfl) rfl
        exact hI.pq hD hls rfl rfl rfl _ (run_moveQ (.inl rfl) hvp wn) (.val (.int .i64 (k : Int))) rfl rfl rfl hK'
      · obtain rfl := Option.some.inj ho
        obtain ⟨vp, hvp, rfl⟩ := hI.hq 0 _ 16 _ rfl rfl rfl (dp hdep 0 rfl rfl)
        exact hI.pq hD hls rfl rfl rfl _ (run_quo rfl (eval_of hvp) rfl (by decide) (quo8 _ (by omega)) wn) (.val (.int .i64 ((k / 8 : Nat) : Int))) rfl rfl rfl hK'
      · obtain rfl := Option.some.inj ho
        have hvp : an.eval (.tmp 2) = ptrTo br0_0 := hI.oq (by kernel_rfl) rfl
        obtain ⟨vq, hvq, rfl⟩ := hI.hq 1 _ 17 _ rfl rfl rfl (dp hdep 0 rfl rfl)
        exact hI.pq hD hls rfl rfl rfl _ (run_adr (off := 0) (i := (k / 8)) rfl Tryd.underlying23 size5 hvp (eval_of hvq) (by omega) wn) (.val (.pointer (some ⟨br0_0, 0 + (k / 8), none⟩))) rfl rfl rfl hK'
      · obtain rfl := Option.some.inj ho
        obtain ⟨vp, hvp, rfl⟩ := hI.hq 2 _ 18 _ rfl rfl rfl (dp hdep 0 rfl rfl)
        exact hI.pq hD hls rfl rfl rfl _ (run_cellQ rfl Tryd.underlying5 (eval_of hvp) wn (hI.upd.keep Bxr0y0_4).out (by rw [Nat.zero_add]; exact numsA_get _ _ _ (by rw [hl]; omega))) (.val (.int .u8 (l.getD (k / 8) 0))) rfl rfl rfl hK'
      · obtain rfl := Option.some.inj ho
        obtain ⟨vp, hvp, rfl⟩ := hI.hq 3 _ 19 _ rfl rfl rfl (dp hdep 0 rfl rfl)
        exact hI.pq hD hls rfl rfl rfl _ (run_conv rfl ⟨_, Tryd.underlying5⟩ Tryd.underlying3 (eval_of hvp) (IntWalk.i64_in _ (i64_of8 (Digs.get (B := 256) (by decide) hd _))) wn) (.val (.int .i64 (l.getD (k / 8) 0))) rfl rfl rfl hK'
      · obtain rfl := Option.some.inj ho
        obtain ⟨vp, hvp, rfl⟩ := hI.hq 4 _ 20 _ rfl rfl rfl (dp hdep 0 rfl rfl)
        exact hI.pq hD hls rfl rfl rfl _ (run_moveQ (.inr rfl) (eval_of hvp) wn) (.val (.int .i64 (l.getD (k / 8) 0))) rfl rfl rfl hK'
    intro an w6 hI
    obtain ⟨vr5_0, hvr5_0, rfl⟩ := hI.hq 0 _ 16 _ rfl rfl rfl rfl
    obtain ⟨vr5_1, hvr5_1, rfl⟩ := hI.hq 1 _ 17 _ rfl rfl rfl rfl
    obtain ⟨vr5_2, hvr5_2, rfl⟩ := hI.hq 2 _ 18 _ rfl rfl rfl rfl
    obtain ⟨vr5_3, hvr5_3, rfl⟩ := hI.hq 3 _ 19 _ rfl rfl rfl rfl
    obtain ⟨vr5_4, hvr5_4, rfl⟩ := hI.hq 4 _ 20 _ rfl rfl rfl rfl
    obtain ⟨vr5_5, hvr5_5, rfl⟩ := hI.hq 5 _ 8 _ rfl rfl rfl rfl
    have hupd := hI.upd
    have ha := hI.act [(16, .int .i64 (k : Int)), (17, .int .i64 ((k / 8 : Nat) : Int)), (18, .pointer (some ⟨br0_0, 0 + (k / 8), none⟩)), (19, .int .u8 (l.getD (k / 8) 0)), (20, .int .i64 (l.getD (k / 8) 0)), (8, .int .i64 (l.getD (k / 8) 0))] (by simp [hvr5_0, hvr5_1, hvr5_2, hvr5_3, hvr5_4, hvr5_5]) (by kernel_rfl)
    clear hI hvr5_0 hvr5_1 hvr5_2 hvr5_3 hvr5_4 hvr5_5
    subst ha
    simp only [List.foldl_cons, List.foldl_nil, List.setIfInBounds_toArray, List.set_cons_zero, List.set_cons_succ]
    have Bxr0y0_5 := hupd.keep Bxr0y0_4
    have Bxr0y1_5 := hupd.keep Bxr0y1_4
    have Bxr0y2_5 := hupd.keep Bxr0y2_4
    have Bxr1y1_5 := hupd.keep Bxr1y1_4
    have Bxr2y1_5 := hupd.keep Bxr2y1_4
    have HU5 := hh (HU4.out.trans hupd)
    clear hupd
    refine wpOps_nil ?_
    refine hK9 _ _ ?_
    clear hK9
    refine wp_seq_k fun K10 hK10 => ?_
    refine wp_seq_k fun K11 hK11 => ?_
    refine wp_region_qSD 1 #[true] [] ([.val (.int .i64 0)] : List SQ) (by kernel_rfl) (by kernel_rfl) (by kernel_rfl) (by kernel_rfl) ?_ ?_
    · intro i o listed an wn ho hls hst hun hdep hI hD hpre K' hK'
      rcases slot_cases (l := [0]) rfl ho hst with rfl | ⟨⟨⟩⟩
      · obtain rfl := Option.some.inj ho
        exact hI.pq hD hls rfl rfl rfl _ (run_moveQ (.inr rfl) (show an.eval (.const (.int .i64 0)) = .int .i64 0 from rfl) wn) (.val (.int .i64 0)) rfl rfl rfl hK'
    intro an w7 hI
    obtain ⟨vr6_0, hvr6_0, rfl⟩ := hI.hq 0 _ 9 _ rfl rfl rfl rfl
    have hupd := hI.upd
    have ha := hI.act [(9, .int .i64 0)] (by simp [hvr6_0]) (by kernel_rfl)
    clear hI hvr6_0
    subst ha
    simp only [List.foldl_cons, List.foldl_nil, List.setIfInBounds_toArray, List.set_cons_zero, List.set_cons_succ]
    have Bxr0y0_6 := hupd.keep Bxr0y0_5
    have Bxr0y1_6 := hupd.keep Bxr0y1_5
    have Bxr0y2_6 := hupd.keep Bxr0y2_5
    have Bxr1y1_6 := hupd.keep Bxr1y1_5
    have Bxr2y1_6 := hupd.keep Bxr2y1_5
    have HU6 := hh (HU5.out.trans hupd)
    clear hupd
    refine wpOps_nil ?_
    refine hK11 _ _ ?_
    clear hK11
    refine wp_block ?_
    refine wp_loop (fun a' w' => ∃ (i : Nat) (u12_21 u12_22 u12_23 u12_24 u12_25 u12_26 u12_27 u12_28 : Value), i ≤ (k % 8) ∧ a' = ⟨#[.agg (numsA .u8 l), .agg a, ptrTo br0_0, ptrTo br0_1, ptrTo br0_2, ptrTo br1_1, ptrTo br2_1, .int .i64 (k : Int), .int .i64 (halfI (l.getD (k / 8) 0) i), .int .i64 (i : Int), .agg ar1_0, .agg ar2_0, .int .i64 (k : Int), .bool true, u5_14, u5_15, .int .i64 (k : Int), .int .i64 ((k / 8 : Nat) : Int), .pointer (some ⟨br0_0, 0 + (k / 8), none⟩), .int .u8 (l.getD (k / 8) 0), .int .i64 (l.getD (k / 8) 0), u12_21, u12_22, u12_23, u12_24, u12_25, u12_26, u12_27, u12_28, u5_29, u5_30, u5_31, u5_32, u5_33, u5_34, u5_35, u5_36, u5_37, u5_38, u5_39, undef], []⟩ ∧ Upd (fun _ => False) w w' ∧ Blk w' br0_0 23 (numsA .u8 l) ∧ Blk w' br0_1 47 A5_3 ∧ Blk w' br0_2 47 zr0_2 ∧ Blk w' br1_1 47 A5_5 ∧ Blk w' br2_1 45 ar2_0) (fun a' _ => ((k % 8)) - (intOf (a'.tmps.getD 9 undef)).toNat) ?_ ?_
    · exact ⟨0, u5_21, u5_22, u5_23, u5_24, u5_25, u5_26, u5_27, u5_28, Nat.zero_le _, rfl, HU6.out, Bxr0y0_6.out, Bxr0y1_6.out, Bxr0y2_6.out, Bxr1y1_6.out, Bxr2y1_6.out⟩
    rintro a' wl12 ⟨i, u12_21, u12_22, u12_23, u12_24, u12_25, u12_26, u12_27, u12_28, hk12, rfl, hul, hol0, hol1, hol2, hol3, hol4⟩
    have HUl12 := hh hul
    have Bxr0y0_l12 := hh hol0
    have Bxr0y1_l12 := hh hol1
    have Bxr0y2_l12 := hh hol2
    have Bxr1y1_l12 := hh hol3
    have Bxr2y1_l12 := hh hol4
    clear hul hol0 hol1 hol2 hol3 hol4
    by_cases hlt : i < (k % 8)
    · have Hlt12 := hh hlt
      refine wp_seq_k fun K13 hK13 => ?_
      refine wp_seq_k fun K14 hK14 => ?_
      have hq7_3 : decide ((((i : Int) : Int) < ((k % 8 : Nat) : Int) : Prop)) = true := decide_eq_true (by omega)
      refine wp_region_qSD 4 #[true, true, true, true] [] ([.val (.int .i64 (i : Int)), .val (.int .i64 (k : Int)), .val (.int .i64 ((k % 8 : Nat) : Int)), .val (.bool true)] : List SQ) (by kernel_rfl) (by kernel_rfl) (by kernel_rfl) (by kernel_rfl) ?_ ?_
      · intro i o listed an wn ho hls hst hun hdep hI hD hpre K' hK'
        rcases slot_cases (l := [0, 1, 2, 3]) rfl ho hst with rfl | rfl | rfl | rfl | ⟨⟨⟩⟩
        · obtain rfl := Option.some.inj ho
          have hvp : an.eval (.tmp 9) = .int .i64 (i : Int) := hI.oq (by kernel_rfl) rfl
          exact hI.pq hD hls rfl rfl rfl _ (run_moveQ (.inl rfl) hvp wn) (.val (.int .i64 (i : Int))) rfl rfl rfl hK'
        · obtain rfl := Option.some.inj ho
          have hvp : an.eval (.tmp 7) = .int .i64 (k : Int) := hI.oq (by kernel_rfl) rfl
          exact hI.pq hD hls rfl rfl rfl _ (run_moveQ (.inl rfl) hvp wn) (.val (.int .i64 (k : Int))) rfl rfl rfl hK'
        · obtain rfl := Option.some.inj ho
          obtain ⟨vp, hvp, rfl⟩ := hI.hq 1 _ 22 _ rfl rfl rfl (dp hdep 0 rfl rfl)
          exact hI.pq hD hls rfl rfl rfl _ (run_rem rfl (eval_of hvp) rfl (by decide) (rem8 _) wn) (.val (.int .i64 ((k % 8 : Nat) : Int))) rfl rfl rfl hK'
        · obtain rfl := Option.some.inj ho
          obtain ⟨vp, hvp, rfl⟩ := hI.hq 0 _ 21 _ rfl rfl rfl (dp hdep 0 rfl rfl)
          obtain ⟨vq, hvq, rfl⟩ := hI.hq 2 _ 23 _ rfl rfl rfl (dp hdep 1 rfl rfl)
          exact hI.pq hD hls rfl rfl rfl _ (run_lss rfl (eval_of hvp) (eval_of hvq) hq7_3 wn) (.val (.bool true)) rfl rfl rfl hK'
      intro an w8 hI
      obtain ⟨vr7_0, hvr7_0, rfl⟩ := hI.hq 0 _ 21 _ rfl rfl rfl rfl
      obtain ⟨vr7_1, hvr7_1, rfl⟩ := hI.hq 1 _ 22 _ rfl rfl rfl rfl
      obtain ⟨vr7_2, hvr7_2, rfl⟩ := hI.hq 2 _ 23 _ rfl rfl rfl rfl
      obtain ⟨vr7_3, hvr7_3, rfl⟩ := hI.hq 3 _ 24 _ rfl rfl rfl rfl
      have hupd := hI.upd
      have ha := hI.act [(21, .int .i64 (i : Int)), (22, .int .i64 (k : Int)), (23, .int .i64 ((k % 8 : Nat) : Int)), (24, .bool true)] (by simp [hvr7_0, hvr7_1, hvr7_2, hvr7_3]) (by kernel_rfl)
      clear hI hvr7_0 hvr7_1 hvr7_2 hvr7_3
      subst ha
      simp only [List.foldl_cons, List.foldl_nil, List.setIfInBounds_toArray, List.set_cons_zero, List.set_cons_succ]
      have Bxr0y0_7 := hupd.keep Bxr0y0_l12
      have Bxr0y1_7 := hupd.keep Bxr0y1_l12
      have Bxr0y2_7 := hupd.keep Bxr0y2_l12
      have Bxr1y1_7 := hupd.keep Bxr1y1_l12
      have Bxr2y1_7 := hupd.keep Bxr2y1_l12
      have HU7 := hh (HUl12.out.trans hupd)
      clear hupd
      refine wpOps_nil ?_
      refine hK14 _ _ ?_
      clear hK14
      refine wp_cond_true rfl ?_
      refine wp_skip ?_
      refine hK13 _ _ ?_
      clear hK13
      refine wp_seq_k fun K15 hK15 => ?_
      refine wp_block ?_
      refine wp_region_qSD 3 #[true, true, true] [] ([.val (.int .i64 (halfI (l.getD (k / 8) 0) i)), .val (.int .i64 ((halfI (l.getD (k / 8) 0) i) / 2)), .val (.int .i64 ((halfI (l.getD (k / 8) 0) i) / 2))] : List SQ) (by kernel_rfl) (by kernel_rfl) (by kernel_rfl) (by kernel_rfl) ?_ ?_
      · intro i o listed an wn ho hls hst hun hdep hI hD hpre K' hK'
        rcases slot_cases (l := [0, 1, 2]) rfl ho hst with rfl | rfl | rfl | ⟨⟨⟩⟩
        · obtain rfl := Option.some.inj ho
          have hvp : an.eval (.tmp 8) = .int .i64 (halfI (l.getD (k / 8) 0) i) := hI.oldS hpre (by kernel_rfl) rfl
          exact hI.pq hD hls rfl rfl rfl _ (run_moveQ (.inl rfl) hvp wn) (.val (.int .i64 (halfI (l.getD (k / 8) 0) i))) rfl rfl rfl hK'
        · obtain rfl := Option.some.inj ho
          obtain ⟨vp, hvp, rfl⟩ := hI.hq 0 _ 27 _ rfl rfl rfl (dp hdep 0 rfl rfl)
          exact hI.pq hD hls rfl rfl rfl _ (run_quo rfl (eval_of hvp) rfl (by decide) (half_quo (half_bnd (Digs.get (B := 256) (by decide) hd _) _)) wn) (.val (.int .i64 ((halfI (l.getD (k / 8) 0) i) / 2))) rfl rfl rfl hK'
        · obtain rfl := Option.some.inj ho
          obtain ⟨vp, hvp, rfl⟩ := hI.hq 1 _ 28 _ rfl rfl rfl (dp hdep 0 rfl rfl)
          exact hI.pq hD hls rfl rfl rfl _ (run_moveQ (.inr rfl) (eval_of hvp) wn) (.val (.int .i64 ((halfI (l.getD (k / 8) 0) i) / 2))) rfl rfl rfl hK'
      intro an w9 hI
      obtain ⟨vr8_0, hvr8_0, rfl⟩ := hI.hq 0 _ 27 _ rfl rfl rfl rfl
      obtain ⟨vr8_1, hvr8_1, rfl⟩ := hI.hq 1 _ 28 _ rfl rfl rfl rfl
      obtain ⟨vr8_2, hvr8_2, rfl⟩ := hI.hq 2 _ 8 _ rfl rfl rfl rfl
      have hupd := hI.upd
      have ha := hI.act [(27, .int .i64 (halfI (l.getD (k / 8) 0) i)), (28, .int .i64 ((halfI (l.getD (k / 8) 0) i) / 2)), (8, .int .i64 ((halfI (l.getD (k / 8) 0) i) / 2))] (by simp [hvr8_0, hvr8_1, hvr8_2]) (by kernel_rfl)
      clear hI hvr8_0 hvr8_1 hvr8_2
      subst ha
      simp only [List.foldl_cons, List.foldl_nil, List.setIfInBounds_toArray, List.set_cons_zero, List.set_cons_succ]
      have Bxr0y0_8 := hupd.keep Bxr0y0_7
      have Bxr0y1_8 := hupd.keep Bxr0y1_7
      have Bxr0y2_8 := hupd.keep Bxr0y2_7
      have Bxr1y1_8 := hupd.keep Bxr1y1_7
      have Bxr2y1_8 := hupd.keep Bxr2y1_7
      have HU8 := hh (HU7.out.trans hupd)
      clear hupd
      refine wpOps_nil ?_
      refine hK15 _ _ ?_
      clear hK15
      have hq9_1 : IntKind.wrap .i64 ((i : Int) + 1) = (i : Int) + 1 := IntWalk.i64_in _ (by omega)
      refine wp_region_qSD 3 #[true, true, true] [] ([.val (.int .i64 (i : Int)), .val (.int .i64 ((i : Int) + 1)), .val (.int .i64 ((i : Int) + 1))] : List SQ) (by kernel_rfl) (by kernel_rfl) (by kernel_rfl) (by kernel_rfl) ?_ ?_
      · intro i o listed an wn ho hls hst hun hdep hI hD hpre K' hK'
        rcases slot_cases (l := [0, 1, 2]) rfl ho hst with rfl | rfl | rfl | ⟨⟨⟩⟩
        · obtain rfl := Option.some.inj ho
          have hvp : an.eval (.tmp 9) = .int .i64 (i : Int) := hI.oldS hpre (by kernel_rfl) rfl
          exact hI.pq hD hls rfl rfl rfl _ (run_moveQ (.inl rfl) hvp wn) (.val (.int .i64 (i : Int))) rfl rfl rfl hK'
        · obtain rfl := Option.some.inj ho
          obtain ⟨vp, hvp, rfl⟩ := hI.hq 0 _ 25 _ rfl rfl rfl (dp hdep 0 rfl rfl)
          exact hI.pq hD hls rfl rfl rfl _ (run_add rfl (eval_of hvp) rfl hq9_1 wn) (.val (.int .i64 ((i : Int) + 1))) rfl rfl rfl hK'
        · obtain rfl := Option.some.inj ho
          obtain ⟨vp, hvp, rfl⟩ := hI.hq 1 _ 26 _ rfl rfl rfl (dp hdep 0 rfl rfl)
          exact hI.pq hD hls rfl rfl rfl _ (run_moveQ (.inr rfl) (eval_of hvp) wn) (.val (.int .i64 ((i : Int) + 1))) rfl rfl rfl hK'
      intro an w10 hI
      obtain ⟨vr9_0, hvr9_0, rfl⟩ := hI.hq 0 _ 25 _ rfl rfl rfl rfl
      obtain ⟨vr9_1, hvr9_1, rfl⟩ := hI.hq 1 _ 26 _ rfl rfl rfl rfl
      obtain ⟨vr9_2, hvr9_2, rfl⟩ := hI.hq 2 _ 9 _ rfl rfl rfl rfl
      have hupd := hI.upd
      have ha := hI.act [(25, .int .i64 (i : Int)), (26, .int .i64 ((i : Int) + 1)), (9, .int .i64 ((i : Int) + 1))] (by simp [hvr9_0, hvr9_1, hvr9_2]) (by kernel_rfl)
      clear hI hvr9_0 hvr9_1 hvr9_2
      subst ha
      simp only [List.foldl_cons, List.foldl_nil, List.setIfInBounds_toArray, List.set_cons_zero, List.set_cons_succ]
      have Bxr0y0_9 := hupd.keep Bxr0y0_8
      have Bxr0y1_9 := hupd.keep Bxr0y1_8
      have Bxr0y2_9 := hupd.keep Bxr0y2_8
      have Bxr1y1_9 := hupd.keep Bxr1y1_8
      have Bxr2y1_9 := hupd.keep Bxr2y1_8
      have HU9 := hh (HU8.out.trans hupd)
      clear hupd
      refine wpOps_nil ?_
      exact ⟨⟨(i + 1), _, _, _, _, _, _, _, _, Nat.succ_le_of_lt Hlt12.out, rfl, HU9.out, Bxr0y0_9.out, Bxr0y1_9.out, Bxr0y2_9.out, Bxr1y1_9.out, Bxr2y1_9.out⟩, by show ((k % 8)) - ((i : Int) + 1).toNat < ((k % 8)) - (i : Int).toNat; have := Hlt12.out; omega⟩
    obtain rfl : i = (k % 8) := by omega
    clear hlt
    refine wp_seq_k fun K16 hK16 => ?_
    refine wp_seq_k fun K17 hK17 => ?_
    have hq10_3 : decide ((((((k % 8) : Nat) : Int) : Int) < ((k % 8 : Nat) : Int) : Prop)) = false := decide_eq_false (by omega)
    refine wp_region_qSD 4 #[true, true, true, true] [] ([.val (.int .i64 (((k % 8) : Nat) : Int)), .val (.int .i64 (k : Int)), .val (.int .i64 ((k % 8 : Nat) : Int)), .val (.bool false)] : List SQ) (by kernel_rfl) (by kernel_rfl) (by kernel_rfl) (by kernel_rfl) ?_ ?_
    · intro i o listed an wn ho hls hst hun hdep hI hD hpre K' hK'
      rcases slot_cases (l := [0, 1, 2, 3]) rfl ho hst with rfl | rfl | rfl | rfl | ⟨⟨⟩⟩
      · obtain rfl := Option.some.inj ho
        have hvp : an.eval (.tmp 9) = .int .i64 (((k % 8) : Nat) : Int) := hI.oq (by kernel_rfl) rfl
        exact hI.pq hD hls rfl rfl rfl _ (run_moveQ (.inl rfl) hvp wn) (.val (.int .i64 (((k % 8) : Nat) : Int))) rfl rfl rfl hK'
      · obtain rfl := Option.some.inj ho
        have hvp : an.eval (.tmp 7) = .int .i64 (k : Int) := hI.oq (by kernel_rfl) rfl
        exact hI.pq hD hls rfl rfl rfl _ (run_moveQ (.inl rfl) hvp wn) (.val (.int .i64 (k : Int))) rfl rfl rfl hK'
      · obtain rfl := Option.some.inj ho
        obtain ⟨vp, hvp, rfl⟩ := hI.hq 1 _ 22 _ rfl rfl rfl (dp hdep 0 rfl rfl)
        exact hI.pq hD hls rfl rfl rfl _ (run_rem rfl (eval_of hvp) rfl (by decide) (rem8 _) wn) (.val (.int .i64 ((k % 8 : Nat) : Int))) rfl rfl rfl hK'
      · obtain rfl := Option.some.inj ho
        obtain ⟨vp, hvp, rfl⟩ := hI.hq 0 _ 21 _ rfl rfl rfl (dp hdep 0 rfl rfl)
        obtain ⟨vq, hvq, rfl⟩ := hI.hq 2 _ 23 _ rfl rfl rfl (dp hdep 1 rfl rfl)
        exact hI.pq hD hls rfl rfl rfl _ (run_lss rfl (eval_of hvp) (eval_of hvq) hq10_3 wn) (.val (.bool false)) rfl rfl rfl hK'
    intro an w11 hI
    obtain ⟨vr10_0, hvr10_0, rfl⟩ := hI.hq 0 _ 21 _ rfl rfl rfl rfl
    obtain ⟨vr10_1, hvr10_1, rfl⟩ := hI.hq 1 _ 22 _ rfl rfl rfl rfl
    obtain ⟨vr10_2, hvr10_2, rfl⟩ := hI.hq 2 _ 23 _ rfl rfl rfl rfl
    obtain ⟨vr10_3, hvr10_3, rfl⟩ := hI.hq 3 _ 24 _ rfl rfl rfl rfl
    have hupd := hI.upd
    have ha := hI.act [(21, .int .i64 (((k % 8) : Nat) : Int)), (22, .int .i64 (k : Int)), (23, .int .i64 ((k % 8 : Nat) : Int)), (24, .bool false)] (by simp [hvr10_0, hvr10_1, hvr10_2, hvr10_3]) (by kernel_rfl)
    clear hI hvr10_0 hvr10_1 hvr10_2 hvr10_3
    subst ha
    simp only [List.foldl_cons, List.foldl_nil, List.setIfInBounds_toArray, List.set_cons_zero, List.set_cons_succ]
    have Bxr0y0_10 := hupd.keep Bxr0y0_l12
    have Bxr0y1_10 := hupd.keep Bxr0y1_l12
    have Bxr0y2_10 := hupd.keep Bxr0y2_l12
    have Bxr1y1_10 := hupd.keep Bxr1y1_l12
    have Bxr2y1_10 := hupd.keep Bxr2y1_l12
    have HU10 := hh (HUl12.out.trans hupd)
    clear hupd
    refine wpOps_nil ?_
    refine hK17 _ _ ?_
    clear hK17
    refine wp_cond_false rfl ?_
    refine wp_exit_then ?_
    refine hK10 _ _ ?_
    clear hK10
    refine wp_seq_k fun K18 hK18 => ?_
    refine wp_seq_k fun K19 hK19 => ?_
    refine wp_region_qSD 3 #[true, true, true] [] ([.val (.int .i64 (halfI (l.getD (k / 8) 0) (k % 8))), .val (.int .i64 ((halfI (l.getD (k / 8) 0) (k % 8)) % 2)), .val (.bool (kb l k))] : List SQ) (by kernel_rfl) (by kernel_rfl) (by kernel_rfl) (by kernel_rfl) ?_ ?_
    · intro i o listed an wn ho hls hst hun hdep hI hD hpre K' hK'
      rcases slot_cases (l := [0, 1, 2]) rfl ho hst with rfl | rfl | rfl | ⟨⟨⟩⟩
      · obtain rfl := Option.some.inj ho
        have hvp : an.eval (.tmp 8) = .int .i64 (halfI (l.getD (k / 8) 0) (k % 8)) := hI.oq (by kernel_rfl) rfl
        exact hI.pq hD hls rfl rfl rfl _ (run_moveQ (.inl rfl) hvp wn) (.val (.int .i64 (halfI (l.getD (k / 8) 0) (k % 8)))) rfl rfl rfl hK'
      · obtain rfl := Option.some.inj ho
        obtain ⟨vp, hvp, rfl⟩ := hI.hq 0 _ 29 _ rfl rfl rfl (dp hdep 0 rfl rfl)
        exact hI.pq hD hls rfl rfl rfl _ (run_rem rfl (eval_of hvp) rfl (by decide) (Int.tmod_eq_emod_of_nonneg (half_bnd (Digs.get (B := 256) (by decide) hd _) _).1) wn) (.val (.int .i64 ((halfI (l.getD (k / 8) 0) (k % 8)) % 2))) rfl rfl rfl hK'
      · obtain rfl := Option.some.inj ho
        obtain ⟨vp, hvp, rfl⟩ := hI.hq 1 _ 30 _ rfl rfl rfl (dp hdep 0 rfl rfl)
        exact hI.pq hD hls rfl rfl rfl _ (run_eql rfl (eval_of hvp) rfl (half_kb l k) wn) (.val (.bool (kb l k))) rfl rfl rfl hK'
    intro an w12 hI
    obtain ⟨vr11_0, hvr11_0, rfl⟩ := hI.hq 0 _ 29 _ rfl rfl rfl rfl
    obtain ⟨vr11_1, hvr11_1, rfl⟩ := hI.hq 1 _ 30 _ rfl rfl rfl rfl
    obtain ⟨vr11_2, hvr11_2, rfl⟩ := hI.hq 2 _ 31 _ rfl rfl rfl rfl
    have hupd := hI.upd
    have ha := hI.act [(29, .int .i64 (halfI (l.getD (k / 8) 0) (k % 8))), (30, .int .i64 ((halfI (l.getD (k / 8) 0) (k % 8)) % 2)), (31, .bool (kb l k))] (by simp [hvr11_0, hvr11_1, hvr11_2]) (by kernel_rfl)
    clear hI hvr11_0 hvr11_1 hvr11_2
    subst ha
    simp only [List.foldl_cons, List.foldl_nil, List.setIfInBounds_toArray, List.set_cons_zero, List.set_cons_succ]
    have Bxr0y0_11 := hupd.keep Bxr0y0_10
    have Bxr0y1_11 := hupd.keep Bxr0y1_10
    have Bxr0y2_11 := hupd.keep Bxr0y2_10
    have Bxr1y1_11 := hupd.keep Bxr1y1_10
    have Bxr2y1_11 := hupd.keep Bxr2y1_10
    have HU11 := hh (HU10.out.trans hupd)
    clear hupd
    refine wpOps_nil ?_
    refine hK19 _ _ ?_
    clear hK19
    refine wp_cond_split (t := (kb l k)) rfl (fun hcd => ?_) (fun hcd => ?_)
    · have Hcd20 := hh hcd
      clear hcd
      refine wp_region_qSD 4 #[true, true, true, true, false] [4] ([.val (.agg A5_5), .val (.agg A5_3), .val (.agg ar2_0), .like (IsC 48 RQ [some ((eP.times (expo l % 2 ^ k)).plus (eP.times (2 ^ k)))]), .val undef] : List SQ) (by kernel_rfl) (by kernel_rfl) (by kernel_rfl) (by kernel_rfl) ?_ ?_
      · intro i o listed an wn ho hls hst hun hdep hI hD hpre K' hK'
        rcases slot_cases (l := [0, 1, 2, 3]) rfl ho hst with rfl | rfl | rfl | rfl | ⟨⟨⟩⟩
        · obtain rfl := Option.some.inj ho
          have hvp : an.eval (.tmp 5) = ptrTo br1_1 := hI.oq (by kernel_rfl) rfl
          exact hI.pq hD hls rfl rfl rfl _ (run_loadQ rfl hvp wn (hI.upd.keep Bxr1y1_11).out Tryd.underlying47 rfl szR6 (by rw [hcl5_5.size]; exact Nat.le_of_ble_eq_true rfl)) (.val (.agg A5_5)) rfl (congrArg Value.agg (extract_all _ 48 hcl5_5.size)) rfl hK'
        · obtain rfl := Option.some.inj ho
          have hvp : an.eval (.tmp 3) = ptrTo br0_1 := hI.oq (by kernel_rfl) rfl
          exact hI.pq hD hls rfl rfl rfl _ (run_loadQ rfl hvp wn (hI.upd.keep Bxr0y1_11).out Tryd.underlying47 rfl szR6 (by rw [hcl5_3.size]; exact Nat.le_of_ble_eq_true rfl)) (.val (.agg A5_3)) rfl (congrArg Value.agg (extract_all _ 48 hcl5_3.size)) rfl hK'
        · obtain rfl := Option.some.inj ho
          have hvp : an.eval (.tmp 6) = ptrTo br2_1 := hI.oq (by kernel_rfl) rfl
          exact hI.pq hD hls rfl rfl rfl _ (run_loadQ rfl hvp wn (hI.upd.keep Bxr2y1_11).out Tryd.underlying45 rfl szN (by rw [hCr2_0.size]; exact Nat.le_of_ble_eq_true rfl)) (.val (.agg ar2_0)) rfl (congrArg Value.agg (extract_all _ 16 hCr2_0.size)) rfl hK'
        · obtain rfl := Option.some.inj ho
          obtain ⟨vp, hvp, rfl⟩ := hI.hq 0 _ 32 _ rfl rfl rfl (dp hdep 0 rfl rfl)
          obtain ⟨vq, hvq, rfl⟩ := hI.hq 1 _ 33 _ rfl rfl rfl (dp hdep 1 rfl rfl)
          obtain ⟨vr, hvr, rfl⟩ := hI.hq 2 _ 34 _ rfl rfl rfl (dp hdep 2 rfl rfl)
          exact hI.cq hD hls rfl rfl rfl 29 #[.tmp 32, .tmp 33, .tmp 34] _ rfl #[.agg A5_5, .agg A5_3, .agg ar2_0] (by simp [eval_of hvp, eval_of hvq, eval_of hvr]) (run_enter Tryd.func29 (by kernel_rfl) (by kernel_rfl)) (.like (IsC 48 RQ [some ((eP.times (expo l % 2 ^ k)).plus (eP.times (2 ^ k)))])) rfl rfl ((raddR _ hcl5_5 hcl5_3 hCr2_0).mono fun _ _ h => h.sq) hK'
      intro an w13 hI
      obtain ⟨vr12_0, hvr12_0, rfl⟩ := hI.hq 0 _ 32 _ rfl rfl rfl rfl
      obtain ⟨vr12_1, hvr12_1, rfl⟩ := hI.hq 1 _ 33 _ rfl rfl rfl rfl
      obtain ⟨vr12_2, hvr12_2, rfl⟩ := hI.hq 2 _ 34 _ rfl rfl rfl rfl
      obtain ⟨vr12_3, hvr12_3, ar12_3, rfl, hCr12_3⟩ := hI.hq 3 _ 35 _ rfl rfl rfl rfl
      have hupd := hI.upd
      have ha := hI.act [(32, .agg A5_5), (33, .agg A5_3), (34, .agg ar2_0), (35, .agg ar12_3)] (by simp [hvr12_0, hvr12_1, hvr12_2, hvr12_3]) (by kernel_rfl)
      clear hI hvr12_0 hvr12_1 hvr12_2 hvr12_3
      subst ha
      simp only [List.foldl_cons, List.foldl_nil, List.setIfInBounds_toArray, List.set_cons_zero, List.set_cons_succ]
      have Bxr0y0_12 := hupd.keep Bxr0y0_11
      have Bxr0y1_12 := hupd.keep Bxr0y1_11
      have Bxr0y2_12 := hupd.keep Bxr0y2_11
      have Bxr1y1_12 := hupd.keep Bxr1y1_11
      have Bxr2y1_12 := hupd.keep Bxr2y1_11
      have HU12 := hh (HU11.out.trans hupd)
      clear hupd
      refine wpOps_storeQ 4 rfl rfl rfl 47 (.tmp 5) (.tmp 35) rfl br1_1 0 48 rfl ar12_3 rfl 47 A5_5 Bxr1y1_12.out szR6 hCr12_3.size (by rw [hcl5_5.size]; exact Nat.le_of_ble_eq_true rfl) hCr12_3.one' ?_
      intro ws12_0 hs12_0 hus12_0
      rw [splice_all _ _ 48 hcl5_5.size hCr12_3.size] at hs12_0
      have Bxr0y0_s12_0 := hus12_0.keepS Bxr0y0_12 (fun e => hner1_1_Bxr0y0.out e.symm)
      have Bxr0y1_s12_0 := hus12_0.keepS Bxr0y1_12 (fun e => hner1_1_Bxr0y1.out e.symm)
      have Bxr0y2_s12_0 := hus12_0.keepS Bxr0y2_12 (fun e => hner1_1_Bxr0y2.out e.symm)
      have Bxr2y1_s12_0 := hus12_0.keepS Bxr2y1_12 (fun e => hner2_1_Bxr1y1_s1_0.out e)
      have Bxr1y1_s12_0 := hh hs12_0
      have HU12_0 := hh (HU12.out.step hus12_0 (fun i hi h => absurd hi (Nat.not_lt.2 (h.symm ▸ hger1_1.out))))
      clear hs12_0 hus12_0
      refine wpOps_nil ?_
      refine hK18 _ _ ?_
      clear hK18
      refine wp_region_qSD 4 #[true, true, true, true, false] [4] ([.val (.agg A5_3), .val (.agg A5_3), .val (.agg ar2_0), .like (IsC 48 RQ [some ((eP.times (2 ^ k)).plus (eP.times (2 ^ k)))]), .val undef] : List SQ) (by kernel_rfl) (by kernel_rfl) (by kernel_rfl) (by kernel_rfl) ?_ ?_
      · intro i o listed an wn ho hls hst hun hdep hI hD hpre K' hK'
        rcases slot_cases (l := [0, 1, 2, 3]) rfl ho hst with rfl | rfl | rfl | rfl | ⟨⟨⟩⟩
        · obtain rfl := Option.some.inj ho
          have hvp : an.eval (.tmp 3) = ptrTo br0_1 := hI.oq (by kernel_rfl) rfl
          exact hI.pq hD hls rfl rfl rfl _ (run_loadQ rfl hvp wn (hI.upd.keep Bxr0y1_s12_0).out Tryd.underlying47 rfl szR6 (by rw [hcl5_3.size]; exact Nat.le_of_ble_eq_true rfl)) (.val (.agg A5_3)) rfl (congrArg Value.agg (extract_all _ 48 hcl5_3.size)) rfl hK'
        · obtain rfl := Option.some.inj ho
          have hvp : an.eval (.tmp 3) = ptrTo br0_1 := hI.oq (by kernel_rfl) rfl
          exact hI.pq hD hls rfl rfl rfl _ (run_loadQ rfl hvp wn (hI.upd.keep Bxr0y1_s12_0).out Tryd.underlying47 rfl szR6 (by rw [hcl5_3.size]; exact Nat.le_of_ble_eq_true rfl)) (.val (.agg A5_3)) rfl (congrArg Value.agg (extract_all _ 48 hcl5_3.size)) rfl hK'
        · obtain rfl := Option.some.inj ho
          have hvp : an.eval (.tmp 6) = ptrTo br2_1 := hI.oq (by kernel_rfl) rfl
          exact hI.pq hD hls rfl rfl rfl _ (run_loadQ rfl hvp wn (hI.upd.keep Bxr2y1_s12_0).out Tryd.underlying45 rfl szN (by rw [hCr2_0.size]; exact Nat.le_of_ble_eq_true rfl)) (.val (.agg ar2_0)) rfl (congrArg Value.agg (extract_all _ 16 hCr2_0.size)) rfl hK'
        · obtain rfl := Option.some.inj ho
          obtain ⟨vp, hvp, rfl⟩ := hI.hq 0 _ 36 _ rfl rfl rfl (dp hdep 0 rfl rfl)
          obtain ⟨vq, hvq, rfl⟩ := hI.hq 1 _ 37 _ rfl rfl rfl (dp hdep 1 rfl rfl)
          obtain ⟨vr, hvr, rfl⟩ := hI.hq 2 _ 38 _ rfl rfl rfl (dp hdep 2 rfl rfl)
          exact hI.cq hD hls rfl rfl rfl 29 #[.tmp 36, .tmp 37, .tmp 38] _ rfl #[.agg A5_3, .agg A5_3, .agg ar2_0] (by simp [eval_of hvp, eval_of hvq, eval_of hvr]) (run_enter Tryd.func29 (by kernel_rfl) (by kernel_rfl)) (.like (IsC 48 RQ [some ((eP.times (2 ^ k)).plus (eP.times (2 ^ k)))])) rfl rfl ((raddR _ hcl5_3 hcl5_3 hCr2_0).mono fun _ _ h => h.sq) hK'
      intro an w14 hI
      obtain ⟨vr13_0, hvr13_0, rfl⟩ := hI.hq 0 _ 36 _ rfl rfl rfl rfl
      obtain ⟨vr13_1, hvr13_1, rfl⟩ := hI.hq 1 _ 37 _ rfl rfl rfl rfl
      obtain ⟨vr13_2, hvr13_2, rfl⟩ := hI.hq 2 _ 38 _ rfl rfl rfl rfl
      obtain ⟨vr13_3, hvr13_3, ar13_3, rfl, hCr13_3⟩ := hI.hq 3 _ 39 _ rfl rfl rfl rfl
      have hupd := hI.upd
      have ha := hI.act [(36, .agg A5_3), (37, .agg A5_3), (38, .agg ar2_0), (39, .agg ar13_3)] (by simp [hvr13_0, hvr13_1, hvr13_2, hvr13_3]) (by kernel_rfl)
      clear hI hvr13_0 hvr13_1 hvr13_2 hvr13_3
      subst ha
      simp only [List.foldl_cons, List.foldl_nil, List.setIfInBounds_toArray, List.set_cons_zero, List.set_cons_succ]
      have Bxr0y0_13 := hupd.keep Bxr0y0_s12_0
      have Bxr0y1_13 := hupd.keep Bxr0y1_s12_0
      have Bxr0y2_13 := hupd.keep Bxr0y2_s12_0
      have Bxr1y1_13 := hupd.keep Bxr1y1_s12_0
      have Bxr2y1_13 := hupd.keep Bxr2y1_s12_0
      have HU13 := hh (HU12_0.out.trans hupd)
      clear hupd
      refine wpOps_storeQ 4 rfl rfl rfl 47 (.tmp 3) (.tmp 39) rfl br0_1 0 48 rfl ar13_3 rfl 47 A5_3 Bxr0y1_13.out szR6 hCr13_3.size (by rw [hcl5_3.size]; exact Nat.le_of_ble_eq_true rfl) hCr13_3.one' ?_
      intro ws13_0 hs13_0 hus13_0
      rw [splice_all _ _ 48 hcl5_3.size hCr13_3.size] at hs13_0
      have Bxr0y0_s13_0 := hus13_0.keepS Bxr0y0_13 (fun e => hner0_0_r0_1.out e)
      have Bxr0y2_s13_0 := hus13_0.keepS Bxr0y2_13 (fun e => hner0_1_r0_2.out e.symm)
      have Bxr1y1_s13_0 := hus13_0.keepS Bxr1y1_13 (fun e => hner1_1_Bxr0y1.out e)
      have Bxr2y1_s13_0 := hus13_0.keepS Bxr2y1_13 (fun e => hner2_1_Bxr0y1_s1_0.out e)
      have Bxr0y1_s13_0 := hh hs13_0
      have HU13_0 := hh (HU13.out.step hus13_0 (fun i hi h => absurd hi (Nat.not_lt.2 (h.symm ▸ hger0_1.out))))
      clear hs13_0 hus13_0
      refine wpOps_nil ?_
      refine hK8 _ _ ?_
      clear hK8
      have hq14_1 : IntKind.wrap .i64 ((k : Int) + 1) = (k : Int) + 1 := IntWalk.i64_in _ (by omega)
      refine wp_region_qSD 3 #[true, true, true] [] ([.val (.int .i64 (k : Int)), .val (.int .i64 ((k : Int) + 1)), .val (.int .i64 ((k : Int) + 1))] : List SQ) (by kernel_rfl) (by kernel_rfl) (by kernel_rfl) (by kernel_rfl) ?_ ?_
      · intro i o listed an wn ho hls hst hun hdep hI hD hpre K' hK'
        rcases slot_cases (l := [0, 1, 2]) rfl ho hst with rfl | rfl | rfl | ⟨⟨⟩⟩
        · obtain rfl := Option.some.inj ho
          have hvp : an.eval (.tmp 7) = .int .i64 (k : Int) := hI.oldS hpre (by kernel_rfl) rfl
          exact hI.pq hD hls rfl rfl rfl _ (run_moveQ (.inl rfl) hvp wn) (.val (.int .i64 (k : Int))) rfl rfl rfl hK'
        · obtain rfl := Option.some.inj ho
          obtain ⟨vp, hvp, rfl⟩ := hI.hq 0 _ 14 _ rfl rfl rfl (dp hdep 0 rfl rfl)
          exact hI.pq hD hls rfl rfl rfl _ (run_add rfl (eval_of hvp) rfl hq14_1 wn) (.val (.int .i64 ((k : Int) + 1))) rfl rfl rfl hK'
        · obtain rfl := Option.some.inj ho
          obtain ⟨vp, hvp, rfl⟩ := hI.hq 1 _ 15 _ rfl rfl rfl (dp hdep 0 rfl rfl)
          exact hI.pq hD hls rfl rfl rfl _ (run_moveQ (.inr rfl) (eval_of hvp) wn) (.val (.int .i64 ((k : Int) + 1))) rfl rfl rfl hK'
      intro an w15 hI
      obtain ⟨vr14_0, hvr14_0, rfl⟩ := hI.hq 0 _ 14 _ rfl rfl rfl rfl
      obtain ⟨vr14_1, hvr14_1, rfl⟩ := hI.hq 1 _ 15 _ rfl rfl rfl rfl
      obtain ⟨vr14_2, hvr14_2, rfl⟩ := hI.hq 2 _ 7 _ rfl rfl rfl rfl
      have hupd := hI.upd
      have ha := hI.act [(14, .int .i64 (k : Int)), (15, .int .i64 ((k : Int) + 1)), (7, .int .i64 ((k : Int) + 1))] (by simp [hvr14_0, hvr14_1, hvr14_2]) (by kernel_rfl)
      clear hI hvr14_0 hvr14_1 hvr14_2
      subst ha
      simp only [List.foldl_cons, List.foldl_nil, List.setIfInBounds_toArray, List.set_cons_zero, List.set_cons_succ]
      have Bxr0y0_14 := hupd.keep Bxr0y0_s13_0
      have Bxr0y1_14 := hupd.keep Bxr0y1_s13_0
      have Bxr0y2_14 := hupd.keep Bxr0y2_s13_0
      have Bxr1y1_14 := hupd.keep Bxr1y1_s13_0
      have Bxr2y1_14 := hupd.keep Bxr2y1_s13_0
      have HU14 := hh (HU13_0.out.trans hupd)
      clear hupd
      refine wpOps_nil ?_
      exact ⟨⟨(k + 1), _, _, _, _, _, _, _, _, _, _, _, _, _, _, _, _, _, _, _, _, _, _, _, _, _, _, _, _, _, _, _, _, Nat.succ_le_of_lt Hlt5.out, rfl, HU14.out, Bxr1y1_14.out, hCr12_3.to (by rw [low_t hd Hcd20.out]), Bxr0y1_14.out, hCr13_3.to (by rw [pow_two_plus]), Bxr0y0_14.out, Bxr0y2_14.out, Bxr2y1_14.out⟩, by show (256) - ((k : Int) + 1).toNat < (256) - (k : Int).toNat; have := Hlt5.out; omega⟩
    have Hcd21 := hh hcd
    clear hcd
    refine wp_skip ?_
    refine hK18 _ _ ?_
    clear hK18
    refine wp_region_qSD 4 #[true, true, true, true, false] [4] ([.val (.agg A5_3), .val (.agg A5_3), .val (.agg ar2_0), .like (IsC 48 RQ [some ((eP.times (2 ^ k)).plus (eP.times (2 ^ k)))]), .val undef] : List SQ) (by kernel_rfl) (by kernel_rfl) (by kernel_rfl) (by kernel_rfl) ?_ ?_
    · intro i o listed an wn ho hls hst hun hdep hI hD hpre K' hK'
      rcases slot_cases (l := [0, 1, 2, 3]) rfl ho hst with rfl | rfl | rfl | rfl | ⟨⟨⟩⟩
      · obtain rfl := Option.some.inj ho
        have hvp : an.eval (.tmp 3) = ptrTo br0_1 := hI.oq (by kernel_rfl) rfl
        exact hI.pq hD hls rfl rfl rfl _ (run_loadQ rfl hvp wn (hI.upd.keep Bxr0y1_11).out Tryd.underlying47 rfl szR6 (by rw [hcl5_3.size]; exact Nat.le_of_ble_eq_true rfl)) (.val (.agg A5_3)) rfl (congrArg Value.agg (extract_all _ 48 hcl5_3.size)) rfl hK'
      · obtain rfl := Option.some.inj ho
        have hvp : an.eval (.tmp 3) = ptrTo br0_1 := hI.oq (by kernel_rfl) rfl
        exact hI.pq hD hls rfl rfl rfl _ (run_loadQ rfl hvp wn (hI.upd.keep Bxr0y1_11).out Tryd.underlying47 rfl szR6 (by rw [hcl5_3.size]; exact Nat.le_of_ble_eq_true rfl)) (.val (.agg A5_3)) rfl (congrArg Value.agg (extract_all _ 48 hcl5_3.size)) rfl hK'
      · obtain rfl := Option.some.inj ho
        have hvp : an.eval (.tmp 6) = ptrTo br2_1 := hI.oq (by kernel_rfl) rfl
        exact hI.pq hD hls rfl rfl rfl _ (run_loadQ rfl hvp wn (hI.upd.keep Bxr2y1_11).out Tryd.underlying45 rfl szN (by rw [hCr2_0.size]; exact Nat.le_of_ble_eq_true rfl)) (.val (.agg ar2_0)) rfl (congrArg Value.agg (extract_all _ 16 hCr2_0.size)) rfl hK'
      · obtain rfl := Option.some.inj ho
        obtain ⟨vp, hvp, rfl⟩ := hI.hq 0 _ 36 _ rfl rfl rfl (dp hdep 0 rfl rfl)
        obtain ⟨vq, hvq, rfl⟩ := hI.hq 1 _ 37 _ rfl rfl rfl (dp hdep 1 rfl rfl)
        obtain ⟨vr, hvr, rfl⟩ := hI.hq 2 _ 38 _ rfl rfl rfl (dp hdep 2 rfl rfl)
        exact hI.cq hD hls rfl rfl rfl 29 #[.tmp 36, .tmp 37, .tmp 38] _ rfl #[.agg A5_3, .agg A5_3, .agg ar2_0] (by simp [eval_of hvp, eval_of hvq, eval_of hvr]) (run_enter Tryd.func29 (by kernel_rfl) (by kernel_rfl)) (.like (IsC 48 RQ [some ((eP.times (2 ^ k)).plus (eP.times (2 ^ k)))])) rfl rfl ((raddR _ hcl5_3 hcl5_3 hCr2_0).mono fun _ _ h => h.sq) hK'
    intro an w16 hI
    obtain ⟨vr15_0, hvr15_0, rfl⟩ := hI.hq 0 _ 36 _ rfl rfl rfl rfl
    obtain ⟨vr15_1, hvr15_1, rfl⟩ := hI.hq 1 _ 37 _ rfl rfl rfl rfl
    obtain ⟨vr15_2, hvr15_2, rfl⟩ := hI.hq 2 _ 38 _ rfl rfl rfl rfl
    obtain ⟨vr15_3, hvr15_3, ar15_3, rfl, hCr15_3⟩ := hI.hq 3 _ 39 _ rfl rfl rfl rfl
    have hupd := hI.upd
    have ha := hI.act [(36, .agg A5_3), (37, .agg A5_3), (38, .agg ar2_0), (39, .agg ar15_3)] (by simp [hvr15_0, hvr15_1, hvr15_2, hvr15_3]) (by kernel_rfl)
    clear hI hvr15_0 hvr15_1 hvr15_2 hvr15_3
    subst ha
    simp only [List.foldl_cons, List.foldl_nil, List.setIfInBounds_toArray, List.set_cons_zero, List.set_cons_succ]
    have Bxr0y0_15 := hupd.keep Bxr0y0_11
    have Bxr0y1_15 := hupd.keep Bxr0y1_11
    have Bxr0y2_15 := hupd.keep Bxr0y2_11
    have Bxr1y1_15 := hupd.keep Bxr1y1_11
    have Bxr2y1_15 := hupd.keep Bxr2y1_11
    have HU15 := hh (HU11.out.trans hupd)
    clear hupd
    refine wpOps_storeQ 4 rfl rfl rfl 47 (.tmp 3) (.tmp 39) rfl br0_1 0 48 rfl ar15_3 rfl 47 A5_3 Bxr0y1_15.out szR6 hCr15_3.size (by rw [hcl5_3.size]; exact Nat.le_of_ble_eq_true rfl) hCr15_3.one' ?_
    intro ws15_0 hs15_0 hus15_0
    rw [splice_all _ _ 48 hcl5_3.size hCr15_3.size] at hs15_0
    have Bxr0y0_s15_0 := hus15_0.keepS Bxr0y0_15 (fun e => hner0_0_r0_1.out e)
    have Bxr0y2_s15_0 := hus15_0.keepS Bxr0y2_15 (fun e => hner0_1_r0_2.out e.symm)
    have Bxr1y1_s15_0 := hus15_0.keepS Bxr1y1_15 (fun e => hner1_1_Bxr0y1.out e)
    have Bxr2y1_s15_0 := hus15_0.keepS Bxr2y1_15 (fun e => hner2_1_Bxr0y1_s1_0.out e)
    have Bxr0y1_s15_0 := hh hs15_0
    have HU15_0 := hh (HU15.out.step hus15_0 (fun i hi h => absurd hi (Nat.not_lt.2 (h.symm ▸ hger0_1.out))))
    clear hs15_0 hus15_0
    refine wpOps_nil ?_
    refine hK8 _ _ ?_
    clear hK8
    have hq16_1 : IntKind.wrap .i64 ((k : Int) + 1) = (k : Int) + 1 := IntWalk.i64_in _ (by omega)
    refine wp_region_qSD 3 #[true, true, true] [] ([.val (.int .i64 (k : Int)), .val (.int .i64 ((k : Int) + 1)), .val (.int .i64 ((k : Int) + 1))] : List SQ) (by kernel_rfl) (by kernel_rfl) (by kernel_rfl) (by kernel_rfl) ?_ ?_
    · intro i o listed an wn ho hls hst hun hdep hI hD hpre K' hK'
      rcases slot_cases (l := [0, 1, 2]) rfl ho hst with rfl | rfl | rfl | ⟨⟨⟩⟩
      · obtain rfl := Option.some.inj ho
        have hvp : an.eval (.tmp 7) = .int .i64 (k : Int) := hI.oldS hpre (by kernel_rfl) rfl
        exact hI.pq hD hls rfl rfl rfl _ (run_moveQ (.inl rfl) hvp wn) (.val (.int .i64 (k : Int))) rfl rfl rfl hK'
      · obtain rfl := Option.some.inj ho
        obtain ⟨vp, hvp, rfl⟩ := hI.hq 0 _ 14 _ rfl rfl rfl (dp hdep 0 rfl rfl)
        exact hI.pq hD hls rfl rfl rfl _ (run_add rfl (eval_of hvp) rfl hq16_1 wn) (.val (.int .i64 ((k : Int) + 1))) rfl rfl rfl hK'
      · obtain rfl := Option.some.inj ho
        obtain ⟨vp, hvp, rfl⟩ := hI.hq 1 _ 15 _ rfl rfl rfl (dp hdep 0 rfl rfl)
        exact hI.pq hD hls rfl rfl rfl _ (run_moveQ (.inr rfl) (eval_of hvp) wn) (.val (.int .i64 ((k : Int) + 1))) rfl rfl rfl hK'
    intro an w17 hI
    obtain ⟨vr16_0, hvr16_0, rfl⟩ := hI.hq 0 _ 14 _ rfl rfl rfl rfl
    obtain ⟨vr16_1, hvr16_1, rfl⟩ := hI.hq 1 _ 15 _ rfl rfl rfl rfl
    obtain ⟨vr16_2, hvr16_2, rfl⟩ := hI.hq 2 _ 7 _ rfl rfl rfl rfl
    have hupd := hI.upd
    have ha := hI.act [(14, .int .i64 (k : Int)), (15, .int .i64 ((k : Int) + 1)), (7, .int .i64 ((k : Int) + 1))] (by simp [hvr16_0, hvr16_1, hvr16_2]) (by kernel_rfl)
    clear hI hvr16_0 hvr16_1 hvr16_2
    subst ha
    simp only [List.foldl_cons, List.foldl_nil, List.setIfInBounds_toArray, List.set_cons_zero, List.set_cons_succ]
    have Bxr0y0_16 := hupd.keep Bxr0y0_s15_0
    have Bxr0y1_16 := hupd.keep Bxr0y1_s15_0
    have Bxr0y2_16 := hupd.keep Bxr0y2_s15_0
    have Bxr1y1_16 := hupd.keep Bxr1y1_s15_0
    have Bxr2y1_16 := hupd.keep Bxr2y1_s15_0
    have HU16 := hh (HU15_0.out.trans hupd)
    clear hupd
    refine wpOps_nil ?_
    exact ⟨⟨(k + 1), _, _, _, _, _, _, _, _, _, _, _, _, _, _, _, _, _, _, _, _, _, _, _, _, _, _, _, _, _, _, _, _, Nat.succ_le_of_lt Hlt5.out, rfl, HU16.out, Bxr1y1_16.out, hcl5_5.to (by rw [low_f hd Hcd21.out]), Bxr0y1_16.out, hCr15_3.to (by rw [pow_two_plus]), Bxr0y0_16.out, Bxr0y2_16.out, Bxr2y1_16.out⟩, by show (256) - ((k : Int) + 1).toNat < (256) - (k : Int).toNat; have := Hlt5.out; omega⟩
  obtain rfl : k = 256 := by omega
  clear hlt
  refine wp_seq_k fun K22 hK22 => ?_
  refine wp_seq_k fun K23 hK23 => ?_
  have hq17_1 : decide (((((256 : Nat) : Int) : Int) < 256 : Prop)) = false := decide_eq_false (by omega)
  refine wp_region_qSD 2 #[true, true] [] ([.val (.int .i64 ((256 : Nat) : Int)), .val (.bool false)] : List SQ) (by kernel_rfl) (by kernel_rfl) (by kernel_rfl) (by kernel_rfl) ?_ ?_
  · intro i o listed an wn ho hls hst hun hdep hI hD hpre K' hK'
    rcases slot_cases (l := [0, 1]) rfl ho hst with rfl | rfl | ⟨⟨⟩⟩
    · obtain rfl := Option.some.inj ho
      have hvp : an.eval (.tmp 7) = .int .i64 ((256 : Nat) : Int) := hI.oq (by kernel_rfl) rfl
      exact hI.pq hD hls rfl rfl rfl _ (run_moveQ (.inl rfl) hvp wn) (.val (.int .i64 ((256 : Nat) : Int))) rfl rfl rfl hK'
    · obtain rfl := Option.some.inj ho
      obtain ⟨vp, hvp, rfl⟩ := hI.hq 0 _ 12 _ rfl rfl rfl (dp hdep 0 rfl rfl)
      exact hI.pq hD hls rfl rfl rfl _ (run_lss rfl (eval_of hvp) rfl hq17_1 wn) (.val (.bool false)) rfl rfl rfl hK'
  intro an w18 hI
  obtain ⟨vr17_0, hvr17_0, rfl⟩ := hI.hq 0 _ 12 _ rfl rfl rfl rfl
  obtain ⟨vr17_1, hvr17_1, rfl⟩ := hI.hq 1 _ 13 _ rfl rfl rfl rfl
  have hupd := hI.upd
  have ha := hI.act [(12, .int .i64 ((256 : Nat) : Int)), (13, .bool false)] (by simp [hvr17_0, hvr17_1]) (by kernel_rfl)
  clear hI hvr17_0 hvr17_1
  subst ha
  simp only [List.foldl_cons, List.foldl_nil, List.setIfInBounds_toArray, List.set_cons_zero, List.set_cons_succ]
  have Bxr0y0_17 := hupd.keep Bxr0y0_l5
  have Bxr0y1_17 := hupd.keep Bxr0y1_l5
  have Bxr0y2_17 := hupd.keep Bxr0y2_l5
  have Bxr1y1_17 := hupd.keep Bxr1y1_l5
  have Bxr2y1_17 := hupd.keep Bxr2y1_l5
  have HU17 := hh (HUl5.out.trans hupd)
  clear hupd
  refine wpOps_nil ?_
  refine hK23 _ _ ?_
  clear hK23
  refine wp_cond_false rfl ?_
  refine wp_exit_then ?_
  refine hK3 _ _ ?_
  clear hK3
  refine wp_seq_k fun K24 hK24 => ?_
  refine wp_region_qSD 1 #[true, false] [1] ([.val (.agg A5_5), .val undef] : List SQ) (by kernel_rfl) (by kernel_rfl) (by kernel_rfl) (by kernel_rfl) ?_ ?_
  · intro i o listed an wn ho hls hst hun hdep hI hD hpre K' hK'
    rcases slot_cases (l := [0]) rfl ho hst with rfl | ⟨⟨⟩⟩
    · obtain rfl := Option.some.inj ho
      have hvp : an.eval (.tmp 5) = ptrTo br1_1 := hI.oq (by kernel_rfl) rfl
      exact hI.pq hD hls rfl rfl rfl _ (run_loadQ rfl hvp wn (hI.upd.keep Bxr1y1_17).out Tryd.underlying47 rfl szR6 (by rw [hcl5_5.size]; exact Nat.le_of_ble_eq_true rfl)) (.val (.agg A5_5)) rfl (congrArg Value.agg (extract_all _ 48 hcl5_5.size)) rfl hK'
  intro an w19 hI
  obtain ⟨vr18_0, hvr18_0, rfl⟩ := hI.hq 0 _ 40 _ rfl rfl rfl rfl
  have hupd := hI.upd
  have ha := hI.act [(40, .agg A5_5)] (by simp [hvr18_0]) (by kernel_rfl)
  clear hI hvr18_0
  subst ha
  simp only [List.foldl_cons, List.foldl_nil, List.setIfInBounds_toArray, List.set_cons_zero, List.set_cons_succ]
  have Bxr0y0_18 := hupd.keep Bxr0y0_17
  have Bxr0y1_18 := hupd.keep Bxr0y1_17
  have Bxr0y2_18 := hupd.keep Bxr0y2_17
  have Bxr1y1_18 := hupd.keep Bxr1y1_17
  have Bxr2y1_18 := hupd.keep Bxr2y1_17
  have HU18 := hh (HU17.out.trans hupd)
  clear hupd
  refine wpOps_storeQ 1 rfl rfl rfl 47 (.tmp 4) (.tmp 40) rfl br0_2 0 48 rfl A5_5 rfl 47 zr0_2 Bxr0y2_18.out szR6 hcl5_5.size (by rw [hzr0_2.size]; exact Nat.le_of_ble_eq_true rfl) hcl5_5.one' ?_
  intro ws18_0 hs18_0 hus18_0
  rw [splice_all _ _ 48 hzr0_2.size hcl5_5.size] at hs18_0
  have Bxr0y0_s18_0 := hus18_0.keepS Bxr0y0_18 (fun e => hner0_0_r0_2.out e)
  have Bxr0y1_s18_0 := hus18_0.keepS Bxr0y1_18 (fun e => hner0_1_r0_2.out e)
  have Bxr1y1_s18_0 := hus18_0.keepS Bxr1y1_18 (fun e => hner1_1_Bxr0y2.out e)
  have Bxr2y1_s18_0 := hus18_0.keepS Bxr2y1_18 (fun e => hner2_1_Bxr0y2_s1_0.out e)
  have Bxr0y2_s18_0 := hh hs18_0
  have HU18_0 := hh (HU18.out.step hus18_0 (fun i hi h => absurd hi (Nat.not_lt.2 (h.symm ▸ hger0_2.out))))
  clear hs18_0 hus18_0
  refine wpOps_nil ?_
  refine hK24 _ _ ?_
  clear hK24
  refine wp_ret ?_
  try dsimp only [Exit.then]
  try dsimp only [Exit.inBlock]
  exact bodyPost_ret (v := .agg A5_5) (results_cell_row (fn := Tryd.f37) (p := 4) (ty := 47) rfl _ _ br0_2 47 _ (0, 0) _ rfl Bxr0y2_s18_0.out Tryd.underlying47 rfl (by rw [hcl5_5.size]; exact szR6)) rfl ⟨_, rfl, hcl5_5, HU18_0.out⟩
theorem rmultQ {l : List Int} {e : EP} {a : Array Value} (w : World) (hl : l.length = 32) (hd : Digs 256 l) (ha : Ch 48 RQ [some e] a) : Calls Tryd.prog 37 #[.agg (numsA .u8 l), .agg a] w (RetC 48 RQ [some (e.times (expo l))] w) := by
  have h := rmultP w hl hd ha
  rw [low_all hl hd] at h
  exact h
end Go.Proofs.YtdpafemcpbhlfaaDoor
