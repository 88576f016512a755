/-
  The walk of PointTimes.
-/
import Derived.Test.YtdpafemcpbhlfaaDoorPt5
import Derived.Test.YtdpafemcpbhlfaaDoorPtD
import Derived.Test.YtdpafemcpbhlfaaDoorRf6d
namespace Go.Proofs.YtdpafemcpbhlfaaDoor
set_option maxRecDepth 100000
open Go.RowKit

set_option maxHeartbeats 4000000 in
theorem ptimesN {a k : List Int} (w : World) (hT : Tw w) (ha : a.length = 32) (da : Digs 256 a) (hl : k.length = 32) (hd : Digs 256 k) (hk : ∀ e : EP, encP e ≠ a) :
    Calls Tryd.prog 10 #[.agg (numsA .u8 a), .agg (numsA .u8 k)] w fun e w' => e = .returned (.bool true) ∧ Upd (fun _ => False) w w' := by
  have HT := hh hT
  clear hT
  have HU := hh (Upd.refl (fun _ => False) w)
  go_enter Tryd.func10, Tryd.ntmps10
  refine wp_seq_k fun K0 hK0 => ?_
  refine wp_region_qSD 3 #[true, true, true] [] ([.blk ptrTo 23 (fun z => z = numsA .u8 a), .blk ptrTo 23 (fun z => z = numsA .u8 k), .val (.bool false)] : List SQ) (by kernel_rfl) (by kernel_rfl) (by kernel_rfl) (by kernel_rfl) ?_ ?_
  · intro i o listed an wn ho hls hst hun hdep hI hD hpre K' hK'
    rcases slot_cases (l := [0, 1, 2]) rfl ho hst with rfl | rfl | rfl | ⟨⟨⟩⟩
    · obtain rfl := Option.some.inj ho
      have hvp : an.eval (.tmp 0) = .agg (numsA .u8 a) := hI.oq (by kernel_rfl) rfl
      exact hI.newQ hD hls (Nat.le_refl _) (newsQ_spec (l := [0, 1]) (by kernel_rfl) ⟨⟨_, _, rfl⟩, ⟨_, _, rfl⟩, trivial⟩) rfl rfl rfl 23 _ (fun z => z = numsA .u8 a) (run_boxQ rfl hvp wn) rfl rfl hK'
    · obtain rfl := Option.some.inj ho
      have hvp : an.eval (.tmp 1) = .agg (numsA .u8 k) := hI.oq (by kernel_rfl) rfl
      exact hI.newQ hD hls (Nat.le_refl _) (newsQ_spec (l := [0, 1]) (by kernel_rfl) ⟨⟨_, _, rfl⟩, ⟨_, _, rfl⟩, trivial⟩) rfl rfl rfl 23 _ (fun z => z = numsA .u8 k) (run_boxQ rfl hvp wn) rfl rfl hK'
    · obtain rfl := Option.some.inj ho
      exact hI.pq hD hls rfl rfl rfl _ (run_moveQ (.inr rfl) (show an.eval (.const (.bool false)) = .bool false from rfl) wn) (.val (.bool false)) rfl rfl rfl hK'
  intro an w1 hI
  obtain ⟨vr0_0, hvr0_0, br0_0, zr0_0, rfl, hnr0_0, hbr0_0, hzr0_0⟩ := hI.hq 0 _ 2 _ rfl rfl rfl rfl
  rw [hzr0_0] at hbr0_0
  clear hzr0_0
  obtain ⟨vr0_1, hvr0_1, br0_1, zr0_1, rfl, hnr0_1, hbr0_1, hzr0_1⟩ := hI.hq 1 _ 3 _ rfl rfl rfl rfl
  rw [hzr0_1] at hbr0_1
  clear hzr0_1
  obtain ⟨vr0_2, hvr0_2, rfl⟩ := hI.hq 2 _ 4 _ rfl rfl rfl rfl
  have hupd := hI.upd
  have hner0_0_r0_1 := hh (show br0_0 ≠ br0_1 from fun e => hI.apart 0 1 _ _ 2 3 (by omega) rfl rfl rfl rfl rfl rfl rfl rfl (by rw [hvr0_0, hvr0_1, e]))
  have ha := hI.act [(2, ptrTo br0_0), (3, ptrTo br0_1), (4, .bool false)] (by simp [hvr0_0, hvr0_1, hvr0_2]) (by kernel_rfl)
  clear hI hvr0_0 hvr0_1 hvr0_2
  subst ha
  simp only [List.foldl_cons, List.foldl_nil, List.setIfInBounds_toArray, List.set_cons_zero, List.set_cons_succ]
  have hger0_0 := geB HU hnr0_0
  have hger0_1 := geB HU hnr0_1
  have Bxr0y0 := hh hbr0_0
  have Bxr0y1 := hh hbr0_1
  have HU0 := hh (HU.out.trans hupd)
  clear hupd
  refine wpOps_nil ?_
  refine hK0 _ _ ?_
  clear hK0
  refine wp_seq_k fun K1 hK1 => ?_
  refine wp_seq_k fun K2 hK2 => ?_
  refine wp_region_qSD 2 #[true, true] [] ([.val (.bool true), .val (.bool false)] : List SQ) (by kernel_rfl) (by kernel_rfl) (by kernel_rfl) (by kernel_rfl) ?_ ?_
  · intro i o listed an wn ho hls hst hun hdep hI hD hpre K' hK'
    rcases slot_cases (l := [0, 1]) rfl ho hst with rfl | rfl | ⟨⟨⟩⟩
    · obtain rfl := Option.some.inj ho
      exact hI.cq hD hls rfl rfl rfl 23 #[] _ rfl #[] (by simp) (run_enter Tryd.func23 (by kernel_rfl) (by kernel_rfl)) (.val (.bool true)) rfl rfl ((basedL _ (HT.out.upd (HU0.out.trans hI.upd))).mono fun _ _ h => ret_val h) hK'
    · obtain rfl := Option.some.inj ho
      obtain ⟨vp, hvp, rfl⟩ := hI.hq 0 _ 9 _ rfl rfl rfl (dp hdep 0 rfl rfl)
      exact hI.pq hD hls rfl rfl rfl _ (run_not rfl (eval_of hvp) wn) (.val (.bool false)) rfl rfl rfl hK'
  intro an w2 hI
  obtain ⟨vr1_0, hvr1_0, rfl⟩ := hI.hq 0 _ 9 _ rfl rfl rfl rfl
  obtain ⟨vr1_1, hvr1_1, rfl⟩ := hI.hq 1 _ 10 _ rfl rfl rfl rfl
  have hupd := hI.upd
  have ha := hI.act [(9, .bool true), (10, .bool false)] (by simp [hvr1_0, hvr1_1]) (by kernel_rfl)
  clear hI hvr1_0 hvr1_1
  subst ha
  simp only [List.foldl_cons, List.foldl_nil, List.setIfInBounds_toArray, List.set_cons_zero, List.set_cons_succ]
  have Bxr0y0_1 := hupd.keep Bxr0y0
  have Bxr0y1_1 := hupd.keep Bxr0y1
  have HU1 := hh (HU0.out.trans hupd)
  clear hupd
  refine wpOps_nil ?_
  refine hK2 _ _ ?_
  clear hK2
  refine wp_cond_false rfl ?_
  refine wp_skip ?_
  refine hK1 _ _ ?_
  clear hK1
  refine wp_seq_k fun K3 hK3 => ?_
  refine wp_region_qSD 6 #[true, true, true, true, true, true, false, false] [6, 7] ([.val (.agg (numsA .u8 a)), .like (IsCV 20 RP [none] (.int .i64 60)), .like (IsCV 20 RP [none] (.int .i64 60)), .like (IsC 20 RP [none]), .val (.int .i64 60), .blk ptrTo 41 (Ch 20 RP [none]), .val undef, .val undef] : List SQ) (by kernel_rfl) (by kernel_rfl) (by kernel_rfl) (by kernel_rfl) ?_ ?_
  · intro i o listed an wn ho hls hst hun hdep hI hD hpre K' hK'
    rcases slot_cases (l := [0, 1, 2, 3, 4, 5]) rfl ho hst with rfl | rfl | rfl | rfl | rfl | rfl | ⟨⟨⟩⟩
    · obtain rfl := Option.some.inj ho
      have hvp : an.eval (.tmp 2) = ptrTo br0_0 := hI.oq (by kernel_rfl) rfl
      exact hI.pq hD hls rfl rfl rfl _ (run_loadQ rfl hvp wn (hI.upd.keep Bxr0y0_1).out Tryd.underlying23 rfl sizeKey (by rw [numsA_size, ha]; omega)) (.val (.agg (numsA .u8 a))) rfl (congrArg Value.agg (extract_all _ 32 (by rw [numsA_size]; exact ha))) rfl hK'
    · obtain rfl := Option.some.inj ho
      obtain ⟨vp, hvp, rfl⟩ := hI.hq 0 _ 12 _ rfl rfl rfl (dp hdep 0 rfl rfl)
      exact hI.cq hD hls rfl rfl rfl 24 #[.tmp 12] _ rfl #[.agg (numsA .u8 a)] (by simp [eval_of hvp]) (run_enter Tryd.func24 (by kernel_rfl) (by kernel_rfl)) (.like (IsCV 20 RP [none] (.int .i64 60))) rfl rfl ((decodeF _ (HT.out.upd (HU1.out.trans hI.upd)) ha da hk).mono fun _ _ h => h.sq) hK'
    · obtain rfl := Option.some.inj ho
      obtain ⟨vp, hvp, ap, rfl, hCp⟩ := hI.hq 1 _ 13 _ rfl rfl rfl (dp hdep 0 rfl rfl)
      exact hI.pq hD hls rfl rfl rfl _ (run_moveQ (.inl rfl) (eval_of hvp) wn) (.like (IsCV 20 RP [none] (.int .i64 60))) rfl ⟨_, rfl, hCp⟩ rfl hK'
    · obtain rfl := Option.some.inj ho
      obtain ⟨vp, hvp, ap, rfl, hCp⟩ := hI.hq 2 _ 11 _ rfl rfl rfl (dp hdep 0 rfl rfl)
      exact hI.pq hD hls rfl rfl rfl _ (run_extractQ rfl (eval_of hvp) rfl wn) (.like (IsC 20 RP [none])) rfl ⟨_, rfl, hCp⟩ rfl hK'
    · obtain rfl := Option.some.inj ho
      obtain ⟨vp, hvp, ap, rfl, hCp⟩ := hI.hq 2 _ 11 _ rfl rfl rfl (dp hdep 0 rfl rfl)
      exact hI.pq hD hls rfl rfl rfl _ (run_extractQ rfl (eval_of hvp) rfl wn) (.val (.int .i64 60)) rfl rfl rfl hK'
    · obtain rfl := Option.some.inj ho
      exact hI.newQ hD hls (Nat.le_refl _) (newsQ_spec (l := [5]) (by kernel_rfl) ⟨⟨_, _, rfl⟩, trivial⟩) rfl rfl rfl 41 zPt _ (run_allocQ rfl zPt_run wn) rfl zPt_p hK'
  intro an w3 hI
  obtain ⟨vr2_0, hvr2_0, rfl⟩ := hI.hq 0 _ 12 _ rfl rfl rfl rfl
  obtain ⟨vr2_1, hvr2_1, ar2_1, rfl, hCr2_1⟩ := hI.hq 1 _ 13 _ rfl rfl rfl rfl
  obtain ⟨vr2_2, hvr2_2, ar2_2, rfl, hCr2_2⟩ := hI.hq 2 _ 11 _ rfl rfl rfl rfl
  obtain ⟨vr2_3, hvr2_3, ar2_3, rfl, hCr2_3⟩ := hI.hq 3 _ 14 _ rfl rfl rfl rfl
  obtain ⟨vr2_4, hvr2_4, rfl⟩ := hI.hq 4 _ 15 _ rfl rfl rfl rfl
  obtain ⟨vr2_5, hvr2_5, br2_5, zr2_5, rfl, hnr2_5, hbr2_5, hzr2_5⟩ := hI.hq 5 _ 5 _ rfl rfl rfl rfl
  have hupd := hI.upd
  have ha := hI.act [(12, .agg (numsA .u8 a)), (13, .tuple #[.agg ar2_1, .int .i64 60]), (11, .tuple #[.agg ar2_2, .int .i64 60]), (14, .agg ar2_3), (15, .int .i64 60), (5, ptrTo br2_5)] (by simp [hvr2_0, hvr2_1, hvr2_2, hvr2_3, hvr2_4, hvr2_5]) (by kernel_rfl)
  clear hI hvr2_0 hvr2_1 hvr2_2 hvr2_3 hvr2_4 hvr2_5
  subst ha
  simp only [List.foldl_cons, List.foldl_nil, List.setIfInBounds_toArray, List.set_cons_zero, List.set_cons_succ]
  have hner2_5_Bxr0y0_1 := apartB Bxr0y0_1 hnr2_5
  have hner2_5_Bxr0y1_1 := apartB Bxr0y1_1 hnr2_5
  have hger2_5 := geB HU1 hnr2_5
  have Bxr0y0_2 := hupd.keep Bxr0y0_1
  have Bxr0y1_2 := hupd.keep Bxr0y1_1
  have Bxr2y5 := hh hbr2_5
  have HU2 := hh (HU1.out.trans hupd)
  clear hupd
  refine wpOps_storeQ 6 rfl rfl rfl 41 (.tmp 5) (.tmp 14) rfl br2_5 0 20 rfl ar2_3 rfl 41 zr2_5 Bxr2y5.out szPt hCr2_3.size (by rw [hzr2_5.size]; exact Nat.le_of_ble_eq_true rfl) hCr2_3.one' ?_
  intro ws2_0 hs2_0 hus2_0
  rw [splice_all _ _ 20 hzr2_5.size hCr2_3.size] at hs2_0
  have Bxr0y0_s2_0 := hus2_0.keepS Bxr0y0_2 (fun e => hner2_5_Bxr0y0_1.out e.symm)
  have Bxr0y1_s2_0 := hus2_0.keepS Bxr0y1_2 (fun e => hner2_5_Bxr0y1_1.out e.symm)
  have Bxr2y5_s2_0 := hh hs2_0
  have HU2_0 := hh (HU2.out.step hus2_0 (fun i hi h => absurd hi (Nat.not_lt.2 (h.symm ▸ hger2_5.out))))
  clear hs2_0 hus2_0
  refine wpOps_pureQ 7 rfl rfl 6 rfl (.int .i64 60) (run_moveQ (x := .tmp 15) (v := .int .i64 60) (.inr rfl) rfl _) ?_
  simp only [List.setIfInBounds_toArray, List.set_cons_zero, List.set_cons_succ]
  refine wpOps_nil ?_
  refine hK3 _ _ ?_
  clear hK3
  refine wp_seq_k fun K4 hK4 => ?_
  refine wp_seq_k fun K5 hK5 => ?_
  refine wp_region_qSD 2 #[true, true] [] ([.val (.int .i64 60), .val (.bool true)] : List SQ) (by kernel_rfl) (by kernel_rfl) (by kernel_rfl) (by kernel_rfl) ?_ ?_
  · intro i o listed an wn ho hls hst hun hdep hI hD hpre K' hK'
    rcases slot_cases (l := [0, 1]) rfl ho hst with rfl | rfl | ⟨⟨⟩⟩
    · obtain rfl := Option.some.inj ho
      have hvp : an.eval (.tmp 6) = .int .i64 60 := hI.oq (by kernel_rfl) rfl
      exact hI.pq hD hls rfl rfl rfl _ (run_moveQ (.inl rfl) hvp wn) (.val (.int .i64 60)) rfl rfl rfl hK'
    · obtain rfl := Option.some.inj ho
      obtain ⟨vp, hvp, rfl⟩ := hI.hq 0 _ 16 _ rfl rfl rfl (dp hdep 0 rfl rfl)
      exact hI.pq hD hls rfl rfl rfl _ (run_neq rfl (eval_of hvp) rfl (ne_of_eqB (show decide ((60 : Int) = 0) = false by decide)) wn) (.val (.bool true)) rfl rfl rfl hK'
  intro an w4 hI
  obtain ⟨vr3_0, hvr3_0, rfl⟩ := hI.hq 0 _ 16 _ rfl rfl rfl rfl
  obtain ⟨vr3_1, hvr3_1, rfl⟩ := hI.hq 1 _ 17 _ rfl rfl rfl rfl
  have hupd := hI.upd
  have ha := hI.act [(16, .int .i64 60), (17, .bool true)] (by simp [hvr3_0, hvr3_1]) (by kernel_rfl)
  clear hI hvr3_0 hvr3_1
  subst ha
  simp only [List.foldl_cons, List.foldl_nil, List.setIfInBounds_toArray, List.set_cons_zero, List.set_cons_succ]
  have Bxr0y0_3 := hupd.keep Bxr0y0_s2_0
  have Bxr0y1_3 := hupd.keep Bxr0y1_s2_0
  have Bxr2y5_3 := hupd.keep Bxr2y5_s2_0
  have HU3 := hh (HU2_0.out.trans hupd)
  clear hupd
  refine wpOps_nil ?_
  refine hK5 _ _ ?_
  clear hK5
  refine wp_cond_true rfl ?_
  refine wp_region_qSD 1 #[true, false] [1] ([.like (IsC 20 RP [some eB]), .val undef] : List SQ) (by kernel_rfl) (by kernel_rfl) (by kernel_rfl) (by kernel_rfl) ?_ ?_
  · intro i o listed an wn ho hls hst hun hdep hI hD hpre K' hK'
    rcases slot_cases (l := [0]) rfl ho hst with rfl | ⟨⟨⟩⟩
    · obtain rfl := Option.some.inj ho
      exact hI.cq hD hls rfl rfl rfl 34 #[] _ rfl #[] (by simp) (run_enter Tryd.func34 (by kernel_rfl) (by kernel_rfl)) (.like (IsC 20 RP [some eB])) rfl rfl ((baseR _ ).mono fun _ _ h => h.sq) hK'
  intro an w5 hI
  obtain ⟨vr4_0, hvr4_0, ar4_0, rfl, hCr4_0⟩ := hI.hq 0 _ 18 _ rfl rfl rfl rfl
  have hupd := hI.upd
  have ha := hI.act [(18, .agg ar4_0)] (by simp [hvr4_0]) (by kernel_rfl)
  clear hI hvr4_0
  subst ha
  simp only [List.foldl_cons, List.foldl_nil, List.setIfInBounds_toArray, List.set_cons_zero, List.set_cons_succ]
  have Bxr0y0_4 := hupd.keep Bxr0y0_3
  have Bxr0y1_4 := hupd.keep Bxr0y1_3
  have Bxr2y5_4 := hupd.keep Bxr2y5_3
  have HU4 := hh (HU3.out.trans hupd)
  clear hupd
  refine wpOps_storeQ 1 rfl rfl rfl 41 (.tmp 5) (.tmp 18) rfl br2_5 0 20 rfl ar4_0 rfl 41 ar2_3 Bxr2y5_4.out szPt hCr4_0.size (by rw [hCr2_3.size]; exact Nat.le_of_ble_eq_true rfl) hCr4_0.one' ?_
  intro ws4_0 hs4_0 hus4_0
  rw [splice_all _ _ 20 hCr2_3.size hCr4_0.size] at hs4_0
  have Bxr0y0_s4_0 := hus4_0.keepS Bxr0y0_4 (fun e => hner2_5_Bxr0y0_1.out e.symm)
  have Bxr0y1_s4_0 := hus4_0.keepS Bxr0y1_4 (fun e => hner2_5_Bxr0y1_1.out e.symm)
  have Bxr2y5_s4_0 := hh hs4_0
  have HU4_0 := hh (HU4.out.step hus4_0 (fun i hi h => absurd hi (Nat.not_lt.2 (h.symm ▸ hger2_5.out))))
  clear hs4_0 hus4_0
  refine wpOps_nil ?_
  refine hK4 _ _ ?_
  clear hK4
  refine wp_seq_k fun K6 hK6 => ?_
  refine wp_region_qSD 6 #[true, true, true, true, true, true, false, false] [6, 7] ([.val (.agg (numsA .u8 a)), .like (IsCV 48 RQ [none] (.int .i64 60)), .like (IsCV 48 RQ [none] (.int .i64 60)), .like (IsC 48 RQ [none]), .val (.int .i64 60), .blk ptrTo 47 (Ch 48 RQ [none]), .val undef, .val undef] : List SQ) (by kernel_rfl) (by kernel_rfl) (by kernel_rfl) (by kernel_rfl) ?_ ?_
  · intro i o listed an wn ho hls hst hun hdep hI hD hpre K' hK'
    rcases slot_cases (l := [0, 1, 2, 3, 4, 5]) rfl ho hst with rfl | rfl | rfl | rfl | rfl | rfl | ⟨⟨⟩⟩
    · obtain rfl := Option.some.inj ho
      have hvp : an.eval (.tmp 2) = ptrTo br0_0 := hI.oq (by kernel_rfl) rfl
      exact hI.pq hD hls rfl rfl rfl _ (run_loadQ rfl hvp wn (hI.upd.keep Bxr0y0_s4_0).out Tryd.underlying23 rfl sizeKey (by rw [numsA_size, ha]; omega)) (.val (.agg (numsA .u8 a))) rfl (congrArg Value.agg (extract_all _ 32 (by rw [numsA_size]; exact ha))) rfl hK'
    · obtain rfl := Option.some.inj ho
      obtain ⟨vp, hvp, rfl⟩ := hI.hq 0 _ 20 _ rfl rfl rfl (dp hdep 0 rfl rfl)
      exact hI.cq hD hls rfl rfl rfl 25 #[.tmp 20] _ rfl #[.agg (numsA .u8 a)] (by simp [eval_of hvp]) (run_enter Tryd.func25 (by kernel_rfl) (by kernel_rfl)) (.like (IsCV 48 RQ [none] (.int .i64 60))) rfl rfl ((rdecodeF _ ha da hk).mono fun _ _ h => h.sq) hK'
    · obtain rfl := Option.some.inj ho
      obtain ⟨vp, hvp, ap, rfl, hCp⟩ := hI.hq 1 _ 21 _ rfl rfl rfl (dp hdep 0 rfl rfl)
      exact hI.pq hD hls rfl rfl rfl _ (run_moveQ (.inl rfl) (eval_of hvp) wn) (.like (IsCV 48 RQ [none] (.int .i64 60))) rfl ⟨_, rfl, hCp⟩ rfl hK'
    · obtain rfl := Option.some.inj ho
      obtain ⟨vp, hvp, ap, rfl, hCp⟩ := hI.hq 2 _ 19 _ rfl rfl rfl (dp hdep 0 rfl rfl)
      exact hI.pq hD hls rfl rfl rfl _ (run_extractQ rfl (eval_of hvp) rfl wn) (.like (IsC 48 RQ [none])) rfl ⟨_, rfl, hCp⟩ rfl hK'
    · obtain rfl := Option.some.inj ho
      obtain ⟨vp, hvp, ap, rfl, hCp⟩ := hI.hq 2 _ 19 _ rfl rfl rfl (dp hdep 0 rfl rfl)
      exact hI.pq hD hls rfl rfl rfl _ (run_extractQ rfl (eval_of hvp) rfl wn) (.val (.int .i64 60)) rfl rfl rfl hK'
    · obtain rfl := Option.some.inj ho
      exact hI.newQ hD hls (Nat.le_refl _) (newsQ_spec (l := [5]) (by kernel_rfl) ⟨⟨_, _, rfl⟩, trivial⟩) rfl rfl rfl 47 zR6 _ (run_allocQ rfl zR6_run wn) rfl zR6_q hK'
  intro an w6 hI
  obtain ⟨vr5_0, hvr5_0, rfl⟩ := hI.hq 0 _ 20 _ rfl rfl rfl rfl
  obtain ⟨vr5_1, hvr5_1, ar5_1, rfl, hCr5_1⟩ := hI.hq 1 _ 21 _ rfl rfl rfl rfl
  obtain ⟨vr5_2, hvr5_2, ar5_2, rfl, hCr5_2⟩ := hI.hq 2 _ 19 _ rfl rfl rfl rfl
  obtain ⟨vr5_3, hvr5_3, ar5_3, rfl, hCr5_3⟩ := hI.hq 3 _ 22 _ rfl rfl rfl rfl
  obtain ⟨vr5_4, hvr5_4, rfl⟩ := hI.hq 4 _ 23 _ rfl rfl rfl rfl
  obtain ⟨vr5_5, hvr5_5, br5_5, zr5_5, rfl, hnr5_5, hbr5_5, hzr5_5⟩ := hI.hq 5 _ 7 _ rfl rfl rfl rfl
  have hupd := hI.upd
  have ha := hI.act [(20, .agg (numsA .u8 a)), (21, .tuple #[.agg ar5_1, .int .i64 60]), (19, .tuple #[.agg ar5_2, .int .i64 60]), (22, .agg ar5_3), (23, .int .i64 60), (7, ptrTo br5_5)] (by simp [hvr5_0, hvr5_1, hvr5_2, hvr5_3, hvr5_4, hvr5_5]) (by kernel_rfl)
  clear hI hvr5_0 hvr5_1 hvr5_2 hvr5_3 hvr5_4 hvr5_5
  subst ha
  simp only [List.foldl_cons, List.foldl_nil, List.setIfInBounds_toArray, List.set_cons_zero, List.set_cons_succ]
  have hner5_5_Bxr0y0_s4_0 := apartB Bxr0y0_s4_0 hnr5_5
  have hner5_5_Bxr0y1_s4_0 := apartB Bxr0y1_s4_0 hnr5_5
  have hner5_5_Bxr2y5_s4_0 := apartB Bxr2y5_s4_0 hnr5_5
  have hger5_5 := geB HU4_0 hnr5_5
  have Bxr0y0_5 := hupd.keep Bxr0y0_s4_0
  have Bxr0y1_5 := hupd.keep Bxr0y1_s4_0
  have Bxr2y5_5 := hupd.keep Bxr2y5_s4_0
  have Bxr5y5 := hh hbr5_5
  have HU5 := hh (HU4_0.out.trans hupd)
  clear hupd
  refine wpOps_storeQ 6 rfl rfl rfl 47 (.tmp 7) (.tmp 22) rfl br5_5 0 48 rfl ar5_3 rfl 47 zr5_5 Bxr5y5.out szR6 hCr5_3.size (by rw [hzr5_5.size]; exact Nat.le_of_ble_eq_true rfl) hCr5_3.one' ?_
  intro ws5_0 hs5_0 hus5_0
  rw [splice_all _ _ 48 hzr5_5.size hCr5_3.size] at hs5_0
  have Bxr0y0_s5_0 := hus5_0.keepS Bxr0y0_5 (fun e => hner5_5_Bxr0y0_s4_0.out e.symm)
  have Bxr0y1_s5_0 := hus5_0.keepS Bxr0y1_5 (fun e => hner5_5_Bxr0y1_s4_0.out e.symm)
  have Bxr2y5_s5_0 := hus5_0.keepS Bxr2y5_5 (fun e => hner5_5_Bxr2y5_s4_0.out e.symm)
  have Bxr5y5_s5_0 := hh hs5_0
  have HU5_0 := hh (HU5.out.step hus5_0 (fun i hi h => absurd hi (Nat.not_lt.2 (h.symm ▸ hger5_5.out))))
  clear hs5_0 hus5_0
  refine wpOps_pureQ 7 rfl rfl 8 rfl (.int .i64 60) (run_moveQ (x := .tmp 23) (v := .int .i64 60) (.inr rfl) rfl _) ?_
  simp only [List.setIfInBounds_toArray, List.set_cons_zero, List.set_cons_succ]
  refine wpOps_nil ?_
  refine hK6 _ _ ?_
  clear hK6
  refine wp_seq_k fun K7 hK7 => ?_
  refine wp_seq_k fun K8 hK8 => ?_
  refine wp_region_qSD 2 #[true, true] [] ([.val (.int .i64 60), .val (.bool true)] : List SQ) (by kernel_rfl) (by kernel_rfl) (by kernel_rfl) (by kernel_rfl) ?_ ?_
  · intro i o listed an wn ho hls hst hun hdep hI hD hpre K' hK'
    rcases slot_cases (l := [0, 1]) rfl ho hst with rfl | rfl | ⟨⟨⟩⟩
    · obtain rfl := Option.some.inj ho
      have hvp : an.eval (.tmp 8) = .int .i64 60 := hI.oq (by kernel_rfl) rfl
      exact hI.pq hD hls rfl rfl rfl _ (run_moveQ (.inl rfl) hvp wn) (.val (.int .i64 60)) rfl rfl rfl hK'
    · obtain rfl := Option.some.inj ho
      obtain ⟨vp, hvp, rfl⟩ := hI.hq 0 _ 24 _ rfl rfl rfl (dp hdep 0 rfl rfl)
      exact hI.pq hD hls rfl rfl rfl _ (run_neq rfl (eval_of hvp) rfl (ne_of_eqB (show decide ((60 : Int) = 0) = false by decide)) wn) (.val (.bool true)) rfl rfl rfl hK'
  intro an w7 hI
  obtain ⟨vr6_0, hvr6_0, rfl⟩ := hI.hq 0 _ 24 _ rfl rfl rfl rfl
  obtain ⟨vr6_1, hvr6_1, rfl⟩ := hI.hq 1 _ 25 _ rfl rfl rfl rfl
  have hupd := hI.upd
  have ha := hI.act [(24, .int .i64 60), (25, .bool true)] (by simp [hvr6_0, hvr6_1]) (by kernel_rfl)
  clear hI hvr6_0 hvr6_1
  subst ha
  simp only [List.foldl_cons, List.foldl_nil, List.setIfInBounds_toArray, List.set_cons_zero, List.set_cons_succ]
  have Bxr0y0_6 := hupd.keep Bxr0y0_s5_0
  have Bxr0y1_6 := hupd.keep Bxr0y1_s5_0
  have Bxr2y5_6 := hupd.keep Bxr2y5_s5_0
  have Bxr5y5_6 := hupd.keep Bxr5y5_s5_0
  have HU6 := hh (HU5_0.out.trans hupd)
  clear hupd
  refine wpOps_nil ?_
  refine hK8 _ _ ?_
  clear hK8
  refine wp_cond_true rfl ?_
  refine wp_region_qSD 1 #[true, false] [1] ([.like (IsC 48 RQ [some eB]), .val undef] : List SQ) (by kernel_rfl) (by kernel_rfl) (by kernel_rfl) (by kernel_rfl) ?_ ?_
  · intro i o listed an wn ho hls hst hun hdep hI hD hpre K' hK'
    rcases slot_cases (l := [0]) rfl ho hst with rfl | ⟨⟨⟩⟩
    · obtain rfl := Option.some.inj ho
      exact hI.cq hD hls rfl rfl rfl 35 #[] _ rfl #[] (by simp) (run_enter Tryd.func35 (by kernel_rfl) (by kernel_rfl)) (.like (IsC 48 RQ [some eB])) rfl rfl ((rbaseR _ ).mono fun _ _ h => h.sq) hK'
  intro an w8 hI
  obtain ⟨vr7_0, hvr7_0, ar7_0, rfl, hCr7_0⟩ := hI.hq 0 _ 26 _ rfl rfl rfl rfl
  have hupd := hI.upd
  have ha := hI.act [(26, .agg ar7_0)] (by simp [hvr7_0]) (by kernel_rfl)
  clear hI hvr7_0
  subst ha
  simp only [List.foldl_cons, List.foldl_nil, List.setIfInBounds_toArray, List.set_cons_zero, List.set_cons_succ]
  have Bxr0y0_7 := hupd.keep Bxr0y0_6
  have Bxr0y1_7 := hupd.keep Bxr0y1_6
  have Bxr2y5_7 := hupd.keep Bxr2y5_6
  have Bxr5y5_7 := hupd.keep Bxr5y5_6
  have HU7 := hh (HU6.out.trans hupd)
  clear hupd
  refine wpOps_storeQ 1 rfl rfl rfl 47 (.tmp 7) (.tmp 26) rfl br5_5 0 48 rfl ar7_0 rfl 47 ar5_3 Bxr5y5_7.out szR6 hCr7_0.size (by rw [hCr5_3.size]; exact Nat.le_of_ble_eq_true rfl) hCr7_0.one' ?_
  intro ws7_0 hs7_0 hus7_0
  rw [splice_all _ _ 48 hCr5_3.size hCr7_0.size] at hs7_0
  have Bxr0y0_s7_0 := hus7_0.keepS Bxr0y0_7 (fun e => hner5_5_Bxr0y0_s4_0.out e.symm)
  have Bxr0y1_s7_0 := hus7_0.keepS Bxr0y1_7 (fun e => hner5_5_Bxr0y1_s4_0.out e.symm)
  have Bxr2y5_s7_0 := hus7_0.keepS Bxr2y5_7 (fun e => hner5_5_Bxr2y5_s4_0.out e.symm)
  have Bxr5y5_s7_0 := hh hs7_0
  have HU7_0 := hh (HU7.out.step hus7_0 (fun i hi h => absurd hi (Nat.not_lt.2 (h.symm ▸ hger5_5.out))))
  clear hs7_0 hus7_0
  refine wpOps_nil ?_
  refine hK7 _ _ ?_
  clear hK7
  refine wp_seq_k fun K9 hK9 => ?_
  refine wp_region_qD #[true, true, true, true, true, true, true, true, true, true] ([.val (.agg ar4_0), .val (.agg (numsA .u8 k)), .like (IsC 20 RP [some (eB.times (expo k))]), .val (.agg (numsA .u8 (encP (eB.times (expo k))))), .val (.agg (numsA .u8 k)), .val (.agg ar7_0), .like (IsC 48 RQ [some (eB.times (expo k))]), .val (.agg (numsA .u8 (encP (eB.times (expo k))))), .val (.bool true), .val (.bool true)] : List SQ) (by kernel_rfl) (by kernel_rfl) (by kernel_rfl) (by kernel_rfl) ?_ ?_
  · intro i o listed an wn ho hls hst hun hdep hI hD K' hK'
    rcases slot_cases (l := [0, 1, 2, 3, 4, 5, 6, 7, 8, 9]) rfl ho hst with rfl | rfl | rfl | rfl | rfl | rfl | rfl | rfl | rfl | rfl | ⟨⟨⟩⟩
    · obtain rfl := Option.some.inj ho
      have hvp : an.eval (.tmp 5) = ptrTo br2_5 := hI.oq (by kernel_rfl) rfl
      exact hI.pq hD hls rfl rfl rfl _ (run_loadQ rfl hvp wn (hI.upd.keepD Bxr2y5_s7_0).out Tryd.underlying41 rfl szPt (by rw [hCr4_0.size]; exact Nat.le_of_ble_eq_true rfl)) (.val (.agg ar4_0)) rfl (congrArg Value.agg (extract_all _ 20 hCr4_0.size)) rfl hK'
    · obtain rfl := Option.some.inj ho
      have hvp : an.eval (.tmp 3) = ptrTo br0_1 := hI.oq (by kernel_rfl) rfl
      exact hI.pq hD hls rfl rfl rfl _ (run_loadQ rfl hvp wn (hI.upd.keepD Bxr0y1_s7_0).out Tryd.underlying23 rfl sizeKey (by rw [numsA_size, hl]; omega)) (.val (.agg (numsA .u8 k))) rfl (congrArg Value.agg (extract_all _ 32 (by rw [numsA_size]; exact hl))) rfl hK'
    · obtain rfl := Option.some.inj ho
      obtain ⟨vp, hvp, rfl⟩ := hI.hq 0 _ 27 _ rfl rfl rfl (dp hdep 0 rfl rfl)
      obtain ⟨vq, hvq, rfl⟩ := hI.hq 1 _ 28 _ rfl rfl rfl (dp hdep 1 rfl rfl)
      exact hI.cq hD hls rfl rfl rfl 36 #[.tmp 27, .tmp 28] _ rfl #[.agg ar4_0, .agg (numsA .u8 k)] (by simp [eval_of hvp, eval_of hvq]) (run_enter Tryd.func36 (by kernel_rfl) (by kernel_rfl)) (.like (IsC 20 RP [some (eB.times (expo k))])) rfl rfl ((multiplyR _ (HT.out.upd (HU7_0.out.drew.trans hI.upd)) hCr4_0 hl hd).mono fun _ _ h => h.sq) hK'
    · obtain rfl := Option.some.inj ho
      obtain ⟨vp, hvp, ap, rfl, hCp⟩ := hI.hq 2 _ 29 _ rfl rfl rfl (dp hdep 0 rfl rfl)
      exact hI.cq hD hls rfl rfl rfl 26 #[.tmp 29] _ rfl #[.agg ap] (by simp [eval_of hvp]) (run_enter Tryd.func26 (by kernel_rfl) (by kernel_rfl)) (.val (.agg (numsA .u8 (encP (eB.times (expo k)))))) rfl rfl ((encodeR _ hCp).mono fun _ _ h => ret_val h) hK'
    · obtain rfl := Option.some.inj ho
      have hvp : an.eval (.tmp 3) = ptrTo br0_1 := hI.oq (by kernel_rfl) rfl
      exact hI.pq hD hls rfl rfl rfl _ (run_loadQ rfl hvp wn (hI.upd.keepD Bxr0y1_s7_0).out Tryd.underlying23 rfl sizeKey (by rw [numsA_size, hl]; omega)) (.val (.agg (numsA .u8 k))) rfl (congrArg Value.agg (extract_all _ 32 (by rw [numsA_size]; exact hl))) rfl hK'
    · obtain rfl := Option.some.inj ho
      have hvp : an.eval (.tmp 7) = ptrTo br5_5 := hI.oq (by kernel_rfl) rfl
      exact hI.pq hD hls rfl rfl rfl _ (run_loadQ rfl hvp wn (hI.upd.keepD Bxr5y5_s7_0).out Tryd.underlying47 rfl szR6 (by rw [hCr7_0.size]; exact Nat.le_of_ble_eq_true rfl)) (.val (.agg ar7_0)) rfl (congrArg Value.agg (extract_all _ 48 hCr7_0.size)) rfl hK'
    · obtain rfl := Option.some.inj ho
      obtain ⟨vp, hvp, rfl⟩ := hI.hq 4 _ 31 _ rfl rfl rfl (dp hdep 0 rfl rfl)
      obtain ⟨vq, hvq, rfl⟩ := hI.hq 5 _ 32 _ rfl rfl rfl (dp hdep 1 rfl rfl)
      exact hI.cq hD hls rfl rfl rfl 37 #[.tmp 31, .tmp 32] _ rfl #[.agg (numsA .u8 k), .agg ar7_0] (by simp [eval_of hvp, eval_of hvq]) (run_enter Tryd.func37 (by kernel_rfl) (by kernel_rfl)) (.like (IsC 48 RQ [some (eB.times (expo k))])) rfl rfl ((rmultQ _ hl hd hCr7_0).mono fun _ _ h => h.sq) hK'
    · obtain rfl := Option.some.inj ho
      obtain ⟨vp, hvp, ap, rfl, hCp⟩ := hI.hq 6 _ 33 _ rfl rfl rfl (dp hdep 0 rfl rfl)
      exact hI.cq hD hls rfl rfl rfl 27 #[.tmp 33] _ rfl #[.agg ap] (by simp [eval_of hvp]) (run_enter Tryd.func27 (by kernel_rfl) (by kernel_rfl)) (.val (.agg (numsA .u8 (encP (eB.times (expo k)))))) rfl rfl ((rencodeR _ hCp).mono fun _ _ h => ret_val h) hK'
    · obtain rfl := Option.some.inj ho
      obtain ⟨vp, hvp, rfl⟩ := hI.hq 3 _ 30 _ rfl rfl rfl (dp hdep 0 rfl rfl)
      obtain ⟨vq, hvq, rfl⟩ := hI.hq 7 _ 34 _ rfl rfl rfl (dp hdep 1 rfl rfl)
      exact hI.pq hD hls rfl rfl rfl _ (run_eqlK (b := true) rfl (eval_of hvp) (eval_of hvq) (encP_length _) (encP_length _) (decide_eq_true rfl) wn) (.val (.bool true)) rfl rfl rfl hK'
    · obtain rfl := Option.some.inj ho
      obtain ⟨vp, hvp, rfl⟩ := hI.hq 8 _ 35 _ rfl rfl rfl (dp hdep 0 rfl rfl)
      exact hI.pq hD hls rfl rfl rfl _ (run_moveQ (.inr rfl) (eval_of hvp) wn) (.val (.bool true)) rfl rfl rfl hK'
  intro fuel an w9 hf hI
  obtain ⟨vr8_0, hvr8_0, rfl⟩ := hI.hq 0 _ 27 _ rfl rfl rfl rfl
  obtain ⟨vr8_1, hvr8_1, rfl⟩ := hI.hq 1 _ 28 _ rfl rfl rfl rfl
  obtain ⟨vr8_2, hvr8_2, ar8_2, rfl, hCr8_2⟩ := hI.hq 2 _ 29 _ rfl rfl rfl rfl
  obtain ⟨vr8_3, hvr8_3, rfl⟩ := hI.hq 3 _ 30 _ rfl rfl rfl rfl
  obtain ⟨vr8_4, hvr8_4, rfl⟩ := hI.hq 4 _ 31 _ rfl rfl rfl rfl
  obtain ⟨vr8_5, hvr8_5, rfl⟩ := hI.hq 5 _ 32 _ rfl rfl rfl rfl
  obtain ⟨vr8_6, hvr8_6, ar8_6, rfl, hCr8_6⟩ := hI.hq 6 _ 33 _ rfl rfl rfl rfl
  obtain ⟨vr8_7, hvr8_7, rfl⟩ := hI.hq 7 _ 34 _ rfl rfl rfl rfl
  obtain ⟨vr8_8, hvr8_8, rfl⟩ := hI.hq 8 _ 35 _ rfl rfl rfl rfl
  obtain ⟨vr8_9, hvr8_9, rfl⟩ := hI.hq 9 _ 4 _ rfl rfl rfl rfl
  have hupd := hI.upd
  have ha := hI.act [(27, .agg ar4_0), (28, .agg (numsA .u8 k)), (29, .agg ar8_2), (30, .agg (numsA .u8 (encP (eB.times (expo k))))), (31, .agg (numsA .u8 k)), (32, .agg ar7_0), (33, .agg ar8_6), (34, .agg (numsA .u8 (encP (eB.times (expo k))))), (35, .bool true), (4, .bool true)] (by simp [hvr8_0, hvr8_1, hvr8_2, hvr8_3, hvr8_4, hvr8_5, hvr8_6, hvr8_7, hvr8_8, hvr8_9]) (by kernel_rfl)
  clear hI hvr8_0 hvr8_1 hvr8_2 hvr8_3 hvr8_4 hvr8_5 hvr8_6 hvr8_7 hvr8_8 hvr8_9
  subst ha
  simp only [List.foldl_cons, List.foldl_nil, List.setIfInBounds_toArray, List.set_cons_zero, List.set_cons_succ]
  have Bxr0y0_8 := hupd.keepD Bxr0y0_s7_0
  have Bxr0y1_8 := hupd.keepD Bxr0y1_s7_0
  have Bxr2y5_8 := hupd.keepD Bxr2y5_s7_0
  have Bxr5y5_8 := hupd.keepD Bxr5y5_s7_0
  have HU8 := hh (HU7_0.out.drew.trans hupd)
  clear hupd
  refine wpAny_done (by kernel_rfl) ?_ _
  refine hK9 _ _ ?_
  clear hK9
  refine wp_ret ?_
  try dsimp only [Exit.then]
  try dsimp only [Exit.inBlock]
  exact bodyPost_ret (v := .bool true) (results_tmpQ (fn := Tryd.f10) (t := 4) rfl _ _ (.bool true) rfl) rfl ⟨rfl, HU8.out⟩
set_option maxHeartbeats 4000000 in
theorem ptimesT {a k : List Int} {eP : EP} (w : World) (hT : Tw w) (ha : a.length = 32) (da : Digs 256 a) (hl : k.length = 32) (hd : Digs 256 k) (hk : encP eP = a) :
    Calls Tryd.prog 10 #[.agg (numsA .u8 a), .agg (numsA .u8 k)] w fun e w' => e = .returned (.bool true) ∧ Upd (fun _ => False) w w' := by
  have HT := hh hT
  clear hT
  have HU := hh (Upd.refl (fun _ => False) w)
  go_enter Tryd.func10, Tryd.ntmps10
  refine wp_seq_k fun K0 hK0 => ?_
  refine wp_region_qSD 3 #[true, true, true] [] ([.blk ptrTo 23 (fun z => z = numsA .u8 a), .blk ptrTo 23 (fun z => z = numsA .u8 k), .val (.bool false)] : List SQ) (by kernel_rfl) (by kernel_rfl) (by kernel_rfl) (by kernel_rfl) ?_ ?_
  · intro i o listed an wn ho hls hst hun hdep hI hD hpre K' hK'
    rcases slot_cases (l := [0, 1, 2]) rfl ho hst with rfl | rfl | rfl | ⟨⟨⟩⟩
    · obtain rfl := Option.some.inj ho
      have hvp : an.eval (.tmp 0) = .agg (numsA .u8 a) := hI.oq (by kernel_rfl) rfl
      exact hI.newQ hD hls (Nat.le_refl _) (newsQ_spec (l := [0, 1]) (by kernel_rfl) ⟨⟨_, _, rfl⟩, ⟨_, _, rfl⟩, trivial⟩) rfl rfl rfl 23 _ (fun z => z = numsA .u8 a) (run_boxQ rfl hvp wn) rfl rfl hK'
    · obtain rfl := Option.some.inj ho
      have hvp : an.eval (.tmp 1) = .agg (numsA .u8 k) := hI.oq (by kernel_rfl) rfl
      exact hI.newQ hD hls (Nat.le_refl _) (newsQ_spec (l := [0, 1]) (by kernel_rfl) ⟨⟨_, _, rfl⟩, ⟨_, _, rfl⟩, trivial⟩) rfl rfl rfl 23 _ (fun z => z = numsA .u8 k) (run_boxQ rfl hvp wn) rfl rfl hK'
    · obtain rfl := Option.some.inj ho
      exact hI.pq hD hls rfl rfl rfl _ (run_moveQ (.inr rfl) (show an.eval (.const (.bool false)) = .bool false from rfl) wn) (.val (.bool false)) rfl rfl rfl hK'
  intro an w1 hI
  obtain ⟨vr0_0, hvr0_0, br0_0, zr0_0, rfl, hnr0_0, hbr0_0, hzr0_0⟩ := hI.hq 0 _ 2 _ rfl rfl rfl rfl
  rw [hzr0_0] at hbr0_0
  clear hzr0_0
  obtain ⟨vr0_1, hvr0_1, br0_1, zr0_1, rfl, hnr0_1, hbr0_1, hzr0_1⟩ := hI.hq 1 _ 3 _ rfl rfl rfl rfl
  rw [hzr0_1] at hbr0_1
  clear hzr0_1
  obtain ⟨vr0_2, hvr0_2, rfl⟩ := hI.hq 2 _ 4 _ rfl rfl rfl rfl
  have hupd := hI.upd
  have hner0_0_r0_1 := hh (show br0_0 ≠ br0_1 from fun e => hI.apart 0 1 _ _ 2 3 (by omega) rfl rfl rfl rfl rfl rfl rfl rfl (by rw [hvr0_0, hvr0_1, e]))
  have ha := hI.act [(2, ptrTo br0_0), (3, ptrTo br0_1), (4, .bool false)] (by simp [hvr0_0, hvr0_1, hvr0_2]) (by kernel_rfl)
  clear hI hvr0_0 hvr0_1 hvr0_2
  subst ha
  simp only [List.foldl_cons, List.foldl_nil, List.setIfInBounds_toArray, List.set_cons_zero, List.set_cons_succ]
  have hger0_0 := geB HU hnr0_0
  have hger0_1 := geB HU hnr0_1
  have Bxr0y0 := hh hbr0_0
  have Bxr0y1 := hh hbr0_1
  have HU0 := hh (HU.out.trans hupd)
  clear hupd
  refine wpOps_nil ?_
  refine hK0 _ _ ?_
  clear hK0
  refine wp_seq_k fun K1 hK1 => ?_
  refine wp_seq_k fun K2 hK2 => ?_
  refine wp_region_qSD 2 #[true, true] [] ([.val (.bool true), .val (.bool false)] : List SQ) (by kernel_rfl) (by kernel_rfl) (by kernel_rfl) (by kernel_rfl) ?_ ?_
  · intro i o listed an wn ho hls hst hun hdep hI hD hpre K' hK'
    rcases slot_cases (l := [0, 1]) rfl ho hst with rfl | rfl | ⟨⟨⟩⟩
    · obtain rfl := Option.some.inj ho
      exact hI.cq hD hls rfl rfl rfl 23 #[] _ rfl #[] (by simp) (run_enter Tryd.func23 (by kernel_rfl) (by kernel_rfl)) (.val (.bool true)) rfl rfl ((basedL _ (HT.out.upd (HU0.out.trans hI.upd))).mono fun _ _ h => ret_val h) hK'
    · obtain rfl := Option.some.inj ho
      obtain ⟨vp, hvp, rfl⟩ := hI.hq 0 _ 9 _ rfl rfl rfl (dp hdep 0 rfl rfl)
      exact hI.pq hD hls rfl rfl rfl _ (run_not rfl (eval_of hvp) wn) (.val (.bool false)) rfl rfl rfl hK'
  intro an w2 hI
  obtain ⟨vr1_0, hvr1_0, rfl⟩ := hI.hq 0 _ 9 _ rfl rfl rfl rfl
  obtain ⟨vr1_1, hvr1_1, rfl⟩ := hI.hq 1 _ 10 _ rfl rfl rfl rfl
  have hupd := hI.upd
  have ha := hI.act [(9, .bool true), (10, .bool false)] (by simp [hvr1_0, hvr1_1]) (by kernel_rfl)
  clear hI hvr1_0 hvr1_1
  subst ha
  simp only [List.foldl_cons, List.foldl_nil, List.setIfInBounds_toArray, List.set_cons_zero, List.set_cons_succ]
  have Bxr0y0_1 := hupd.keep Bxr0y0
  have Bxr0y1_1 := hupd.keep Bxr0y1
  have HU1 := hh (HU0.out.trans hupd)
  clear hupd
  refine wpOps_nil ?_
  refine hK2 _ _ ?_
  clear hK2
  refine wp_cond_false rfl ?_
  refine wp_skip ?_
  refine hK1 _ _ ?_
  clear hK1
  refine wp_seq_k fun K3 hK3 => ?_
  refine wp_region_qSD 6 #[true, true, true, true, true, true, false, false] [6, 7] ([.val (.agg (numsA .u8 a)), .like (IsCV 20 RP [some eP] (.int .i64 0)), .like (IsCV 20 RP [some eP] (.int .i64 0)), .like (IsC 20 RP [some eP]), .val (.int .i64 0), .blk ptrTo 41 (Ch 20 RP [none]), .val undef, .val undef] : List SQ) (by kernel_rfl) (by kernel_rfl) (by kernel_rfl) (by kernel_rfl) ?_ ?_
  · intro i o listed an wn ho hls hst hun hdep hI hD hpre K' hK'
    rcases slot_cases (l := [0, 1, 2, 3, 4, 5]) rfl ho hst with rfl | rfl | rfl | rfl | rfl | rfl | ⟨⟨⟩⟩
    · obtain rfl := Option.some.inj ho
      have hvp : an.eval (.tmp 2) = ptrTo br0_0 := hI.oq (by kernel_rfl) rfl
      exact hI.pq hD hls rfl rfl rfl _ (run_loadQ rfl hvp wn (hI.upd.keep Bxr0y0_1).out Tryd.underlying23 rfl sizeKey (by rw [numsA_size, ha]; omega)) (.val (.agg (numsA .u8 a))) rfl (congrArg Value.agg (extract_all _ 32 (by rw [numsA_size]; exact ha))) rfl hK'
    · obtain rfl := Option.some.inj ho
      obtain ⟨vp, hvp, rfl⟩ := hI.hq 0 _ 12 _ rfl rfl rfl (dp hdep 0 rfl rfl)
      exact hI.cq hD hls rfl rfl rfl 24 #[.tmp 12] _ rfl #[.agg (numsA .u8 a)] (by simp [eval_of hvp]) (run_enter Tryd.func24 (by kernel_rfl) (by kernel_rfl)) (.like (IsCV 20 RP [some eP] (.int .i64 0))) rfl rfl ((decodeT _ (HT.out.upd (HU1.out.trans hI.upd)) ha da hk).mono fun _ _ h => h.sq) hK'
    · obtain rfl := Option.some.inj ho
      obtain ⟨vp, hvp, ap, rfl, hCp⟩ := hI.hq 1 _ 13 _ rfl rfl rfl (dp hdep 0 rfl rfl)
      exact hI.pq hD hls rfl rfl rfl _ (run_moveQ (.inl rfl) (eval_of hvp) wn) (.like (IsCV 20 RP [some eP] (.int .i64 0))) rfl ⟨_, rfl, hCp⟩ rfl hK'
    · obtain rfl := Option.some.inj ho
      obtain ⟨vp, hvp, ap, rfl, hCp⟩ := hI.hq 2 _ 11 _ rfl rfl rfl (dp hdep 0 rfl rfl)
      exact hI.pq hD hls rfl rfl rfl _ (run_extractQ rfl (eval_of hvp) rfl wn) (.like (IsC 20 RP [some eP])) rfl ⟨_, rfl, hCp⟩ rfl hK'
    · obtain rfl := Option.some.inj ho
      obtain ⟨vp, hvp, ap, rfl, hCp⟩ := hI.hq 2 _ 11 _ rfl rfl rfl (dp hdep 0 rfl rfl)
      exact hI.pq hD hls rfl rfl rfl _ (run_extractQ rfl (eval_of hvp) rfl wn) (.val (.int .i64 0)) rfl rfl rfl hK'
    · obtain rfl := Option.some.inj ho
      exact hI.newQ hD hls (Nat.le_refl _) (newsQ_spec (l := [5]) (by kernel_rfl) ⟨⟨_, _, rfl⟩, trivial⟩) rfl rfl rfl 41 zPt _ (run_allocQ rfl zPt_run wn) rfl zPt_p hK'
  intro an w3 hI
  obtain ⟨vr2_0, hvr2_0, rfl⟩ := hI.hq 0 _ 12 _ rfl rfl rfl rfl
  obtain ⟨vr2_1, hvr2_1, ar2_1, rfl, hCr2_1⟩ := hI.hq 1 _ 13 _ rfl rfl rfl rfl
  obtain ⟨vr2_2, hvr2_2, ar2_2, rfl, hCr2_2⟩ := hI.hq 2 _ 11 _ rfl rfl rfl rfl
  obtain ⟨vr2_3, hvr2_3, ar2_3, rfl, hCr2_3⟩ := hI.hq 3 _ 14 _ rfl rfl rfl rfl
  obtain ⟨vr2_4, hvr2_4, rfl⟩ := hI.hq 4 _ 15 _ rfl rfl rfl rfl
  obtain ⟨vr2_5, hvr2_5, br2_5, zr2_5, rfl, hnr2_5, hbr2_5, hzr2_5⟩ := hI.hq 5 _ 5 _ rfl rfl rfl rfl
  have hupd := hI.upd
  have ha := hI.act [(12, .agg (numsA .u8 a)), (13, .tuple #[.agg ar2_1, .int .i64 0]), (11, .tuple #[.agg ar2_2, .int .i64 0]), (14, .agg ar2_3), (15, .int .i64 0), (5, ptrTo br2_5)] (by simp [hvr2_0, hvr2_1, hvr2_2, hvr2_3, hvr2_4, hvr2_5]) (by kernel_rfl)
  clear hI hvr2_0 hvr2_1 hvr2_2 hvr2_3 hvr2_4 hvr2_5
  subst ha
  simp only [List.foldl_cons, List.foldl_nil, List.setIfInBounds_toArray, List.set_cons_zero, List.set_cons_succ]
  have hner2_5_Bxr0y0_1 := apartB Bxr0y0_1 hnr2_5
  have hner2_5_Bxr0y1_1 := apartB Bxr0y1_1 hnr2_5
  have hger2_5 := geB HU1 hnr2_5
  have Bxr0y0_2 := hupd.keep Bxr0y0_1
  have Bxr0y1_2 := hupd.keep Bxr0y1_1
  have Bxr2y5 := hh hbr2_5
  have HU2 := hh (HU1.out.trans hupd)
  clear hupd
  refine wpOps_storeQ 6 rfl rfl rfl 41 (.tmp 5) (.tmp 14) rfl br2_5 0 20 rfl ar2_3 rfl 41 zr2_5 Bxr2y5.out szPt hCr2_3.size (by rw [hzr2_5.size]; exact Nat.le_of_ble_eq_true rfl) hCr2_3.one' ?_
  intro ws2_0 hs2_0 hus2_0
  rw [splice_all _ _ 20 hzr2_5.size hCr2_3.size] at hs2_0
  have Bxr0y0_s2_0 := hus2_0.keepS Bxr0y0_2 (fun e => hner2_5_Bxr0y0_1.out e.symm)
  have Bxr0y1_s2_0 := hus2_0.keepS Bxr0y1_2 (fun e => hner2_5_Bxr0y1_1.out e.symm)
  have Bxr2y5_s2_0 := hh hs2_0
  have HU2_0 := hh (HU2.out.step hus2_0 (fun i hi h => absurd hi (Nat.not_lt.2 (h.symm ▸ hger2_5.out))))
  clear hs2_0 hus2_0
  refine wpOps_pureQ 7 rfl rfl 6 rfl (.int .i64 0) (run_moveQ (x := .tmp 15) (v := .int .i64 0) (.inr rfl) rfl _) ?_
  simp only [List.setIfInBounds_toArray, List.set_cons_zero, List.set_cons_succ]
  refine wpOps_nil ?_
  refine hK3 _ _ ?_
  clear hK3
  refine wp_seq_k fun K4 hK4 => ?_
  refine wp_seq_k fun K5 hK5 => ?_
  refine wp_region_qSD 2 #[true, true] [] ([.val (.int .i64 0), .val (.bool false)] : List SQ) (by kernel_rfl) (by kernel_rfl) (by kernel_rfl) (by kernel_rfl) ?_ ?_
  · intro i o listed an wn ho hls hst hun hdep hI hD hpre K' hK'
    rcases slot_cases (l := [0, 1]) rfl ho hst with rfl | rfl | ⟨⟨⟩⟩
    · obtain rfl := Option.some.inj ho
      have hvp : an.eval (.tmp 6) = .int .i64 0 := hI.oq (by kernel_rfl) rfl
      exact hI.pq hD hls rfl rfl rfl _ (run_moveQ (.inl rfl) hvp wn) (.val (.int .i64 0)) rfl rfl rfl hK'
    · obtain rfl := Option.some.inj ho
      obtain ⟨vp, hvp, rfl⟩ := hI.hq 0 _ 16 _ rfl rfl rfl (dp hdep 0 rfl rfl)
      exact hI.pq hD hls rfl rfl rfl _ (run_neq rfl (eval_of hvp) rfl (ne_of_eqB (show decide ((0 : Int) = 0) = true by decide)) wn) (.val (.bool false)) rfl rfl rfl hK'
  intro an w4 hI
  obtain ⟨vr3_0, hvr3_0, rfl⟩ := hI.hq 0 _ 16 _ rfl rfl rfl rfl
  obtain ⟨vr3_1, hvr3_1, rfl⟩ := hI.hq 1 _ 17 _ rfl rfl rfl rfl
  have hupd := hI.upd
  have ha := hI.act [(16, .int .i64 0), (17, .bool false)] (by simp [hvr3_0, hvr3_1]) (by kernel_rfl)
  clear hI hvr3_0 hvr3_1
  subst ha
  simp only [List.foldl_cons, List.foldl_nil, List.setIfInBounds_toArray, List.set_cons_zero, List.set_cons_succ]
  have Bxr0y0_3 := hupd.keep Bxr0y0_s2_0
  have Bxr0y1_3 := hupd.keep Bxr0y1_s2_0
  have Bxr2y5_3 := hupd.keep Bxr2y5_s2_0
  have HU3 := hh (HU2_0.out.trans hupd)
  clear hupd
  refine wpOps_nil ?_
  refine hK5 _ _ ?_
  clear hK5
  refine wp_cond_false rfl ?_
  refine wp_skip ?_
  refine hK4 _ _ ?_
  clear hK4
  refine wp_seq_k fun K6 hK6 => ?_
  refine wp_region_qSD 6 #[true, true, true, true, true, true, false, false] [6, 7] ([.val (.agg (numsA .u8 a)), .like (IsCV 48 RQ [some eP] (.int .i64 0)), .like (IsCV 48 RQ [some eP] (.int .i64 0)), .like (IsC 48 RQ [some eP]), .val (.int .i64 0), .blk ptrTo 47 (Ch 48 RQ [none]), .val undef, .val undef] : List SQ) (by kernel_rfl) (by kernel_rfl) (by kernel_rfl) (by kernel_rfl) ?_ ?_
  · intro i o listed an wn ho hls hst hun hdep hI hD hpre K' hK'
    rcases slot_cases (l := [0, 1, 2, 3, 4, 5]) rfl ho hst with rfl | rfl | rfl | rfl | rfl | rfl | ⟨⟨⟩⟩
    · obtain rfl := Option.some.inj ho
      have hvp : an.eval (.tmp 2) = ptrTo br0_0 := hI.oq (by kernel_rfl) rfl
      exact hI.pq hD hls rfl rfl rfl _ (run_loadQ rfl hvp wn (hI.upd.keep Bxr0y0_3).out Tryd.underlying23 rfl sizeKey (by rw [numsA_size, ha]; omega)) (.val (.agg (numsA .u8 a))) rfl (congrArg Value.agg (extract_all _ 32 (by rw [numsA_size]; exact ha))) rfl hK'
    · obtain rfl := Option.some.inj ho
      obtain ⟨vp, hvp, rfl⟩ := hI.hq 0 _ 20 _ rfl rfl rfl (dp hdep 0 rfl rfl)
      exact hI.cq hD hls rfl rfl rfl 25 #[.tmp 20] _ rfl #[.agg (numsA .u8 a)] (by simp [eval_of hvp]) (run_enter Tryd.func25 (by kernel_rfl) (by kernel_rfl)) (.like (IsCV 48 RQ [some eP] (.int .i64 0))) rfl rfl ((rdecodeT _ ha da hk).mono fun _ _ h => h.sq) hK'
    · obtain rfl := Option.some.inj ho
      obtain ⟨vp, hvp, ap, rfl, hCp⟩ := hI.hq 1 _ 21 _ rfl rfl rfl (dp hdep 0 rfl rfl)
      exact hI.pq hD hls rfl rfl rfl _ (run_moveQ (.inl rfl) (eval_of hvp) wn) (.like (IsCV 48 RQ [some eP] (.int .i64 0))) rfl ⟨_, rfl, hCp⟩ rfl hK'
    · obtain rfl := Option.some.inj ho
      obtain ⟨vp, hvp, ap, rfl, hCp⟩ := hI.hq 2 _ 19 _ rfl rfl rfl (dp hdep 0 rfl rfl)
      exact hI.pq hD hls rfl rfl rfl _ (run_extractQ rfl (eval_of hvp) rfl wn) (.like (IsC 48 RQ [some eP])) rfl ⟨_, rfl, hCp⟩ rfl hK'
    · obtain rfl := Option.some.inj ho
      obtain ⟨vp, hvp, ap, rfl, hCp⟩ := hI.hq 2 _ 19 _ rfl rfl rfl (dp hdep 0 rfl rfl)
      exact hI.pq hD hls rfl rfl rfl _ (run_extractQ rfl (eval_of hvp) rfl wn) (.val (.int .i64 0)) rfl rfl rfl hK'
    · obtain rfl := Option.some.inj ho
      exact hI.newQ hD hls (Nat.le_refl _) (newsQ_spec (l := [5]) (by kernel_rfl) ⟨⟨_, _, rfl⟩, trivial⟩) rfl rfl rfl 47 zR6 _ (run_allocQ rfl zR6_run wn) rfl zR6_q hK'
  intro an w5 hI
  obtain ⟨vr4_0, hvr4_0, rfl⟩ := hI.hq 0 _ 20 _ rfl rfl rfl rfl
  obtain ⟨vr4_1, hvr4_1, ar4_1, rfl, hCr4_1⟩ := hI.hq 1 _ 21 _ rfl rfl rfl rfl
  obtain ⟨vr4_2, hvr4_2, ar4_2, rfl, hCr4_2⟩ := hI.hq 2 _ 19 _ rfl rfl rfl rfl
  obtain ⟨vr4_3, hvr4_3, ar4_3, rfl, hCr4_3⟩ := hI.hq 3 _ 22 _ rfl rfl rfl rfl
  obtain ⟨vr4_4, hvr4_4, rfl⟩ := hI.hq 4 _ 23 _ rfl rfl rfl rfl
  obtain ⟨vr4_5, hvr4_5, br4_5, zr4_5, rfl, hnr4_5, hbr4_5, hzr4_5⟩ := hI.hq 5 _ 7 _ rfl rfl rfl rfl
  have hupd := hI.upd
  have ha := hI.act [(20, .agg (numsA .u8 a)), (21, .tuple #[.agg ar4_1, .int .i64 0]), (19, .tuple #[.agg ar4_2, .int .i64 0]), (22, .agg ar4_3), (23, .int .i64 0), (7, ptrTo br4_5)] (by simp [hvr4_0, hvr4_1, hvr4_2, hvr4_3, hvr4_4, hvr4_5]) (by kernel_rfl)
  clear hI hvr4_0 hvr4_1 hvr4_2 hvr4_3 hvr4_4 hvr4_5
  subst ha
  simp only [List.foldl_cons, List.foldl_nil, List.setIfInBounds_toArray, List.set_cons_zero, List.set_cons_succ]
  have hner4_5_Bxr0y0_3 := apartB Bxr0y0_3 hnr4_5
  have hner4_5_Bxr0y1_3 := apartB Bxr0y1_3 hnr4_5
  have hner4_5_Bxr2y5_3 := apartB Bxr2y5_3 hnr4_5
  have hger4_5 := geB HU3 hnr4_5
  have Bxr0y0_4 := hupd.keep Bxr0y0_3
  have Bxr0y1_4 := hupd.keep Bxr0y1_3
  have Bxr2y5_4 := hupd.keep Bxr2y5_3
  have Bxr4y5 := hh hbr4_5
  have HU4 := hh (HU3.out.trans hupd)
  clear hupd
  refine wpOps_storeQ 6 rfl rfl rfl 47 (.tmp 7) (.tmp 22) rfl br4_5 0 48 rfl ar4_3 rfl 47 zr4_5 Bxr4y5.out szR6 hCr4_3.size (by rw [hzr4_5.size]; exact Nat.le_of_ble_eq_true rfl) hCr4_3.one' ?_
  intro ws4_0 hs4_0 hus4_0
  rw [splice_all _ _ 48 hzr4_5.size hCr4_3.size] at hs4_0
  have Bxr0y0_s4_0 := hus4_0.keepS Bxr0y0_4 (fun e => hner4_5_Bxr0y0_3.out e.symm)
  have Bxr0y1_s4_0 := hus4_0.keepS Bxr0y1_4 (fun e => hner4_5_Bxr0y1_3.out e.symm)
  have Bxr2y5_s4_0 := hus4_0.keepS Bxr2y5_4 (fun e => hner4_5_Bxr2y5_3.out e.symm)
  have Bxr4y5_s4_0 := hh hs4_0
  have HU4_0 := hh (HU4.out.step hus4_0 (fun i hi h => absurd hi (Nat.not_lt.2 (h.symm ▸ hger4_5.out))))
  clear hs4_0 hus4_0
  refine wpOps_pureQ 7 rfl rfl 8 rfl (.int .i64 0) (run_moveQ (x := .tmp 23) (v := .int .i64 0) (.inr rfl) rfl _) ?_
  simp only [List.setIfInBounds_toArray, List.set_cons_zero, List.set_cons_succ]
  refine wpOps_nil ?_
  refine hK6 _ _ ?_
  clear hK6
  refine wp_seq_k fun K7 hK7 => ?_
  refine wp_seq_k fun K8 hK8 => ?_
  refine wp_region_qSD 2 #[true, true] [] ([.val (.int .i64 0), .val (.bool false)] : List SQ) (by kernel_rfl) (by kernel_rfl) (by kernel_rfl) (by kernel_rfl) ?_ ?_
  · intro i o listed an wn ho hls hst hun hdep hI hD hpre K' hK'
    rcases slot_cases (l := [0, 1]) rfl ho hst with rfl | rfl | ⟨⟨⟩⟩
    · obtain rfl := Option.some.inj ho
      have hvp : an.eval (.tmp 8) = .int .i64 0 := hI.oq (by kernel_rfl) rfl
      exact hI.pq hD hls rfl rfl rfl _ (run_moveQ (.inl rfl) hvp wn) (.val (.int .i64 0)) rfl rfl rfl hK'
    · obtain rfl := Option.some.inj ho
      obtain ⟨vp, hvp, rfl⟩ := hI.hq 0 _ 24 _ rfl rfl rfl (dp hdep 0 rfl rfl)
      exact hI.pq hD hls rfl rfl rfl _ (run_neq rfl (eval_of hvp) rfl (ne_of_eqB (show decide ((0 : Int) = 0) = true by decide)) wn) (.val (.bool false)) rfl rfl rfl hK'
  intro an w6 hI
  obtain ⟨vr5_0, hvr5_0, rfl⟩ := hI.hq 0 _ 24 _ rfl rfl rfl rfl
  obtain ⟨vr5_1, hvr5_1, rfl⟩ := hI.hq 1 _ 25 _ rfl rfl rfl rfl
  have hupd := hI.upd
  have ha := hI.act [(24, .int .i64 0), (25, .bool false)] (by simp [hvr5_0, hvr5_1]) (by kernel_rfl)
  clear hI hvr5_0 hvr5_1
  subst ha
  simp only [List.foldl_cons, List.foldl_nil, List.setIfInBounds_toArray, List.set_cons_zero, List.set_cons_succ]
  have Bxr0y0_5 := hupd.keep Bxr0y0_s4_0
  have Bxr0y1_5 := hupd.keep Bxr0y1_s4_0
  have Bxr2y5_5 := hupd.keep Bxr2y5_s4_0
  have Bxr4y5_5 := hupd.keep Bxr4y5_s4_0
  have HU5 := hh (HU4_0.out.trans hupd)
  clear hupd
  refine wpOps_nil ?_
  refine hK8 _ _ ?_
  clear hK8
  refine wp_cond_false rfl ?_
  refine wp_skip ?_
  refine hK7 _ _ ?_
  clear hK7
  refine wp_seq_k fun K9 hK9 => ?_
  refine wp_region_qD #[true, true, true, true, true, true, true, true, true, true] ([.val (.agg ar2_3), .val (.agg (numsA .u8 k)), .like (IsC 20 RP [some (eP.times (expo k))]), .val (.agg (numsA .u8 (encP (eP.times (expo k))))), .val (.agg (numsA .u8 k)), .val (.agg ar4_3), .like (IsC 48 RQ [some (eP.times (expo k))]), .val (.agg (numsA .u8 (encP (eP.times (expo k))))), .val (.bool true), .val (.bool true)] : List SQ) (by kernel_rfl) (by kernel_rfl) (by kernel_rfl) (by kernel_rfl) ?_ ?_
  · intro i o listed an wn ho hls hst hun hdep hI hD K' hK'
    rcases slot_cases (l := [0, 1, 2, 3, 4, 5, 6, 7, 8, 9]) rfl ho hst with rfl | rfl | rfl | rfl | rfl | rfl | rfl | rfl | rfl | rfl | ⟨⟨⟩⟩
    · obtain rfl := Option.some.inj ho
      have hvp : an.eval (.tmp 5) = ptrTo br2_5 := hI.oq (by kernel_rfl) rfl
      exact hI.pq hD hls rfl rfl rfl _ (run_loadQ rfl hvp wn (hI.upd.keepD Bxr2y5_5).out Tryd.underlying41 rfl szPt (by rw [hCr2_3.size]; exact Nat.le_of_ble_eq_true rfl)) (.val (.agg ar2_3)) rfl (congrArg Value.agg (extract_all _ 20 hCr2_3.size)) rfl hK'
    · obtain rfl := Option.some.inj ho
      have hvp : an.eval (.tmp 3) = ptrTo br0_1 := hI.oq (by kernel_rfl) rfl
      exact hI.pq hD hls rfl rfl rfl _ (run_loadQ rfl hvp wn (hI.upd.keepD Bxr0y1_5).out Tryd.underlying23 rfl sizeKey (by rw [numsA_size, hl]; omega)) (.val (.agg (numsA .u8 k))) rfl (congrArg Value.agg (extract_all _ 32 (by rw [numsA_size]; exact hl))) rfl hK'
    · obtain rfl := Option.some.inj ho
      obtain ⟨vp, hvp, rfl⟩ := hI.hq 0 _ 27 _ rfl rfl rfl (dp hdep 0 rfl rfl)
      obtain ⟨vq, hvq, rfl⟩ := hI.hq 1 _ 28 _ rfl rfl rfl (dp hdep 1 rfl rfl)
      exact hI.cq hD hls rfl rfl rfl 36 #[.tmp 27, .tmp 28] _ rfl #[.agg ar2_3, .agg (numsA .u8 k)] (by simp [eval_of hvp, eval_of hvq]) (run_enter Tryd.func36 (by kernel_rfl) (by kernel_rfl)) (.like (IsC 20 RP [some (eP.times (expo k))])) rfl rfl ((multiplyR _ (HT.out.upd (HU5.out.drew.trans hI.upd)) hCr2_3 hl hd).mono fun _ _ h => h.sq) hK'
    · obtain rfl := Option.some.inj ho
      obtain ⟨vp, hvp, ap, rfl, hCp⟩ := hI.hq 2 _ 29 _ rfl rfl rfl (dp hdep 0 rfl rfl)
      exact hI.cq hD hls rfl rfl rfl 26 #[.tmp 29] _ rfl #[.agg ap] (by simp [eval_of hvp]) (run_enter Tryd.func26 (by kernel_rfl) (by kernel_rfl)) (.val (.agg (numsA .u8 (encP (eP.times (expo k)))))) rfl rfl ((encodeR _ hCp).mono fun _ _ h => ret_val h) hK'
    · obtain rfl := Option.some.inj ho
      have hvp : an.eval (.tmp 3) = ptrTo br0_1 := hI.oq (by kernel_rfl) rfl
      exact hI.pq hD hls rfl rfl rfl _ (run_loadQ rfl hvp wn (hI.upd.keepD Bxr0y1_5).out Tryd.underlying23 rfl sizeKey (by rw [numsA_size, hl]; omega)) (.val (.agg (numsA .u8 k))) rfl (congrArg Value.agg (extract_all _ 32 (by rw [numsA_size]; exact hl))) rfl hK'
    · obtain rfl := Option.some.inj ho
      have hvp : an.eval (.tmp 7) = ptrTo br4_5 := hI.oq (by kernel_rfl) rfl
      exact hI.pq hD hls rfl rfl rfl _ (run_loadQ rfl hvp wn (hI.upd.keepD Bxr4y5_5).out Tryd.underlying47 rfl szR6 (by rw [hCr4_3.size]; exact Nat.le_of_ble_eq_true rfl)) (.val (.agg ar4_3)) rfl (congrArg Value.agg (extract_all _ 48 hCr4_3.size)) rfl hK'
    · obtain rfl := Option.some.inj ho
      obtain ⟨vp, hvp, rfl⟩ := hI.hq 4 _ 31 _ rfl rfl rfl (dp hdep 0 rfl rfl)
      obtain ⟨vq, hvq, rfl⟩ := hI.hq 5 _ 32 _ rfl rfl rfl (dp hdep 1 rfl rfl)
      exact hI.cq hD hls rfl rfl rfl 37 #[.tmp 31, .tmp 32] _ rfl #[.agg (numsA .u8 k), .agg ar4_3] (by simp [eval_of hvp, eval_of hvq]) (run_enter Tryd.func37 (by kernel_rfl) (by kernel_rfl)) (.like (IsC 48 RQ [some (eP.times (expo k))])) rfl rfl ((rmultQ _ hl hd hCr4_3).mono fun _ _ h => h.sq) hK'
    · obtain rfl := Option.some.inj ho
      obtain ⟨vp, hvp, ap, rfl, hCp⟩ := hI.hq 6 _ 33 _ rfl rfl rfl (dp hdep 0 rfl rfl)
      exact hI.cq hD hls rfl rfl rfl 27 #[.tmp 33] _ rfl #[.agg ap] (by simp [eval_of hvp]) (run_enter Tryd.func27 (by kernel_rfl) (by kernel_rfl)) (.val (.agg (numsA .u8 (encP (eP.times (expo k)))))) rfl rfl ((rencodeR _ hCp).mono fun _ _ h => ret_val h) hK'
    · obtain rfl := Option.some.inj ho
      obtain ⟨vp, hvp, rfl⟩ := hI.hq 3 _ 30 _ rfl rfl rfl (dp hdep 0 rfl rfl)
      obtain ⟨vq, hvq, rfl⟩ := hI.hq 7 _ 34 _ rfl rfl rfl (dp hdep 1 rfl rfl)
      exact hI.pq hD hls rfl rfl rfl _ (run_eqlK (b := true) rfl (eval_of hvp) (eval_of hvq) (encP_length _) (encP_length _) (decide_eq_true rfl) wn) (.val (.bool true)) rfl rfl rfl hK'
    · obtain rfl := Option.some.inj ho
      obtain ⟨vp, hvp, rfl⟩ := hI.hq 8 _ 35 _ rfl rfl rfl (dp hdep 0 rfl rfl)
      exact hI.pq hD hls rfl rfl rfl _ (run_moveQ (.inr rfl) (eval_of hvp) wn) (.val (.bool true)) rfl rfl rfl hK'
  intro fuel an w7 hf hI
  obtain ⟨vr6_0, hvr6_0, rfl⟩ := hI.hq 0 _ 27 _ rfl rfl rfl rfl
  obtain ⟨vr6_1, hvr6_1, rfl⟩ := hI.hq 1 _ 28 _ rfl rfl rfl rfl
  obtain ⟨vr6_2, hvr6_2, ar6_2, rfl, hCr6_2⟩ := hI.hq 2 _ 29 _ rfl rfl rfl rfl
  obtain ⟨vr6_3, hvr6_3, rfl⟩ := hI.hq 3 _ 30 _ rfl rfl rfl rfl
  obtain ⟨vr6_4, hvr6_4, rfl⟩ := hI.hq 4 _ 31 _ rfl rfl rfl rfl
  obtain ⟨vr6_5, hvr6_5, rfl⟩ := hI.hq 5 _ 32 _ rfl rfl rfl rfl
  obtain ⟨vr6_6, hvr6_6, ar6_6, rfl, hCr6_6⟩ := hI.hq 6 _ 33 _ rfl rfl rfl rfl
  obtain ⟨vr6_7, hvr6_7, rfl⟩ := hI.hq 7 _ 34 _ rfl rfl rfl rfl
  obtain ⟨vr6_8, hvr6_8, rfl⟩ := hI.hq 8 _ 35 _ rfl rfl rfl rfl
  obtain ⟨vr6_9, hvr6_9, rfl⟩ := hI.hq 9 _ 4 _ rfl rfl rfl rfl
  have hupd := hI.upd
  have ha := hI.act [(27, .agg ar2_3), (28, .agg (numsA .u8 k)), (29, .agg ar6_2), (30, .agg (numsA .u8 (encP (eP.times (expo k))))), (31, .agg (numsA .u8 k)), (32, .agg ar4_3), (33, .agg ar6_6), (34, .agg (numsA .u8 (encP (eP.times (expo k))))), (35, .bool true), (4, .bool true)] (by simp [hvr6_0, hvr6_1, hvr6_2, hvr6_3, hvr6_4, hvr6_5, hvr6_6, hvr6_7, hvr6_8, hvr6_9]) (by kernel_rfl)
  clear hI hvr6_0 hvr6_1 hvr6_2 hvr6_3 hvr6_4 hvr6_5 hvr6_6 hvr6_7 hvr6_8 hvr6_9
  subst ha
  simp only [List.foldl_cons, List.foldl_nil, List.setIfInBounds_toArray, List.set_cons_zero, List.set_cons_succ]
  have Bxr0y0_6 := hupd.keepD Bxr0y0_5
  have Bxr0y1_6 := hupd.keepD Bxr0y1_5
  have Bxr2y5_6 := hupd.keepD Bxr2y5_5
  have Bxr4y5_6 := hupd.keepD Bxr4y5_5
  have HU6 := hh (HU5.out.drew.trans hupd)
  clear hupd
  refine wpAny_done (by kernel_rfl) ?_ _
  refine hK9 _ _ ?_
  clear hK9
  refine wp_ret ?_
  try dsimp only [Exit.then]
  try dsimp only [Exit.inBlock]
  exact bodyPost_ret (v := .bool true) (results_tmpQ (fn := Tryd.f10) (t := 4) rfl _ _ (.bool true) rfl) rfl ⟨rfl, HU6.out⟩
theorem pointTimes_any {a k : List Int} (w : World) (hT : Tw w) (ha : a.length = 32) (da : Digs 256 a) (hl : k.length = 32) (hd : Digs 256 k) : Calls Tryd.prog 10 #[.agg (numsA .u8 a), .agg (numsA .u8 k)] w fun e w' => e = .returned (.bool true) ∧ Upd (fun _ => False) w w' := by
  by_cases h : ∃ e : EP, encP e = a
  · obtain ⟨e, he⟩ := h
    exact ptimesT w hT ha da hl hd he
  · exact ptimesN w hT ha da hl hd (fun e he => h ⟨e, he⟩)
end Go.Proofs.YtdpafemcpbhlfaaDoor
