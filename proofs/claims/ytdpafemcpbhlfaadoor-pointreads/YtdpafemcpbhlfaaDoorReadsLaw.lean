/-
  The walk of PointReads.
-/
import Derived.Test.YtdpafemcpbhlfaaDoorPt5
import Derived.Test.YtdpafemcpbhlfaaDoorPtD
import Derived.Test.YtdpafemcpbhlfaaDoorR6R
namespace Go.Proofs.YtdpafemcpbhlfaaDoor
set_option maxRecDepth 100000
open Go.RowKit

set_option maxHeartbeats 4000000 in
theorem preadsN {k : List Int} (w : World) (hT : Tw w) (hl : k.length = 32) (hd : Digs 256 k) (hk : ∀ e : EP, encP e ≠ k) :
    Calls Tryd.prog 8 #[.agg (numsA .u8 k)] w fun e w' => e = .returned (.bool true) ∧ Upd (fun _ => False) w w' := by
  have HT := Lib.hid hT
  clear hT
  have HU := Lib.hid (Upd.refl (fun _ => False) w)
  go_enter Tryd.func8, Tryd.ntmps8
  refine wp_seq_k fun K0 hK0 => ?_
  refine wp_region_qSD 2 #[true, true] [] ([.blk ptrTo 23 (fun z => z = numsA .u8 k), .val (.bool false)] : List SQ) (by kernel_rfl) (by kernel_rfl) (by kernel_rfl) (by kernel_rfl) ?_ ?_
  · intro i o listed an wn ho hls hst hun hdep hI hD hpre K' hK'
    rcases slot_cases (l := [0, 1]) rfl ho hst with rfl | rfl | ⟨⟨⟩⟩
    · obtain rfl := Option.some.inj ho
      have hvp : an.eval (.tmp 0) = .agg (numsA .u8 k) := hI.oldQ (by kernel_rfl) rfl
      exact hI.newQ hD hls (Nat.le_refl _) (newsQ_spec (l := [0]) (by kernel_rfl) ⟨⟨_, _, rfl⟩, trivial⟩) rfl rfl rfl 23 _ (fun z => z = numsA .u8 k) (run_boxQ rfl hvp wn) rfl rfl hK'
    · obtain rfl := Option.some.inj ho
      exact hI.pureQ hD hls rfl rfl rfl _ (run_moveQ (.inr rfl) (show an.eval (.const (.bool false)) = .bool false from rfl) wn) (.val (.bool false)) rfl rfl rfl hK'
  intro an w1 hI
  obtain ⟨vr0_0, hvr0_0, br0_0, zr0_0, rfl, hnr0_0, hbr0_0, hzr0_0⟩ := hI.haveQ 0 _ 1 _ rfl rfl rfl rfl
  rw [hzr0_0] at hbr0_0
  clear hzr0_0
  obtain ⟨vr0_1, hvr0_1, rfl⟩ := hI.haveQ 1 _ 2 _ rfl rfl rfl rfl
  have hupd := hI.upd
  have ha := hI.act [(1, ptrTo br0_0), (2, .bool false)] (by simp [hvr0_0, hvr0_1]) (by kernel_rfl)
  clear hI hvr0_0 hvr0_1
  subst ha
  simp only [List.foldl_cons, List.foldl_nil, List.setIfInBounds_toArray, List.set_cons_zero, List.set_cons_succ]
  have hger0_0 := Lib.hid (Nat.le_trans HU.out.size hnr0_0)
  have Bxr0y0 := Lib.hid hbr0_0
  have HU0 := Lib.hid (HU.out.trans hupd)
  clear hupd
  refine wpOps_nil ?_
  refine hK0 _ _ ?_
  clear hK0
  refine wp_seq_k fun K1 hK1 => ?_
  refine wp_seq_k fun K2 hK2 => ?_
  refine wp_region_qSD 2 #[true, true] [] ([.val (.bool true), .val (.bool false)] : List SQ) (by kernel_rfl) (by kernel_rfl) (by kernel_rfl) (by kernel_rfl) ?_ ?_
  · intro i o listed an wn ho hls hst hun hdep hI hD hpre K' hK'
    rcases slot_cases (l := [0, 1]) rfl ho hst with rfl | rfl | ⟨⟨⟩⟩
    · obtain rfl := Option.some.inj ho
      exact hI.callQ hD hls rfl rfl rfl 23 #[] _ rfl #[] (by simp) (run_enter Tryd.func23 (by kernel_rfl) (by kernel_rfl)) (.val (.bool true)) rfl rfl ((basedL _ (HT.out.upd (HU0.out.trans hI.upd))).mono fun _ _ h => ret_val h) hK'
    · obtain rfl := Option.some.inj ho
      obtain ⟨vp, hvp, rfl⟩ := hI.haveQ 0 _ 7 _ rfl rfl rfl (hdep ⟨0, .data⟩ (by simp) rfl)
      exact hI.pureQ hD hls rfl rfl rfl _ (run_not rfl (eval_of hvp) wn) (.val (.bool false)) rfl rfl rfl hK'
  intro an w2 hI
  obtain ⟨vr1_0, hvr1_0, rfl⟩ := hI.haveQ 0 _ 7 _ rfl rfl rfl rfl
  obtain ⟨vr1_1, hvr1_1, rfl⟩ := hI.haveQ 1 _ 8 _ rfl rfl rfl rfl
  have hupd := hI.upd
  have ha := hI.act [(7, .bool true), (8, .bool false)] (by simp [hvr1_0, hvr1_1]) (by kernel_rfl)
  clear hI hvr1_0 hvr1_1
  subst ha
  simp only [List.foldl_cons, List.foldl_nil, List.setIfInBounds_toArray, List.set_cons_zero, List.set_cons_succ]
  have Bxr0y0_1 := hupd.keep Bxr0y0
  have HU1 := Lib.hid (HU0.out.trans hupd)
  clear hupd
  refine wpOps_nil ?_
  refine hK2 _ _ ?_
  clear hK2
  refine wp_cond_false rfl ?_
  refine wp_skip ?_
  refine hK1 _ _ ?_
  clear hK1
  refine wp_seq_k fun K3 hK3 => ?_
  refine wp_region_qSD 6 #[true, true, true, true, true, true, false, false] [6, 7] ([.val (.agg (numsA .u8 k)), .like (IsCV 20 RP [none] (.int .i64 60)), .like (IsCV 20 RP [none] (.int .i64 60)), .like (IsC 20 RP [none]), .val (.int .i64 60), .blk ptrTo 41 (Ch 20 RP [none]), .val undef, .val undef] : List SQ) (by kernel_rfl) (by kernel_rfl) (by kernel_rfl) (by kernel_rfl) ?_ ?_
  · intro i o listed an wn ho hls hst hun hdep hI hD hpre K' hK'
    rcases slot_cases (l := [0, 1, 2, 3, 4, 5]) rfl ho hst with rfl | rfl | rfl | rfl | rfl | rfl | ⟨⟨⟩⟩
    · obtain rfl := Option.some.inj ho
      have hvp : an.eval (.tmp 1) = ptrTo br0_0 := hI.oldQ (by kernel_rfl) rfl
      exact hI.pureQ hD hls rfl rfl rfl _ (run_loadQ rfl hvp wn (hI.upd.keep Bxr0y0_1).out Tryd.underlying23 rfl sizeKey (by rw [numsA_size, hl]; omega)) (.val (.agg (numsA .u8 k))) rfl (congrArg Value.agg (extract_all _ 32 (by rw [numsA_size]; exact hl))) rfl hK'
    · obtain rfl := Option.some.inj ho
      obtain ⟨vp, hvp, rfl⟩ := hI.haveQ 0 _ 10 _ rfl rfl rfl (hdep ⟨0, .data⟩ (by simp) rfl)
      exact hI.callQ hD hls rfl rfl rfl 24 #[.tmp 10] _ rfl #[.agg (numsA .u8 k)] (by simp [eval_of hvp]) (run_enter Tryd.func24 (by kernel_rfl) (by kernel_rfl)) (.like (IsCV 20 RP [none] (.int .i64 60))) rfl rfl ((decodeF _ (HT.out.upd (HU1.out.trans hI.upd)) hl hd hk).mono fun _ _ h => h.sq) hK'
    · obtain rfl := Option.some.inj ho
      obtain ⟨vp, hvp, ap, rfl, hCp⟩ := hI.haveQ 1 _ 11 _ rfl rfl rfl (hdep ⟨1, .data⟩ (by simp) rfl)
      exact hI.pureQ hD hls rfl rfl rfl _ (run_moveQ (.inl rfl) (eval_of hvp) wn) (.like (IsCV 20 RP [none] (.int .i64 60))) rfl ⟨_, rfl, hCp⟩ rfl hK'
    · obtain rfl := Option.some.inj ho
      obtain ⟨vp, hvp, ap, rfl, hCp⟩ := hI.haveQ 2 _ 9 _ rfl rfl rfl (hdep ⟨2, .data⟩ (by simp) rfl)
      exact hI.pureQ hD hls rfl rfl rfl _ (run_extractQ rfl (eval_of hvp) rfl wn) (.like (IsC 20 RP [none])) rfl ⟨_, rfl, hCp⟩ rfl hK'
    · obtain rfl := Option.some.inj ho
      obtain ⟨vp, hvp, ap, rfl, hCp⟩ := hI.haveQ 2 _ 9 _ rfl rfl rfl (hdep ⟨2, .data⟩ (by simp) rfl)
      exact hI.pureQ hD hls rfl rfl rfl _ (run_extractQ rfl (eval_of hvp) rfl wn) (.val (.int .i64 60)) rfl rfl rfl hK'
    · obtain rfl := Option.some.inj ho
      exact hI.newQ hD hls (Nat.le_refl _) (newsQ_spec (l := [5]) (by kernel_rfl) ⟨⟨_, _, rfl⟩, trivial⟩) rfl rfl rfl 41 zPt _ (run_allocQ rfl zPt_run wn) rfl zPt_p hK'
  intro an w3 hI
  obtain ⟨vr2_0, hvr2_0, rfl⟩ := hI.haveQ 0 _ 10 _ rfl rfl rfl rfl
  obtain ⟨vr2_1, hvr2_1, ar2_1, rfl, hCr2_1⟩ := hI.haveQ 1 _ 11 _ rfl rfl rfl rfl
  obtain ⟨vr2_2, hvr2_2, ar2_2, rfl, hCr2_2⟩ := hI.haveQ 2 _ 9 _ rfl rfl rfl rfl
  obtain ⟨vr2_3, hvr2_3, ar2_3, rfl, hCr2_3⟩ := hI.haveQ 3 _ 12 _ rfl rfl rfl rfl
  obtain ⟨vr2_4, hvr2_4, rfl⟩ := hI.haveQ 4 _ 13 _ rfl rfl rfl rfl
  obtain ⟨vr2_5, hvr2_5, br2_5, zr2_5, rfl, hnr2_5, hbr2_5, hzr2_5⟩ := hI.haveQ 5 _ 3 _ rfl rfl rfl rfl
  have hupd := hI.upd
  have ha := hI.act [(10, .agg (numsA .u8 k)), (11, .tuple #[.agg ar2_1, .int .i64 60]), (9, .tuple #[.agg ar2_2, .int .i64 60]), (12, .agg ar2_3), (13, .int .i64 60), (3, ptrTo br2_5)] (by simp [hvr2_0, hvr2_1, hvr2_2, hvr2_3, hvr2_4, hvr2_5]) (by kernel_rfl)
  clear hI hvr2_0 hvr2_1 hvr2_2 hvr2_3 hvr2_4 hvr2_5
  subst ha
  simp only [List.foldl_cons, List.foldl_nil, List.setIfInBounds_toArray, List.set_cons_zero, List.set_cons_succ]
  have hner2_5_Bxr0y0_1 := Lib.hid (show br2_5 ≠ br0_0 from Nat.ne_of_gt (Nat.lt_of_lt_of_le Bxr0y0_1.out.lt hnr2_5))
  have hger2_5 := Lib.hid (Nat.le_trans HU1.out.size hnr2_5)
  have Bxr0y0_2 := hupd.keep Bxr0y0_1
  have Bxr2y5 := Lib.hid hbr2_5
  have HU2 := Lib.hid (HU1.out.trans hupd)
  clear hupd
  refine wpOps_storeQ 6 rfl rfl rfl 41 (.tmp 3) (.tmp 12) rfl br2_5 0 20 rfl ar2_3 rfl 41 zr2_5 Bxr2y5.out szPt hCr2_3.size (by rw [hzr2_5.size]; exact Nat.le_of_ble_eq_true rfl) hCr2_3.one' ?_
  intro ws2_0 hs2_0 hus2_0
  rw [splice_all _ _ 20 hzr2_5.size hCr2_3.size] at hs2_0
  have Bxr0y0_s2_0 := hus2_0.keepS Bxr0y0_2 (fun e => hner2_5_Bxr0y0_1.out e.symm)
  have Bxr2y5_s2_0 := Lib.hid hs2_0
  have HU2_0 := Lib.hid (HU2.out.step hus2_0 (fun i hi h => absurd hi (Nat.not_lt.2 (h.symm ▸ hger2_5.out))))
  clear hs2_0 hus2_0
  refine wpOps_pureQ 7 rfl rfl 4 rfl (.int .i64 60) (run_moveQ (x := .tmp 13) (v := .int .i64 60) (.inr rfl) rfl _) ?_
  simp only [List.setIfInBounds_toArray, List.set_cons_zero, List.set_cons_succ]
  refine wpOps_nil ?_
  refine hK3 _ _ ?_
  clear hK3
  refine wp_seq_k fun K4 hK4 => ?_
  refine wp_region_qSD 6 #[true, true, true, true, true, true, false, false] [6, 7] ([.val (.agg (numsA .u8 k)), .like (IsCV 48 RQ [none] (.int .i64 60)), .like (IsCV 48 RQ [none] (.int .i64 60)), .like (IsC 48 RQ [none]), .val (.int .i64 60), .blk ptrTo 47 (Ch 48 RQ [none]), .val undef, .val undef] : List SQ) (by kernel_rfl) (by kernel_rfl) (by kernel_rfl) (by kernel_rfl) ?_ ?_
  · intro i o listed an wn ho hls hst hun hdep hI hD hpre K' hK'
    rcases slot_cases (l := [0, 1, 2, 3, 4, 5]) rfl ho hst with rfl | rfl | rfl | rfl | rfl | rfl | ⟨⟨⟩⟩
    · obtain rfl := Option.some.inj ho
      have hvp : an.eval (.tmp 1) = ptrTo br0_0 := hI.oldQ (by kernel_rfl) rfl
      exact hI.pureQ hD hls rfl rfl rfl _ (run_loadQ rfl hvp wn (hI.upd.keep Bxr0y0_s2_0).out Tryd.underlying23 rfl sizeKey (by rw [numsA_size, hl]; omega)) (.val (.agg (numsA .u8 k))) rfl (congrArg Value.agg (extract_all _ 32 (by rw [numsA_size]; exact hl))) rfl hK'
    · obtain rfl := Option.some.inj ho
      obtain ⟨vp, hvp, rfl⟩ := hI.haveQ 0 _ 15 _ rfl rfl rfl (hdep ⟨0, .data⟩ (by simp) rfl)
      exact hI.callQ hD hls rfl rfl rfl 25 #[.tmp 15] _ rfl #[.agg (numsA .u8 k)] (by simp [eval_of hvp]) (run_enter Tryd.func25 (by kernel_rfl) (by kernel_rfl)) (.like (IsCV 48 RQ [none] (.int .i64 60))) rfl rfl ((rdecodeF _ hl hd hk).mono fun _ _ h => h.sq) hK'
    · obtain rfl := Option.some.inj ho
      obtain ⟨vp, hvp, ap, rfl, hCp⟩ := hI.haveQ 1 _ 16 _ rfl rfl rfl (hdep ⟨1, .data⟩ (by simp) rfl)
      exact hI.pureQ hD hls rfl rfl rfl _ (run_moveQ (.inl rfl) (eval_of hvp) wn) (.like (IsCV 48 RQ [none] (.int .i64 60))) rfl ⟨_, rfl, hCp⟩ rfl hK'
    · obtain rfl := Option.some.inj ho
      obtain ⟨vp, hvp, ap, rfl, hCp⟩ := hI.haveQ 2 _ 14 _ rfl rfl rfl (hdep ⟨2, .data⟩ (by simp) rfl)
      exact hI.pureQ hD hls rfl rfl rfl _ (run_extractQ rfl (eval_of hvp) rfl wn) (.like (IsC 48 RQ [none])) rfl ⟨_, rfl, hCp⟩ rfl hK'
    · obtain rfl := Option.some.inj ho
      obtain ⟨vp, hvp, ap, rfl, hCp⟩ := hI.haveQ 2 _ 14 _ rfl rfl rfl (hdep ⟨2, .data⟩ (by simp) rfl)
      exact hI.pureQ hD hls rfl rfl rfl _ (run_extractQ rfl (eval_of hvp) rfl wn) (.val (.int .i64 60)) rfl rfl rfl hK'
    · obtain rfl := Option.some.inj ho
      exact hI.newQ hD hls (Nat.le_refl _) (newsQ_spec (l := [5]) (by kernel_rfl) ⟨⟨_, _, rfl⟩, trivial⟩) rfl rfl rfl 47 zR6 _ (run_allocQ rfl zR6_run wn) rfl zR6_q hK'
  intro an w4 hI
  obtain ⟨vr3_0, hvr3_0, rfl⟩ := hI.haveQ 0 _ 15 _ rfl rfl rfl rfl
  obtain ⟨vr3_1, hvr3_1, ar3_1, rfl, hCr3_1⟩ := hI.haveQ 1 _ 16 _ rfl rfl rfl rfl
  obtain ⟨vr3_2, hvr3_2, ar3_2, rfl, hCr3_2⟩ := hI.haveQ 2 _ 14 _ rfl rfl rfl rfl
  obtain ⟨vr3_3, hvr3_3, ar3_3, rfl, hCr3_3⟩ := hI.haveQ 3 _ 17 _ rfl rfl rfl rfl
  obtain ⟨vr3_4, hvr3_4, rfl⟩ := hI.haveQ 4 _ 18 _ rfl rfl rfl rfl
  obtain ⟨vr3_5, hvr3_5, br3_5, zr3_5, rfl, hnr3_5, hbr3_5, hzr3_5⟩ := hI.haveQ 5 _ 5 _ rfl rfl rfl rfl
  have hupd := hI.upd
  have ha := hI.act [(15, .agg (numsA .u8 k)), (16, .tuple #[.agg ar3_1, .int .i64 60]), (14, .tuple #[.agg ar3_2, .int .i64 60]), (17, .agg ar3_3), (18, .int .i64 60), (5, ptrTo br3_5)] (by simp [hvr3_0, hvr3_1, hvr3_2, hvr3_3, hvr3_4, hvr3_5]) (by kernel_rfl)
  clear hI hvr3_0 hvr3_1 hvr3_2 hvr3_3 hvr3_4 hvr3_5
  subst ha
  simp only [List.foldl_cons, List.foldl_nil, List.setIfInBounds_toArray, List.set_cons_zero, List.set_cons_succ]
  have hner3_5_Bxr0y0_s2_0 := Lib.hid (show br3_5 ≠ br0_0 from Nat.ne_of_gt (Nat.lt_of_lt_of_le Bxr0y0_s2_0.out.lt hnr3_5))
  have hner3_5_Bxr2y5_s2_0 := Lib.hid (show br3_5 ≠ br2_5 from Nat.ne_of_gt (Nat.lt_of_lt_of_le Bxr2y5_s2_0.out.lt hnr3_5))
  have hger3_5 := Lib.hid (Nat.le_trans HU2_0.out.size hnr3_5)
  have Bxr0y0_3 := hupd.keep Bxr0y0_s2_0
  have Bxr2y5_3 := hupd.keep Bxr2y5_s2_0
  have Bxr3y5 := Lib.hid hbr3_5
  have HU3 := Lib.hid (HU2_0.out.trans hupd)
  clear hupd
  refine wpOps_storeQ 6 rfl rfl rfl 47 (.tmp 5) (.tmp 17) rfl br3_5 0 48 rfl ar3_3 rfl 47 zr3_5 Bxr3y5.out szR6 hCr3_3.size (by rw [hzr3_5.size]; exact Nat.le_of_ble_eq_true rfl) hCr3_3.one' ?_
  intro ws3_0 hs3_0 hus3_0
  rw [splice_all _ _ 48 hzr3_5.size hCr3_3.size] at hs3_0
  have Bxr0y0_s3_0 := hus3_0.keepS Bxr0y0_3 (fun e => hner3_5_Bxr0y0_s2_0.out e.symm)
  have Bxr2y5_s3_0 := hus3_0.keepS Bxr2y5_3 (fun e => hner3_5_Bxr2y5_s2_0.out e.symm)
  have Bxr3y5_s3_0 := Lib.hid hs3_0
  have HU3_0 := Lib.hid (HU3.out.step hus3_0 (fun i hi h => absurd hi (Nat.not_lt.2 (h.symm ▸ hger3_5.out))))
  clear hs3_0 hus3_0
  refine wpOps_pureQ 7 rfl rfl 6 rfl (.int .i64 60) (run_moveQ (x := .tmp 18) (v := .int .i64 60) (.inr rfl) rfl _) ?_
  simp only [List.setIfInBounds_toArray, List.set_cons_zero, List.set_cons_succ]
  refine wpOps_nil ?_
  refine hK4 _ _ ?_
  clear hK4
  refine wp_seq_k fun K5 hK5 => ?_
  refine wp_seq_k fun K6 hK6 => ?_
  refine wp_region_qSD 3 #[true, true, true] [] ([.val (.int .i64 60), .val (.int .i64 60), .val (.bool false)] : List SQ) (by kernel_rfl) (by kernel_rfl) (by kernel_rfl) (by kernel_rfl) ?_ ?_
  · intro i o listed an wn ho hls hst hun hdep hI hD hpre K' hK'
    rcases slot_cases (l := [0, 1, 2]) rfl ho hst with rfl | rfl | rfl | ⟨⟨⟩⟩
    · obtain rfl := Option.some.inj ho
      have hvp : an.eval (.tmp 4) = .int .i64 60 := hI.oldQ (by kernel_rfl) rfl
      exact hI.pureQ hD hls rfl rfl rfl _ (run_moveQ (.inl rfl) hvp wn) (.val (.int .i64 60)) rfl rfl rfl hK'
    · obtain rfl := Option.some.inj ho
      have hvp : an.eval (.tmp 6) = .int .i64 60 := hI.oldQ (by kernel_rfl) rfl
      exact hI.pureQ hD hls rfl rfl rfl _ (run_moveQ (.inl rfl) hvp wn) (.val (.int .i64 60)) rfl rfl rfl hK'
    · obtain rfl := Option.some.inj ho
      obtain ⟨vp, hvp, rfl⟩ := hI.haveQ 0 _ 19 _ rfl rfl rfl (hdep ⟨0, .data⟩ (by simp) rfl)
      obtain ⟨vq, hvq, rfl⟩ := hI.haveQ 1 _ 20 _ rfl rfl rfl (hdep ⟨1, .data⟩ (by simp) rfl)
      exact hI.pureQ hD hls rfl rfl rfl _ (run_neq rfl (eval_of hvp) (eval_of hvq) (ne_of_eqB (show decide ((60 : Int) = 60) = true by decide)) wn) (.val (.bool false)) rfl rfl rfl hK'
  intro an w5 hI
  obtain ⟨vr4_0, hvr4_0, rfl⟩ := hI.haveQ 0 _ 19 _ rfl rfl rfl rfl
  obtain ⟨vr4_1, hvr4_1, rfl⟩ := hI.haveQ 1 _ 20 _ rfl rfl rfl rfl
  obtain ⟨vr4_2, hvr4_2, rfl⟩ := hI.haveQ 2 _ 21 _ rfl rfl rfl rfl
  have hupd := hI.upd
  have ha := hI.act [(19, .int .i64 60), (20, .int .i64 60), (21, .bool false)] (by simp [hvr4_0, hvr4_1, hvr4_2]) (by kernel_rfl)
  clear hI hvr4_0 hvr4_1 hvr4_2
  subst ha
  simp only [List.foldl_cons, List.foldl_nil, List.setIfInBounds_toArray, List.set_cons_zero, List.set_cons_succ]
  have Bxr0y0_4 := hupd.keep Bxr0y0_s3_0
  have Bxr2y5_4 := hupd.keep Bxr2y5_s3_0
  have Bxr3y5_4 := hupd.keep Bxr3y5_s3_0
  have HU4 := Lib.hid (HU3_0.out.trans hupd)
  clear hupd
  refine wpOps_nil ?_
  refine hK6 _ _ ?_
  clear hK6
  refine wp_cond_false rfl ?_
  refine wp_skip ?_
  refine hK5 _ _ ?_
  clear hK5
  refine wp_seq_k fun K7 hK7 => ?_
  refine wp_region_qD #[true, true, true, true, true, true, true, true, true, true, true, true, true, true, true] ([.val (.int .i64 60), .val (.bool true), .val (.bool true), .val undef, .val undef, .val undef, .val undef, .val undef, .val undef, .val undef, .val undef, .val undef, .val undef, .val (.bool true), .val (.bool true)] : List SQ) (by kernel_rfl) (by kernel_rfl) (by kernel_rfl) (by kernel_rfl) ?_ ?_
  · intro i o listed an wn ho hls hst hun hdep hI hD K' hK'
    rcases slot_cases (l := [0, 1, 2, 3, 4, 5, 6, 7, 8, 9, 10, 11, 12, 13, 14]) rfl ho hst with rfl | rfl | rfl | rfl | rfl | rfl | rfl | rfl | rfl | rfl | rfl | rfl | rfl | rfl | rfl | ⟨⟨⟩⟩
    · obtain rfl := Option.some.inj ho
      have hvp : an.eval (.tmp 6) = .int .i64 60 := hI.oldQ (by kernel_rfl) rfl
      exact hI.pureQ hD hls rfl rfl rfl _ (run_moveQ (.inl rfl) hvp wn) (.val (.int .i64 60)) rfl rfl rfl hK'
    · obtain rfl := Option.some.inj ho
      obtain ⟨vp, hvp, rfl⟩ := hI.haveQ 0 _ 22 _ rfl rfl rfl (hdep ⟨0, .data⟩ (by simp) rfl)
      exact hI.pureQ hD hls rfl rfl rfl _ (run_neq rfl (eval_of hvp) rfl (ne_of_eqB (show decide ((60 : Int) = 0) = false by decide)) wn) (.val (.bool true)) rfl rfl rfl hK'
    · obtain rfl := Option.some.inj ho
      obtain ⟨vp, hvp, rfl⟩ := hI.haveQ 1 _ 23 _ rfl rfl rfl (hdep ⟨1, .data⟩ (by simp) rfl)
      exact hI.pureQ hD hls rfl rfl rfl _ (run_moveQ (.inl rfl) (eval_of hvp) wn) (.val (.bool true)) rfl rfl rfl hK'
    · obtain rfl := Option.some.inj ho
      obtain ⟨vg, hvg, rfl⟩ := hI.haveQ 2 _ 24 _ rfl rfl rfl (hdep ⟨2, .guard⟩ (by simp) rfl)
      exact hI.skipQ hD hls rfl (wanted_notQ rfl rfl rfl hvg rfl) rfl rfl rfl hK'
    · obtain rfl := Option.some.inj ho
      obtain ⟨vg, hvg, rfl⟩ := hI.haveQ 2 _ 24 _ rfl rfl rfl (hdep ⟨2, .guard⟩ (by simp) rfl)
      exact hI.skipQ hD hls rfl (wanted_notQ rfl rfl rfl hvg rfl) rfl rfl rfl hK'
    · obtain rfl := Option.some.inj ho
      obtain ⟨vg, hvg, rfl⟩ := hI.haveQ 2 _ 24 _ rfl rfl rfl (hdep ⟨2, .guard⟩ (by simp) rfl)
      exact hI.skipQ hD hls rfl (wanted_notQ rfl rfl rfl hvg rfl) rfl rfl rfl hK'
    · obtain rfl := Option.some.inj ho
      obtain ⟨vg, hvg, rfl⟩ := hI.haveQ 2 _ 24 _ rfl rfl rfl (hdep ⟨2, .guard⟩ (by simp) rfl)
      exact hI.skipQ hD hls rfl (wanted_notQ rfl rfl rfl hvg rfl) rfl rfl rfl hK'
    · obtain rfl := Option.some.inj ho
      obtain ⟨vg, hvg, rfl⟩ := hI.haveQ 2 _ 24 _ rfl rfl rfl (hdep ⟨2, .guard⟩ (by simp) rfl)
      exact hI.skipQ hD hls rfl (wanted_notQ rfl rfl rfl hvg rfl) rfl rfl rfl hK'
    · obtain rfl := Option.some.inj ho
      obtain ⟨vg, hvg, rfl⟩ := hI.haveQ 7 _ 29 _ rfl rfl rfl (hdep ⟨7, .guard⟩ (by simp) rfl)
      exact hI.skipQ hD hls rfl (wanted_undef rfl rfl rfl hvg) rfl rfl rfl hK'
    · obtain rfl := Option.some.inj ho
      obtain ⟨vg, hvg, rfl⟩ := hI.haveQ 7 _ 29 _ rfl rfl rfl (hdep ⟨7, .guard⟩ (by simp) rfl)
      exact hI.skipQ hD hls rfl (wanted_undef rfl rfl rfl hvg) rfl rfl rfl hK'
    · obtain rfl := Option.some.inj ho
      obtain ⟨vg, hvg, rfl⟩ := hI.haveQ 7 _ 29 _ rfl rfl rfl (hdep ⟨7, .guard⟩ (by simp) rfl)
      exact hI.skipQ hD hls rfl (wanted_undef rfl rfl rfl hvg) rfl rfl rfl hK'
    · obtain rfl := Option.some.inj ho
      obtain ⟨vg, hvg, rfl⟩ := hI.haveQ 7 _ 29 _ rfl rfl rfl (hdep ⟨7, .guard⟩ (by simp) rfl)
      exact hI.skipQ hD hls rfl (wanted_undef rfl rfl rfl hvg) rfl rfl rfl hK'
    · obtain rfl := Option.some.inj ho
      obtain ⟨vg, hvg, rfl⟩ := hI.haveQ 2 _ 24 _ rfl rfl rfl (hdep ⟨2, .guard⟩ (by simp) rfl)
      exact hI.skipQ hD hls rfl (wanted_notQ rfl rfl rfl hvg rfl) rfl rfl rfl hK'
    · obtain rfl := Option.some.inj ho
      obtain ⟨vp, hvp, rfl⟩ := hI.haveQ 2 _ 24 _ rfl rfl rfl (hdep ⟨2, .data⟩ (by simp) rfl)
      exact hI.pureQ hD hls rfl rfl rfl _ (run_pickT rfl (eval_of hvp) (show an.eval (.const (.bool true)) = .bool true from rfl) wn) (.val (.bool true)) rfl rfl rfl hK'
    · obtain rfl := Option.some.inj ho
      obtain ⟨vp, hvp, rfl⟩ := hI.haveQ 13 _ 35 _ rfl rfl rfl (hdep ⟨13, .data⟩ (by simp) rfl)
      exact hI.pureQ hD hls rfl rfl rfl _ (run_moveQ (.inr rfl) (eval_of hvp) wn) (.val (.bool true)) rfl rfl rfl hK'
  intro fuel an w6 hf hI
  obtain ⟨vr5_0, hvr5_0, rfl⟩ := hI.haveQ 0 _ 22 _ rfl rfl rfl rfl
  obtain ⟨vr5_1, hvr5_1, rfl⟩ := hI.haveQ 1 _ 23 _ rfl rfl rfl rfl
  obtain ⟨vr5_2, hvr5_2, rfl⟩ := hI.haveQ 2 _ 24 _ rfl rfl rfl rfl
  obtain ⟨vr5_3, hvr5_3, rfl⟩ := hI.haveQ 3 _ 25 _ rfl rfl rfl rfl
  obtain ⟨vr5_4, hvr5_4, rfl⟩ := hI.haveQ 4 _ 26 _ rfl rfl rfl rfl
  obtain ⟨vr5_5, hvr5_5, rfl⟩ := hI.haveQ 5 _ 27 _ rfl rfl rfl rfl
  obtain ⟨vr5_6, hvr5_6, rfl⟩ := hI.haveQ 6 _ 28 _ rfl rfl rfl rfl
  obtain ⟨vr5_7, hvr5_7, rfl⟩ := hI.haveQ 7 _ 29 _ rfl rfl rfl rfl
  obtain ⟨vr5_8, hvr5_8, rfl⟩ := hI.haveQ 8 _ 30 _ rfl rfl rfl rfl
  obtain ⟨vr5_9, hvr5_9, rfl⟩ := hI.haveQ 9 _ 31 _ rfl rfl rfl rfl
  obtain ⟨vr5_10, hvr5_10, rfl⟩ := hI.haveQ 10 _ 32 _ rfl rfl rfl rfl
  obtain ⟨vr5_11, hvr5_11, rfl⟩ := hI.haveQ 11 _ 33 _ rfl rfl rfl rfl
  obtain ⟨vr5_12, hvr5_12, rfl⟩ := hI.haveQ 12 _ 34 _ rfl rfl rfl rfl
  obtain ⟨vr5_13, hvr5_13, rfl⟩ := hI.haveQ 13 _ 35 _ rfl rfl rfl rfl
  obtain ⟨vr5_14, hvr5_14, rfl⟩ := hI.haveQ 14 _ 2 _ rfl rfl rfl rfl
  have hupd := hI.upd
  have ha := hI.act [(22, .int .i64 60), (23, .bool true), (24, .bool true), (25, undef), (26, undef), (27, undef), (28, undef), (29, undef), (30, undef), (31, undef), (32, undef), (33, undef), (34, undef), (35, .bool true), (2, .bool true)] (by simp [hvr5_0, hvr5_1, hvr5_2, hvr5_3, hvr5_4, hvr5_5, hvr5_6, hvr5_7, hvr5_8, hvr5_9, hvr5_10, hvr5_11, hvr5_12, hvr5_13, hvr5_14]) (by kernel_rfl)
  clear hI hvr5_0 hvr5_1 hvr5_2 hvr5_3 hvr5_4 hvr5_5 hvr5_6 hvr5_7 hvr5_8 hvr5_9 hvr5_10 hvr5_11 hvr5_12 hvr5_13 hvr5_14
  subst ha
  simp only [List.foldl_cons, List.foldl_nil, List.setIfInBounds_toArray, List.set_cons_zero, List.set_cons_succ]
  have Bxr0y0_5 := hupd.keepD Bxr0y0_4
  have Bxr2y5_5 := hupd.keepD Bxr2y5_4
  have Bxr3y5_5 := hupd.keepD Bxr3y5_4
  have HU5 := Lib.hid (HU4.out.drew.trans hupd)
  clear hupd
  refine wpAny_done (by kernel_rfl) ?_ _
  refine hK7 _ _ ?_
  clear hK7
  refine wp_ret ?_
  try dsimp only [Exit.then]
  try dsimp only [Exit.inBlock]
  exact bodyPost_ret (v := .bool true) (results_tmpQ (fn := Tryd.f8) (t := 2) rfl _ _ (.bool true) rfl) rfl ⟨rfl, HU5.out⟩
set_option maxHeartbeats 4000000 in
theorem preadsT {k : List Int} {eP : EP} (w : World) (hT : Tw w) (hl : k.length = 32) (hd : Digs 256 k) (hk : encP eP = k) :
    Calls Tryd.prog 8 #[.agg (numsA .u8 k)] w fun e w' => e = .returned (.bool true) ∧ Upd (fun _ => False) w w' := by
  have HT := Lib.hid hT
  clear hT
  have HU := Lib.hid (Upd.refl (fun _ => False) w)
  go_enter Tryd.func8, Tryd.ntmps8
  refine wp_seq_k fun K0 hK0 => ?_
  refine wp_region_qSD 2 #[true, true] [] ([.blk ptrTo 23 (fun z => z = numsA .u8 k), .val (.bool false)] : List SQ) (by kernel_rfl) (by kernel_rfl) (by kernel_rfl) (by kernel_rfl) ?_ ?_
  · intro i o listed an wn ho hls hst hun hdep hI hD hpre K' hK'
    rcases slot_cases (l := [0, 1]) rfl ho hst with rfl | rfl | ⟨⟨⟩⟩
    · obtain rfl := Option.some.inj ho
      have hvp : an.eval (.tmp 0) = .agg (numsA .u8 k) := hI.oldQ (by kernel_rfl) rfl
      exact hI.newQ hD hls (Nat.le_refl _) (newsQ_spec (l := [0]) (by kernel_rfl) ⟨⟨_, _, rfl⟩, trivial⟩) rfl rfl rfl 23 _ (fun z => z = numsA .u8 k) (run_boxQ rfl hvp wn) rfl rfl hK'
    · obtain rfl := Option.some.inj ho
      exact hI.pureQ hD hls rfl rfl rfl _ (run_moveQ (.inr rfl) (show an.eval (.const (.bool false)) = .bool false from rfl) wn) (.val (.bool false)) rfl rfl rfl hK'
  intro an w1 hI
  obtain ⟨vr0_0, hvr0_0, br0_0, zr0_0, rfl, hnr0_0, hbr0_0, hzr0_0⟩ := hI.haveQ 0 _ 1 _ rfl rfl rfl rfl
  rw [hzr0_0] at hbr0_0
  clear hzr0_0
  obtain ⟨vr0_1, hvr0_1, rfl⟩ := hI.haveQ 1 _ 2 _ rfl rfl rfl rfl
  have hupd := hI.upd
  have ha := hI.act [(1, ptrTo br0_0), (2, .bool false)] (by simp [hvr0_0, hvr0_1]) (by kernel_rfl)
  clear hI hvr0_0 hvr0_1
  subst ha
  simp only [List.foldl_cons, List.foldl_nil, List.setIfInBounds_toArray, List.set_cons_zero, List.set_cons_succ]
  have hger0_0 := Lib.hid (Nat.le_trans HU.out.size hnr0_0)
  have Bxr0y0 := Lib.hid hbr0_0
  have HU0 := Lib.hid (HU.out.trans hupd)
  clear hupd
  refine wpOps_nil ?_
  refine hK0 _ _ ?_
  clear hK0
  refine wp_seq_k fun K1 hK1 => ?_
  refine wp_seq_k fun K2 hK2 => ?_
  refine wp_region_qSD 2 #[true, true] [] ([.val (.bool true), .val (.bool false)] : List SQ) (by kernel_rfl) (by kernel_rfl) (by kernel_rfl) (by kernel_rfl) ?_ ?_
  · intro i o listed an wn ho hls hst hun hdep hI hD hpre K' hK'
    rcases slot_cases (l := [0, 1]) rfl ho hst with rfl | rfl | ⟨⟨⟩⟩
    · obtain rfl := Option.some.inj ho
      exact hI.callQ hD hls rfl rfl rfl 23 #[] _ rfl #[] (by simp) (run_enter Tryd.func23 (by kernel_rfl) (by kernel_rfl)) (.val (.bool true)) rfl rfl ((basedL _ (HT.out.upd (HU0.out.trans hI.upd))).mono fun _ _ h => ret_val h) hK'
    · obtain rfl := Option.some.inj ho
      obtain ⟨vp, hvp, rfl⟩ := hI.haveQ 0 _ 7 _ rfl rfl rfl (hdep ⟨0, .data⟩ (by simp) rfl)
      exact hI.pureQ hD hls rfl rfl rfl _ (run_not rfl (eval_of hvp) wn) (.val (.bool false)) rfl rfl rfl hK'
  intro an w2 hI
  obtain ⟨vr1_0, hvr1_0, rfl⟩ := hI.haveQ 0 _ 7 _ rfl rfl rfl rfl
  obtain ⟨vr1_1, hvr1_1, rfl⟩ := hI.haveQ 1 _ 8 _ rfl rfl rfl rfl
  have hupd := hI.upd
  have ha := hI.act [(7, .bool true), (8, .bool false)] (by simp [hvr1_0, hvr1_1]) (by kernel_rfl)
  clear hI hvr1_0 hvr1_1
  subst ha
  simp only [List.foldl_cons, List.foldl_nil, List.setIfInBounds_toArray, List.set_cons_zero, List.set_cons_succ]
  have Bxr0y0_1 := hupd.keep Bxr0y0
  have HU1 := Lib.hid (HU0.out.trans hupd)
  clear hupd
  refine wpOps_nil ?_
  refine hK2 _ _ ?_
  clear hK2
  refine wp_cond_false rfl ?_
  refine wp_skip ?_
  refine hK1 _ _ ?_
  clear hK1
  refine wp_seq_k fun K3 hK3 => ?_
  refine wp_region_qSD 6 #[true, true, true, true, true, true, false, false] [6, 7] ([.val (.agg (numsA .u8 k)), .like (IsCV 20 RP [some eP] (.int .i64 0)), .like (IsCV 20 RP [some eP] (.int .i64 0)), .like (IsC 20 RP [some eP]), .val (.int .i64 0), .blk ptrTo 41 (Ch 20 RP [none]), .val undef, .val undef] : List SQ) (by kernel_rfl) (by kernel_rfl) (by kernel_rfl) (by kernel_rfl) ?_ ?_
  · intro i o listed an wn ho hls hst hun hdep hI hD hpre K' hK'
    rcases slot_cases (l := [0, 1, 2, 3, 4, 5]) rfl ho hst with rfl | rfl | rfl | rfl | rfl | rfl | ⟨⟨⟩⟩
    · obtain rfl := Option.some.inj ho
      have hvp : an.eval (.tmp 1) = ptrTo br0_0 := hI.oldQ (by kernel_rfl) rfl
      exact hI.pureQ hD hls rfl rfl rfl _ (run_loadQ rfl hvp wn (hI.upd.keep Bxr0y0_1).out Tryd.underlying23 rfl sizeKey (by rw [numsA_size, hl]; omega)) (.val (.agg (numsA .u8 k))) rfl (congrArg Value.agg (extract_all _ 32 (by rw [numsA_size]; exact hl))) rfl hK'
    · obtain rfl := Option.some.inj ho
      obtain ⟨vp, hvp, rfl⟩ := hI.haveQ 0 _ 10 _ rfl rfl rfl (hdep ⟨0, .data⟩ (by simp) rfl)
      exact hI.callQ hD hls rfl rfl rfl 24 #[.tmp 10] _ rfl #[.agg (numsA .u8 k)] (by simp [eval_of hvp]) (run_enter Tryd.func24 (by kernel_rfl) (by kernel_rfl)) (.like (IsCV 20 RP [some eP] (.int .i64 0))) rfl rfl ((decodeT _ (HT.out.upd (HU1.out.trans hI.upd)) hl hd hk).mono fun _ _ h => h.sq) hK'
    · obtain rfl := Option.some.inj ho
      obtain ⟨vp, hvp, ap, rfl, hCp⟩ := hI.haveQ 1 _ 11 _ rfl rfl rfl (hdep ⟨1, .data⟩ (by simp) rfl)
      exact hI.pureQ hD hls rfl rfl rfl _ (run_moveQ (.inl rfl) (eval_of hvp) wn) (.like (IsCV 20 RP [some eP] (.int .i64 0))) rfl ⟨_, rfl, hCp⟩ rfl hK'
    · obtain rfl := Option.some.inj ho
      obtain ⟨vp, hvp, ap, rfl, hCp⟩ := hI.haveQ 2 _ 9 _ rfl rfl rfl (hdep ⟨2, .data⟩ (by simp) rfl)
      exact hI.pureQ hD hls rfl rfl rfl _ (run_extractQ rfl (eval_of hvp) rfl wn) (.like (IsC 20 RP [some eP])) rfl ⟨_, rfl, hCp⟩ rfl hK'
    · obtain rfl := Option.some.inj ho
      obtain ⟨vp, hvp, ap, rfl, hCp⟩ := hI.haveQ 2 _ 9 _ rfl rfl rfl (hdep ⟨2, .data⟩ (by simp) rfl)
      exact hI.pureQ hD hls rfl rfl rfl _ (run_extractQ rfl (eval_of hvp) rfl wn) (.val (.int .i64 0)) rfl rfl rfl hK'
    · obtain rfl := Option.some.inj ho
      exact hI.newQ hD hls (Nat.le_refl _) (newsQ_spec (l := [5]) (by kernel_rfl) ⟨⟨_, _, rfl⟩, trivial⟩) rfl rfl rfl 41 zPt _ (run_allocQ rfl zPt_run wn) rfl zPt_p hK'
  intro an w3 hI
  obtain ⟨vr2_0, hvr2_0, rfl⟩ := hI.haveQ 0 _ 10 _ rfl rfl rfl rfl
  obtain ⟨vr2_1, hvr2_1, ar2_1, rfl, hCr2_1⟩ := hI.haveQ 1 _ 11 _ rfl rfl rfl rfl
  obtain ⟨vr2_2, hvr2_2, ar2_2, rfl, hCr2_2⟩ := hI.haveQ 2 _ 9 _ rfl rfl rfl rfl
  obtain ⟨vr2_3, hvr2_3, ar2_3, rfl, hCr2_3⟩ := hI.haveQ 3 _ 12 _ rfl rfl rfl rfl
  obtain ⟨vr2_4, hvr2_4, rfl⟩ := hI.haveQ 4 _ 13 _ rfl rfl rfl rfl
  obtain ⟨vr2_5, hvr2_5, br2_5, zr2_5, rfl, hnr2_5, hbr2_5, hzr2_5⟩ := hI.haveQ 5 _ 3 _ rfl rfl rfl rfl
  have hupd := hI.upd
  have ha := hI.act [(10, .agg (numsA .u8 k)), (11, .tuple #[.agg ar2_1, .int .i64 0]), (9, .tuple #[.agg ar2_2, .int .i64 0]), (12, .agg ar2_3), (13, .int .i64 0), (3, ptrTo br2_5)] (by simp [hvr2_0, hvr2_1, hvr2_2, hvr2_3, hvr2_4, hvr2_5]) (by kernel_rfl)
  clear hI hvr2_0 hvr2_1 hvr2_2 hvr2_3 hvr2_4 hvr2_5
  subst ha
  simp only [List.foldl_cons, List.foldl_nil, List.setIfInBounds_toArray, List.set_cons_zero, List.set_cons_succ]
  have hner2_5_Bxr0y0_1 := Lib.hid (show br2_5 ≠ br0_0 from Nat.ne_of_gt (Nat.lt_of_lt_of_le Bxr0y0_1.out.lt hnr2_5))
  have hger2_5 := Lib.hid (Nat.le_trans HU1.out.size hnr2_5)
  have Bxr0y0_2 := hupd.keep Bxr0y0_1
  have Bxr2y5 := Lib.hid hbr2_5
  have HU2 := Lib.hid (HU1.out.trans hupd)
  clear hupd
  refine wpOps_storeQ 6 rfl rfl rfl 41 (.tmp 3) (.tmp 12) rfl br2_5 0 20 rfl ar2_3 rfl 41 zr2_5 Bxr2y5.out szPt hCr2_3.size (by rw [hzr2_5.size]; exact Nat.le_of_ble_eq_true rfl) hCr2_3.one' ?_
  intro ws2_0 hs2_0 hus2_0
  rw [splice_all _ _ 20 hzr2_5.size hCr2_3.size] at hs2_0
  have Bxr0y0_s2_0 := hus2_0.keepS Bxr0y0_2 (fun e => hner2_5_Bxr0y0_1.out e.symm)
  have Bxr2y5_s2_0 := Lib.hid hs2_0
  have HU2_0 := Lib.hid (HU2.out.step hus2_0 (fun i hi h => absurd hi (Nat.not_lt.2 (h.symm ▸ hger2_5.out))))
  clear hs2_0 hus2_0
  refine wpOps_pureQ 7 rfl rfl 4 rfl (.int .i64 0) (run_moveQ (x := .tmp 13) (v := .int .i64 0) (.inr rfl) rfl _) ?_
  simp only [List.setIfInBounds_toArray, List.set_cons_zero, List.set_cons_succ]
  refine wpOps_nil ?_
  refine hK3 _ _ ?_
  clear hK3
  refine wp_seq_k fun K4 hK4 => ?_
  refine wp_region_qSD 6 #[true, true, true, true, true, true, false, false] [6, 7] ([.val (.agg (numsA .u8 k)), .like (IsCV 48 RQ [some eP] (.int .i64 0)), .like (IsCV 48 RQ [some eP] (.int .i64 0)), .like (IsC 48 RQ [some eP]), .val (.int .i64 0), .blk ptrTo 47 (Ch 48 RQ [none]), .val undef, .val undef] : List SQ) (by kernel_rfl) (by kernel_rfl) (by kernel_rfl) (by kernel_rfl) ?_ ?_
  · intro i o listed an wn ho hls hst hun hdep hI hD hpre K' hK'
    rcases slot_cases (l := [0, 1, 2, 3, 4, 5]) rfl ho hst with rfl | rfl | rfl | rfl | rfl | rfl | ⟨⟨⟩⟩
    · obtain rfl := Option.some.inj ho
      have hvp : an.eval (.tmp 1) = ptrTo br0_0 := hI.oldQ (by kernel_rfl) rfl
      exact hI.pureQ hD hls rfl rfl rfl _ (run_loadQ rfl hvp wn (hI.upd.keep Bxr0y0_s2_0).out Tryd.underlying23 rfl sizeKey (by rw [numsA_size, hl]; omega)) (.val (.agg (numsA .u8 k))) rfl (congrArg Value.agg (extract_all _ 32 (by rw [numsA_size]; exact hl))) rfl hK'
    · obtain rfl := Option.some.inj ho
      obtain ⟨vp, hvp, rfl⟩ := hI.haveQ 0 _ 15 _ rfl rfl rfl (hdep ⟨0, .data⟩ (by simp) rfl)
      exact hI.callQ hD hls rfl rfl rfl 25 #[.tmp 15] _ rfl #[.agg (numsA .u8 k)] (by simp [eval_of hvp]) (run_enter Tryd.func25 (by kernel_rfl) (by kernel_rfl)) (.like (IsCV 48 RQ [some eP] (.int .i64 0))) rfl rfl ((rdecodeT _ hl hd hk).mono fun _ _ h => h.sq) hK'
    · obtain rfl := Option.some.inj ho
      obtain ⟨vp, hvp, ap, rfl, hCp⟩ := hI.haveQ 1 _ 16 _ rfl rfl rfl (hdep ⟨1, .data⟩ (by simp) rfl)
      exact hI.pureQ hD hls rfl rfl rfl _ (run_moveQ (.inl rfl) (eval_of hvp) wn) (.like (IsCV 48 RQ [some eP] (.int .i64 0))) rfl ⟨_, rfl, hCp⟩ rfl hK'
    · obtain rfl := Option.some.inj ho
      obtain ⟨vp, hvp, ap, rfl, hCp⟩ := hI.haveQ 2 _ 14 _ rfl rfl rfl (hdep ⟨2, .data⟩ (by simp) rfl)
      exact hI.pureQ hD hls rfl rfl rfl _ (run_extractQ rfl (eval_of hvp) rfl wn) (.like (IsC 48 RQ [some eP])) rfl ⟨_, rfl, hCp⟩ rfl hK'
    · obtain rfl := Option.some.inj ho
      obtain ⟨vp, hvp, ap, rfl, hCp⟩ := hI.haveQ 2 _ 14 _ rfl rfl rfl (hdep ⟨2, .data⟩ (by simp) rfl)
      exact hI.pureQ hD hls rfl rfl rfl _ (run_extractQ rfl (eval_of hvp) rfl wn) (.val (.int .i64 0)) rfl rfl rfl hK'
    · obtain rfl := Option.some.inj ho
      exact hI.newQ hD hls (Nat.le_refl _) (newsQ_spec (l := [5]) (by kernel_rfl) ⟨⟨_, _, rfl⟩, trivial⟩) rfl rfl rfl 47 zR6 _ (run_allocQ rfl zR6_run wn) rfl zR6_q hK'
  intro an w4 hI
  obtain ⟨vr3_0, hvr3_0, rfl⟩ := hI.haveQ 0 _ 15 _ rfl rfl rfl rfl
  obtain ⟨vr3_1, hvr3_1, ar3_1, rfl, hCr3_1⟩ := hI.haveQ 1 _ 16 _ rfl rfl rfl rfl
  obtain ⟨vr3_2, hvr3_2, ar3_2, rfl, hCr3_2⟩ := hI.haveQ 2 _ 14 _ rfl rfl rfl rfl
  obtain ⟨vr3_3, hvr3_3, ar3_3, rfl, hCr3_3⟩ := hI.haveQ 3 _ 17 _ rfl rfl rfl rfl
  obtain ⟨vr3_4, hvr3_4, rfl⟩ := hI.haveQ 4 _ 18 _ rfl rfl rfl rfl
  obtain ⟨vr3_5, hvr3_5, br3_5, zr3_5, rfl, hnr3_5, hbr3_5, hzr3_5⟩ := hI.haveQ 5 _ 5 _ rfl rfl rfl rfl
  have hupd := hI.upd
  have ha := hI.act [(15, .agg (numsA .u8 k)), (16, .tuple #[.agg ar3_1, .int .i64 0]), (14, .tuple #[.agg ar3_2, .int .i64 0]), (17, .agg ar3_3), (18, .int .i64 0), (5, ptrTo br3_5)] (by simp [hvr3_0, hvr3_1, hvr3_2, hvr3_3, hvr3_4, hvr3_5]) (by kernel_rfl)
  clear hI hvr3_0 hvr3_1 hvr3_2 hvr3_3 hvr3_4 hvr3_5
  subst ha
  simp only [List.foldl_cons, List.foldl_nil, List.setIfInBounds_toArray, List.set_cons_zero, List.set_cons_succ]
  have hner3_5_Bxr0y0_s2_0 := Lib.hid (show br3_5 ≠ br0_0 from Nat.ne_of_gt (Nat.lt_of_lt_of_le Bxr0y0_s2_0.out.lt hnr3_5))
  have hner3_5_Bxr2y5_s2_0 := Lib.hid (show br3_5 ≠ br2_5 from Nat.ne_of_gt (Nat.lt_of_lt_of_le Bxr2y5_s2_0.out.lt hnr3_5))
  have hger3_5 := Lib.hid (Nat.le_trans HU2_0.out.size hnr3_5)
  have Bxr0y0_3 := hupd.keep Bxr0y0_s2_0
  have Bxr2y5_3 := hupd.keep Bxr2y5_s2_0
  have Bxr3y5 := Lib.hid hbr3_5
  have HU3 := Lib.hid (HU2_0.out.trans hupd)
  clear hupd
  refine wpOps_storeQ 6 rfl rfl rfl 47 (.tmp 5) (.tmp 17) rfl br3_5 0 48 rfl ar3_3 rfl 47 zr3_5 Bxr3y5.out szR6 hCr3_3.size (by rw [hzr3_5.size]; exact Nat.le_of_ble_eq_true rfl) hCr3_3.one' ?_
  intro ws3_0 hs3_0 hus3_0
  rw [splice_all _ _ 48 hzr3_5.size hCr3_3.size] at hs3_0
  have Bxr0y0_s3_0 := hus3_0.keepS Bxr0y0_3 (fun e => hner3_5_Bxr0y0_s2_0.out e.symm)
  have Bxr2y5_s3_0 := hus3_0.keepS Bxr2y5_3 (fun e => hner3_5_Bxr2y5_s2_0.out e.symm)
  have Bxr3y5_s3_0 := Lib.hid hs3_0
  have HU3_0 := Lib.hid (HU3.out.step hus3_0 (fun i hi h => absurd hi (Nat.not_lt.2 (h.symm ▸ hger3_5.out))))
  clear hs3_0 hus3_0
  refine wpOps_pureQ 7 rfl rfl 6 rfl (.int .i64 0) (run_moveQ (x := .tmp 18) (v := .int .i64 0) (.inr rfl) rfl _) ?_
  simp only [List.setIfInBounds_toArray, List.set_cons_zero, List.set_cons_succ]
  refine wpOps_nil ?_
  refine hK4 _ _ ?_
  clear hK4
  refine wp_seq_k fun K5 hK5 => ?_
  refine wp_seq_k fun K6 hK6 => ?_
  refine wp_region_qSD 3 #[true, true, true] [] ([.val (.int .i64 0), .val (.int .i64 0), .val (.bool false)] : List SQ) (by kernel_rfl) (by kernel_rfl) (by kernel_rfl) (by kernel_rfl) ?_ ?_
  · intro i o listed an wn ho hls hst hun hdep hI hD hpre K' hK'
    rcases slot_cases (l := [0, 1, 2]) rfl ho hst with rfl | rfl | rfl | ⟨⟨⟩⟩
    · obtain rfl := Option.some.inj ho
      have hvp : an.eval (.tmp 4) = .int .i64 0 := hI.oldQ (by kernel_rfl) rfl
      exact hI.pureQ hD hls rfl rfl rfl _ (run_moveQ (.inl rfl) hvp wn) (.val (.int .i64 0)) rfl rfl rfl hK'
    · obtain rfl := Option.some.inj ho
      have hvp : an.eval (.tmp 6) = .int .i64 0 := hI.oldQ (by kernel_rfl) rfl
      exact hI.pureQ hD hls rfl rfl rfl _ (run_moveQ (.inl rfl) hvp wn) (.val (.int .i64 0)) rfl rfl rfl hK'
    · obtain rfl := Option.some.inj ho
      obtain ⟨vp, hvp, rfl⟩ := hI.haveQ 0 _ 19 _ rfl rfl rfl (hdep ⟨0, .data⟩ (by simp) rfl)
      obtain ⟨vq, hvq, rfl⟩ := hI.haveQ 1 _ 20 _ rfl rfl rfl (hdep ⟨1, .data⟩ (by simp) rfl)
      exact hI.pureQ hD hls rfl rfl rfl _ (run_neq rfl (eval_of hvp) (eval_of hvq) (ne_of_eqB (show decide ((0 : Int) = 0) = true by decide)) wn) (.val (.bool false)) rfl rfl rfl hK'
  intro an w5 hI
  obtain ⟨vr4_0, hvr4_0, rfl⟩ := hI.haveQ 0 _ 19 _ rfl rfl rfl rfl
  obtain ⟨vr4_1, hvr4_1, rfl⟩ := hI.haveQ 1 _ 20 _ rfl rfl rfl rfl
  obtain ⟨vr4_2, hvr4_2, rfl⟩ := hI.haveQ 2 _ 21 _ rfl rfl rfl rfl
  have hupd := hI.upd
  have ha := hI.act [(19, .int .i64 0), (20, .int .i64 0), (21, .bool false)] (by simp [hvr4_0, hvr4_1, hvr4_2]) (by kernel_rfl)
  clear hI hvr4_0 hvr4_1 hvr4_2
  subst ha
  simp only [List.foldl_cons, List.foldl_nil, List.setIfInBounds_toArray, List.set_cons_zero, List.set_cons_succ]
  have Bxr0y0_4 := hupd.keep Bxr0y0_s3_0
  have Bxr2y5_4 := hupd.keep Bxr2y5_s3_0
  have Bxr3y5_4 := hupd.keep Bxr3y5_s3_0
  have HU4 := Lib.hid (HU3_0.out.trans hupd)
  clear hupd
  refine wpOps_nil ?_
  refine hK6 _ _ ?_
  clear hK6
  refine wp_cond_false rfl ?_
  refine wp_skip ?_
  refine hK5 _ _ ?_
  clear hK5
  refine wp_seq_k fun K7 hK7 => ?_
  refine wp_region_qD #[true, true, true, true, true, true, true, true, true, true, true, true, true, true, true] ([.val (.int .i64 0), .val (.bool false), .val (.bool false), .val (.agg ar2_3), .val (.agg (numsA .u8 (encP eP))), .val (.agg (numsA .u8 k)), .val (.bool true), .val (.bool true), .val (.agg ar3_3), .val (.agg (numsA .u8 (encP eP))), .val (.agg (numsA .u8 k)), .val (.bool true), .val (.bool true), .val (.bool true), .val (.bool true)] : List SQ) (by kernel_rfl) (by kernel_rfl) (by kernel_rfl) (by kernel_rfl) ?_ ?_
  · intro i o listed an wn ho hls hst hun hdep hI hD K' hK'
    rcases slot_cases (l := [0, 1, 2, 3, 4, 5, 6, 7, 8, 9, 10, 11, 12, 13, 14]) rfl ho hst with rfl | rfl | rfl | rfl | rfl | rfl | rfl | rfl | rfl | rfl | rfl | rfl | rfl | rfl | rfl | ⟨⟨⟩⟩
    · obtain rfl := Option.some.inj ho
      have hvp : an.eval (.tmp 6) = .int .i64 0 := hI.oldQ (by kernel_rfl) rfl
      exact hI.pureQ hD hls rfl rfl rfl _ (run_moveQ (.inl rfl) hvp wn) (.val (.int .i64 0)) rfl rfl rfl hK'
    · obtain rfl := Option.some.inj ho
      obtain ⟨vp, hvp, rfl⟩ := hI.haveQ 0 _ 22 _ rfl rfl rfl (hdep ⟨0, .data⟩ (by simp) rfl)
      exact hI.pureQ hD hls rfl rfl rfl _ (run_neq rfl (eval_of hvp) rfl (ne_of_eqB (show decide ((0 : Int) = 0) = true by decide)) wn) (.val (.bool false)) rfl rfl rfl hK'
    · obtain rfl := Option.some.inj ho
      obtain ⟨vp, hvp, rfl⟩ := hI.haveQ 1 _ 23 _ rfl rfl rfl (hdep ⟨1, .data⟩ (by simp) rfl)
      exact hI.pureQ hD hls rfl rfl rfl _ (run_moveQ (.inl rfl) (eval_of hvp) wn) (.val (.bool false)) rfl rfl rfl hK'
    · obtain rfl := Option.some.inj ho
      obtain ⟨vg, hvg, rfl⟩ := hI.haveQ 2 _ 24 _ rfl rfl rfl (hdep ⟨2, .guard⟩ (by simp) rfl)
      have hvp : an.eval (.tmp 3) = ptrTo br2_5 := hI.oldQ (by kernel_rfl) rfl
      exact hI.pureQ hD hls rfl (wanted_of rfl rfl rfl hvg) rfl _ (run_loadQ rfl hvp wn (hI.upd.keepD Bxr2y5_4).out Tryd.underlying41 rfl szPt (by rw [hCr2_3.size]; exact Nat.le_of_ble_eq_true rfl)) (.val (.agg ar2_3)) rfl (congrArg Value.agg (extract_all _ 20 hCr2_3.size)) rfl hK'
    · obtain rfl := Option.some.inj ho
      obtain ⟨vg, hvg, rfl⟩ := hI.haveQ 2 _ 24 _ rfl rfl rfl (hdep ⟨2, .guard⟩ (by simp) rfl)
      obtain ⟨vp, hvp, rfl⟩ := hI.haveQ 3 _ 25 _ rfl rfl rfl (hdep ⟨3, .data⟩ (by simp) rfl)
      exact hI.callQ hD hls rfl (wanted_of rfl rfl rfl hvg) rfl 26 #[.tmp 25] _ rfl #[.agg ar2_3] (by simp [eval_of hvp]) (run_enter Tryd.func26 (by kernel_rfl) (by kernel_rfl)) (.val (.agg (numsA .u8 (encP eP)))) rfl rfl ((encodeR _ hCr2_3).mono fun _ _ h => ret_val h) hK'
    · obtain rfl := Option.some.inj ho
      obtain ⟨vg, hvg, rfl⟩ := hI.haveQ 2 _ 24 _ rfl rfl rfl (hdep ⟨2, .guard⟩ (by simp) rfl)
      have hvp : an.eval (.tmp 1) = ptrTo br0_0 := hI.oldQ (by kernel_rfl) rfl
      exact hI.pureQ hD hls rfl (wanted_of rfl rfl rfl hvg) rfl _ (run_loadQ rfl hvp wn (hI.upd.keepD Bxr0y0_4).out Tryd.underlying23 rfl sizeKey (by rw [numsA_size, hl]; omega)) (.val (.agg (numsA .u8 k))) rfl (congrArg Value.agg (extract_all _ 32 (by rw [numsA_size]; exact hl))) rfl hK'
    · obtain rfl := Option.some.inj ho
      obtain ⟨vg, hvg, rfl⟩ := hI.haveQ 2 _ 24 _ rfl rfl rfl (hdep ⟨2, .guard⟩ (by simp) rfl)
      obtain ⟨vp, hvp, rfl⟩ := hI.haveQ 4 _ 26 _ rfl rfl rfl (hdep ⟨4, .data⟩ (by simp) rfl)
      obtain ⟨vq, hvq, rfl⟩ := hI.haveQ 5 _ 27 _ rfl rfl rfl (hdep ⟨5, .data⟩ (by simp) rfl)
      exact hI.pureQ hD hls rfl (wanted_of rfl rfl rfl hvg) rfl _ (run_eqlK (b := true) rfl (eval_of hvp) (eval_of hvq) (encP_length _) hl (decide_eq_true hk) wn) (.val (.bool true)) rfl rfl rfl hK'
    · obtain rfl := Option.some.inj ho
      obtain ⟨vg, hvg, rfl⟩ := hI.haveQ 2 _ 24 _ rfl rfl rfl (hdep ⟨2, .guard⟩ (by simp) rfl)
      obtain ⟨vp, hvp, rfl⟩ := hI.haveQ 6 _ 28 _ rfl rfl rfl (hdep ⟨6, .data⟩ (by simp) rfl)
      exact hI.pureQ hD hls rfl (wanted_of rfl rfl rfl hvg) rfl _ (run_moveQ (.inl rfl) (eval_of hvp) wn) (.val (.bool true)) rfl rfl rfl hK'
    · obtain rfl := Option.some.inj ho
      obtain ⟨vg, hvg, rfl⟩ := hI.haveQ 7 _ 29 _ rfl rfl rfl (hdep ⟨7, .guard⟩ (by simp) rfl)
      have hvp : an.eval (.tmp 5) = ptrTo br3_5 := hI.oldQ (by kernel_rfl) rfl
      exact hI.pureQ hD hls rfl (wanted_of rfl rfl rfl hvg) rfl _ (run_loadQ rfl hvp wn (hI.upd.keepD Bxr3y5_4).out Tryd.underlying47 rfl szR6 (by rw [hCr3_3.size]; exact Nat.le_of_ble_eq_true rfl)) (.val (.agg ar3_3)) rfl (congrArg Value.agg (extract_all _ 48 hCr3_3.size)) rfl hK'
    · obtain rfl := Option.some.inj ho
      obtain ⟨vg, hvg, rfl⟩ := hI.haveQ 7 _ 29 _ rfl rfl rfl (hdep ⟨7, .guard⟩ (by simp) rfl)
      obtain ⟨vp, hvp, rfl⟩ := hI.haveQ 8 _ 30 _ rfl rfl rfl (hdep ⟨8, .data⟩ (by simp) rfl)
      exact hI.callQ hD hls rfl (wanted_of rfl rfl rfl hvg) rfl 27 #[.tmp 30] _ rfl #[.agg ar3_3] (by simp [eval_of hvp]) (run_enter Tryd.func27 (by kernel_rfl) (by kernel_rfl)) (.val (.agg (numsA .u8 (encP eP)))) rfl rfl ((rencodeR _ hCr3_3).mono fun _ _ h => ret_val h) hK'
    · obtain rfl := Option.some.inj ho
      obtain ⟨vg, hvg, rfl⟩ := hI.haveQ 7 _ 29 _ rfl rfl rfl (hdep ⟨7, .guard⟩ (by simp) rfl)
      have hvp : an.eval (.tmp 1) = ptrTo br0_0 := hI.oldQ (by kernel_rfl) rfl
      exact hI.pureQ hD hls rfl (wanted_of rfl rfl rfl hvg) rfl _ (run_loadQ rfl hvp wn (hI.upd.keepD Bxr0y0_4).out Tryd.underlying23 rfl sizeKey (by rw [numsA_size, hl]; omega)) (.val (.agg (numsA .u8 k))) rfl (congrArg Value.agg (extract_all _ 32 (by rw [numsA_size]; exact hl))) rfl hK'
    · obtain rfl := Option.some.inj ho
      obtain ⟨vg, hvg, rfl⟩ := hI.haveQ 7 _ 29 _ rfl rfl rfl (hdep ⟨7, .guard⟩ (by simp) rfl)
      obtain ⟨vp, hvp, rfl⟩ := hI.haveQ 9 _ 31 _ rfl rfl rfl (hdep ⟨9, .data⟩ (by simp) rfl)
      obtain ⟨vq, hvq, rfl⟩ := hI.haveQ 10 _ 32 _ rfl rfl rfl (hdep ⟨10, .data⟩ (by simp) rfl)
      exact hI.pureQ hD hls rfl (wanted_of rfl rfl rfl hvg) rfl _ (run_eqlK (b := true) rfl (eval_of hvp) (eval_of hvq) (encP_length _) hl (decide_eq_true hk) wn) (.val (.bool true)) rfl rfl rfl hK'
    · obtain rfl := Option.some.inj ho
      obtain ⟨vg, hvg, rfl⟩ := hI.haveQ 2 _ 24 _ rfl rfl rfl (hdep ⟨2, .guard⟩ (by simp) rfl)
      obtain ⟨vp, hvp, rfl⟩ := hI.haveQ 7 _ 29 _ rfl rfl rfl (hdep ⟨7, .data⟩ (by simp) rfl)
      obtain ⟨vq, hvq, rfl⟩ := hI.haveQ 11 _ 33 _ rfl rfl rfl (hdep ⟨11, .data⟩ (by simp) rfl)
      exact hI.pureQ hD hls rfl (wanted_of rfl rfl rfl hvg) rfl _ (run_pickT rfl (eval_of hvp) (eval_of hvq) wn) (.val (.bool true)) rfl rfl rfl hK'
    · obtain rfl := Option.some.inj ho
      obtain ⟨vp, hvp, rfl⟩ := hI.haveQ 2 _ 24 _ rfl rfl rfl (hdep ⟨2, .data⟩ (by simp) rfl)
      obtain ⟨vq, hvq, rfl⟩ := hI.haveQ 12 _ 34 _ rfl rfl rfl (hdep ⟨12, .data⟩ (by simp) rfl)
      exact hI.pureQ hD hls rfl rfl rfl _ (run_pickF rfl (eval_of hvp) (eval_of hvq) wn) (.val (.bool true)) rfl rfl rfl hK'
    · obtain rfl := Option.some.inj ho
      obtain ⟨vp, hvp, rfl⟩ := hI.haveQ 13 _ 35 _ rfl rfl rfl (hdep ⟨13, .data⟩ (by simp) rfl)
      exact hI.pureQ hD hls rfl rfl rfl _ (run_moveQ (.inr rfl) (eval_of hvp) wn) (.val (.bool true)) rfl rfl rfl hK'
  intro fuel an w6 hf hI
  obtain ⟨vr5_0, hvr5_0, rfl⟩ := hI.haveQ 0 _ 22 _ rfl rfl rfl rfl
  obtain ⟨vr5_1, hvr5_1, rfl⟩ := hI.haveQ 1 _ 23 _ rfl rfl rfl rfl
  obtain ⟨vr5_2, hvr5_2, rfl⟩ := hI.haveQ 2 _ 24 _ rfl rfl rfl rfl
  obtain ⟨vr5_3, hvr5_3, rfl⟩ := hI.haveQ 3 _ 25 _ rfl rfl rfl rfl
  obtain ⟨vr5_4, hvr5_4, rfl⟩ := hI.haveQ 4 _ 26 _ rfl rfl rfl rfl
  obtain ⟨vr5_5, hvr5_5, rfl⟩ := hI.haveQ 5 _ 27 _ rfl rfl rfl rfl
  obtain ⟨vr5_6, hvr5_6, rfl⟩ := hI.haveQ 6 _ 28 _ rfl rfl rfl rfl
  obtain ⟨vr5_7, hvr5_7, rfl⟩ := hI.haveQ 7 _ 29 _ rfl rfl rfl rfl
  obtain ⟨vr5_8, hvr5_8, rfl⟩ := hI.haveQ 8 _ 30 _ rfl rfl rfl rfl
  obtain ⟨vr5_9, hvr5_9, rfl⟩ := hI.haveQ 9 _ 31 _ rfl rfl rfl rfl
  obtain ⟨vr5_10, hvr5_10, rfl⟩ := hI.haveQ 10 _ 32 _ rfl rfl rfl rfl
  obtain ⟨vr5_11, hvr5_11, rfl⟩ := hI.haveQ 11 _ 33 _ rfl rfl rfl rfl
  obtain ⟨vr5_12, hvr5_12, rfl⟩ := hI.haveQ 12 _ 34 _ rfl rfl rfl rfl
  obtain ⟨vr5_13, hvr5_13, rfl⟩ := hI.haveQ 13 _ 35 _ rfl rfl rfl rfl
  obtain ⟨vr5_14, hvr5_14, rfl⟩ := hI.haveQ 14 _ 2 _ rfl rfl rfl rfl
  have hupd := hI.upd
  have ha := hI.act [(22, .int .i64 0), (23, .bool false), (24, .bool false), (25, .agg ar2_3), (26, .agg (numsA .u8 (encP eP))), (27, .agg (numsA .u8 k)), (28, .bool true), (29, .bool true), (30, .agg ar3_3), (31, .agg (numsA .u8 (encP eP))), (32, .agg (numsA .u8 k)), (33, .bool true), (34, .bool true), (35, .bool true), (2, .bool true)] (by simp [hvr5_0, hvr5_1, hvr5_2, hvr5_3, hvr5_4, hvr5_5, hvr5_6, hvr5_7, hvr5_8, hvr5_9, hvr5_10, hvr5_11, hvr5_12, hvr5_13, hvr5_14]) (by kernel_rfl)
  clear hI hvr5_0 hvr5_1 hvr5_2 hvr5_3 hvr5_4 hvr5_5 hvr5_6 hvr5_7 hvr5_8 hvr5_9 hvr5_10 hvr5_11 hvr5_12 hvr5_13 hvr5_14
  subst ha
  simp only [List.foldl_cons, List.foldl_nil, List.setIfInBounds_toArray, List.set_cons_zero, List.set_cons_succ]
  have Bxr0y0_5 := hupd.keepD Bxr0y0_4
  have Bxr2y5_5 := hupd.keepD Bxr2y5_4
  have Bxr3y5_5 := hupd.keepD Bxr3y5_4
  have HU5 := Lib.hid (HU4.out.drew.trans hupd)
  clear hupd
  refine wpAny_done (by kernel_rfl) ?_ _
  refine hK7 _ _ ?_
  clear hK7
  refine wp_ret ?_
  try dsimp only [Exit.then]
  try dsimp only [Exit.inBlock]
  exact bodyPost_ret (v := .bool true) (results_tmpQ (fn := Tryd.f8) (t := 2) rfl _ _ (.bool true) rfl) rfl ⟨rfl, HU5.out⟩
theorem pointReads_any {k : List Int} (w : World) (hT : Tw w) (hl : k.length = 32) (hd : Digs 256 k) : Calls Tryd.prog 8 #[.agg (numsA .u8 k)] w fun e w' => e = .returned (.bool true) ∧ Upd (fun _ => False) w w' := by
  by_cases h : ∃ e : EP, encP e = k
  · obtain ⟨e, he⟩ := h
    exact preadsT w hT hl hd he
  · exact preadsN w hT hl hd (fun e he => h ⟨e, he⟩)
end Go.Proofs.YtdpafemcpbhlfaaDoor
